/- What lock's Take, Leave and Waits answer and leave, for every lock, and what all calls of a lock that is not there answer. -/
import Derived.Test.YtaomcakgeiiclaaRows
import Derived.Test.YtaomcakgeiiclaaLa
import Derived.WalkKit
import Derived.ProofKit
import Derived.OpenShut
import Derived.BigQuiet
import Derived.Deep.RegionHeld3
namespace Go.Proofs.Ytaomcakgeiiclaa
open Go.ChangeShapes Go.WideShapes Go.ChangeAt Go.RowKit
open Fm Ll

theorem sp_take {w : World} {b : Nat} {A L : List Int} (h : SP w b A L) (c : Int) (hc : 0 ≤ c ∧ c < 64) (hm : c ∉ L) (x : Int) (hx : x = (L.length : Int) + 1) :
    SP ((w.setCell ⟨b, L.length, none⟩ (.int .i64 c)).setCell ⟨b, 64, none⟩ (.int .i64 x)) b (A.set L.length c) (L ++ [c]) := by
  have hl := h.ln.lt c hc hm
  have ha := h.len
  refine ⟨?_, by simp [ha], ?_, ln_add h.ln c hc hm⟩
  · have := (h.sb.set L.length (.int .i64 c)).set 64 (.int .i64 x)
    rw [List.set_append_left _ _ (by simp; omega), List.set_append_right _ _ (by simp; omega), ← List.map_set] at this
    subst hx
    simpa [ha] using this
  · rw [List.length_append, List.length_singleton, List.take_succ_eq_append_getElem (by simp; omega), List.take_set_of_le (by omega), h.is]
    simp

set_option maxHeartbeats 1000000 in
theorem take_any {b : Nat} {A L : List Int} (c : Int) (w : World) (h : SP w b A L) :
    Calls Try.prog 11 #[.pointer (some ⟨b, 0, none⟩), .int .i64 c] w fun e w' => e = .returned (.int .i64 (tkE L c)) ∧ (∃ A', SP w' b A' (tkL L c)) ∧ Fr w.heap.size [b] w w' := by
  have C : Hid (∀ _ : Unit, _) := fun _ => isCore_any c w
  have D : Hid (∀ _ : Unit, _) := fun _ => wanted_any w h
  have HS : Hid (SP w b A L) := h
  have hl : (L.length : Int) ≤ 64 := by have := h.ln.len; omega
  have E : Hid (∀ k : Nat, _) := fun k => contains_any L (.slice (some ⟨b, 0, none⟩) L.length 64) c (w.drewN k) (by omega) ((h.heap rfl).row 64)
  by_cases i : ic c = true
  · rw [i] at C
    by_cases m : c ∈ L
    · rw [decide_eq_true m] at E
      rw [show tkE L c = 6 by unfold tkE; rw [if_pos i, if_pos m], show tkL L c = L by unfold tkL; rw [if_pos i, if_pos m]]
      clear h i m
      generalize L.length = l at *
      go_enter Try.func11, Try.ntmps11
      go_wp2_with fail
      refine (C.out ()).mono ?_
      rintro e w' ⟨rfl, rfl⟩
      go_wp2_with fail
      refine (D.out ()).mono ?_
      rintro e w' ⟨rfl, k, rfl⟩
      go_wp2_with fail
      refine (E.out k).mono ?_
      rintro e w' ⟨rfl, rfl⟩
      go_wp2
      go_ret
      exact ⟨rfl, ⟨_, HS.out.heap rfl⟩, (Fr.refl _ _ _).drewN _⟩
    · rw [decide_eq_false m] at E
      rw [show tkE L c = 0 by unfold tkE; rw [if_pos i, if_neg m], show tkL L c = L ++ [c] by unfold tkL; rw [if_pos i, if_neg m]]
      have hl2 : (L.length : Int) < 64 := by have := h.ln.lt c (ic_true i) m; omega
      have c1 := h.c
      have c2 := h.at L.length (by omega)
      have f1 := h.f 64
      have f2 := h.f L.length
      have n1 : ¬ (64 = L.length) := by omega
      have ST : Hid (∀ w1 : World, w1.heap = w.heap → ∀ x : Int, x = (L.length : Int) + 1 → _) := fun w1 e x hx => sp_take (h.heap e) c (ic_true i) m x hx
      generalize A.getD L.length 0 = old at *
      clear h i m
      generalize L.length = l at *
      go_enter Try.func11, Try.ntmps11
      go_wp2_with fail
      refine (C.out ()).mono ?_
      rintro e w' ⟨rfl, rfl⟩
      go_wp2_with fail
      refine (D.out ()).mono ?_
      rintro e w' ⟨rfl, k, rfl⟩
      go_wp2_with fail
      refine (E.out k).mono ?_
      rintro e w' ⟨rfl, rfl⟩
      go_wp2_with fail
      go_region
      all_goals go_wp2
      go_ret
      refine ⟨rfl, ⟨_, ST.out (World.drewN _ _) rfl _ rfl⟩, ((Fr.drewN ?_ _).setCell (Or.inr (by simp)) _).setCell (Or.inr (by simp)) _⟩
      exact Fr.refl _ _ _
  · have i2 : ic c = false := by simpa using i
    rw [i2] at C
    rw [show tkE L c = 3 by unfold tkE; rw [if_neg i], show tkL L c = L by unfold tkL; rw [if_neg i]]
    clear h i i2 E D
    generalize L.length = l at *
    go_enter Try.func11, Try.ntmps11
    go_wp2_with fail
    refine (C.out ()).mono ?_
    rintro e w' ⟨rfl, rfl⟩
    go_wp2
    go_ret
    exact ⟨rfl, ⟨_, HS.out⟩, Fr.refl _ _ _⟩

theorem sp_leave {w w1 : World} {b : Nat} {A L : List Int} (h : SP w b A L) (hp : 0 < L.length) (f : Blk w1 b (splice (A.map (Value.int .i64) ++ [.int .i64 (L.length : Int)]) 0 (L.tail.map (Value.int .i64))) 26) (x : Int) (hx : x = (L.length : Int) - 1) :
    SP (w1.setCell ⟨b, 64, none⟩ (.int .i64 x)) b (L.tail ++ A.drop L.tail.length) L.tail := by
  have hl := h.ln.len
  have ha := h.len
  have ht : L.tail.length = L.length - 1 := by simp
  refine ⟨?_, by simp [ha]; omega, by simp, ln_tail h.ln⟩
  have := f.set 64 (.int .i64 x)
  have e : splice (A.map (Value.int .i64) ++ [.int .i64 (L.length : Int)]) 0 (L.tail.map (Value.int .i64)) = (L.tail ++ A.drop L.tail.length).map (Value.int .i64) ++ [.int .i64 (L.length : Int)] := by
    unfold splice
    rw [List.take_zero, List.nil_append, Nat.zero_add, List.length_map, List.drop_append_of_le_length (by simp [ha]; omega), List.map_append, List.map_drop, List.append_assoc]
  rw [e, List.set_append_right _ _ (by simp [ha]; omega)] at this
  have e2 : ((L.tail.length : Nat) : Int) = x := by omega
  rw [e2]
  have e3 : 64 - ((L.tail ++ A.drop L.tail.length).map (Value.int .i64)).length = 0 := by simp [ha]; omega
  rw [e3] at this
  exact this

set_option maxHeartbeats 4000000 in
theorem leave_any {b : Nat} {A L : List Int} (c : Int) (w : World) (h : SP w b A L) :
    Calls Try.prog 9 #[.pointer (some ⟨b, 0, none⟩), .int .i64 c] w fun e w' => e = .returned (.int .i64 (lvE L c)) ∧ (∃ A', SP w' b A' (lvL L c)) ∧ Fr w.heap.size [b] w w' := by
  have C : Hid (∀ _ : Unit, _) := fun _ => isCore_any c w
  have D : Hid (∀ _ : Unit, _) := fun _ => owner_any w h
  have HS : Hid (SP w b A L) := h
  by_cases i : ic c = true
  · rw [i] at C
    by_cases m : owns L c = true
    · obtain ⟨m1, m2⟩ : L ≠ [] ∧ L.headD 0 = c := of_decide_eq_true m
      rw [decide_eq_true m1, m2] at D
      rw [show lvE L c = 0 by unfold lvE; rw [if_pos i, if_pos m], show lvL L c = L.tail by unfold lvL; rw [if_pos i, if_pos m]]
      have hp : 0 < L.length := List.length_pos_iff.2 m1
      have hl := h.ln.len
      have hl2 : (L.length : Int) ≤ 64 := by omega
      have hp2 : (1 : Int) ≤ L.length := by omega
      have E : Hid (∀ w1 : World, w1.heap = w.heap → _) := fun w1 e => wanted_any w1 (h.heap e)
      have c1 := h.c
      have SB : Hid (∀ w1 : World, w1.heap = w.heap → Blk w1 b _ _) := fun w1 e => (h.heap e).sb
      have ST : Hid (∀ (w1 : World) (x : Int), Blk w1 b _ _ → x = (L.length : Int) - 1 → _) := fun w1 x f hx => sp_leave h hp f x hx
      have RW : Hid (∀ w1 : World, w1.heap = w.heap → 0 < L.tail.length → ∃ ad, some (⟨b, 1, none⟩ : Addr) = some ad ∧ ∀ j v, (L.tail.map (Value.int .i64))[j]? = some v → w1.cell? (ad.add j) = some v) := fun w1 e _ => by
        refine ⟨_, rfl, fun j v hj => ?_⟩
        have hj2 : j < L.tail.length := by simpa using (List.getElem?_eq_some_iff.1 hj).1
        rw [getD_map_int L.tail j hj2] at hj
        have ht : L.tail.length = L.length - 1 := by simp
        have hs := h.heap e
        rw [Addr.add_lit, hs.at _ (by omega), Nat.add_comm, hs.get _ (by omega), ← getD_tail]
        exact hj
      obtain ⟨X, hX⟩ : ∃ X, L.tail.map (Value.int .i64) = X := ⟨_, rfl⟩
      have lX : Hid (X.length = L.length - 1) := by rw [← hX]; simp [Hid]
      have oX : Hid (∀ v ∈ X, v.oneCell' = true) := by rw [← hX]; exact ints_one _
      rw [hX] at RW ST
      obtain ⟨Z, hZ⟩ : ∃ Z, A.map (Value.int .i64) ++ [.int .i64 (L.length : Int)] = Z := ⟨_, rfl⟩
      have lZ : Hid (Z.length = 65) := by rw [← hZ]; simp [Hid, h.len]
      rw [hZ] at SB ST
      have N1 : Hid (X.length = Nat.min (L.length - 1) 64) := by rw [lX.out]; exact (Nat.min_eq_left (by omega)).symm
      have F1 : Hid (0 + X.length ≤ Z.length) := by rw [lX.out, lZ.out]; unfold Hid; omega
      have P1 : Hid (∀ w1 : World, w1.heap = w.heap → 0 < X.length → ∃ ad, some (⟨b, 1, none⟩ : Addr) = some ad ∧ _) := fun w1 e hq => RW.out w1 e (by have := lX.out; simp; omega)
      have KC : Hid (∀ w1 : World, Blk w1 b (splice Z 0 X) 26 → w1.cell? ⟨b, 64, none⟩ = some (.int .i64 (L.length : Int)) ∧ w1.frozen? ⟨b, 64, none⟩ = false) := fun w1 f => by
        refine ⟨?_, f.free 64⟩
        rw [f.cell 64, ← hZ, ← hX]
        unfold splice
        rw [List.take_zero, List.nil_append, List.getElem?_append_right (by simp; omega), List.getElem?_drop]
        have e : 0 + (L.tail.map (Value.int .i64)).length + (64 - (L.tail.map (Value.int .i64)).length) = (A.map (Value.int .i64)).length := by simp [h.len]; omega
        rw [e, List.getElem?_append_right (Nat.le_refl _)]
        simp
      clear h i m m1 m2 hX hZ hp hl RW
      generalize L.tail = LT at *
      generalize L.length = l at *
      go_enter Try.func9, Try.ntmps9
      go_wp2_with fail
      refine (C.out ()).mono ?_
      rintro e w' ⟨rfl, rfl⟩
      go_wp2_with fail
      refine (D.out ()).mono ?_
      rintro e w' ⟨rfl, rfl⟩
      go_wp2_with fail
      go_region_held3 (fun _ => True) (trivial) (first | (go_at_call 42; refine (E.out _ ?_).mono ?_; rfl; rintro e v1 ⟨rfl, k, rfl⟩) | (refine step_copy_at rfl (.tmp 27) (.tmp 30) 28 28 rfl 3 Try.underlying28 info3s _ _ _ _ _ _ rfl rfl b 0 Z 26 (SB.out _ rfl) X N1.out (fun hq => ⟨rfl, P1.out _ rfl hq⟩) F1.out oX.out ?_; intro v2 G2 F2))
      obtain ⟨k1, k2⟩ := KC.out _ G2.out
      go_wp2
      go_ret
      exact ⟨rfl, ⟨_, ST.out _ _ G2.out rfl⟩, (((Fr.refl _ _ _).drewN _).trans F2.out).setCell (Or.inr (by simp)) _⟩
    · have m2 : owns L c = false := by simpa using m
      rw [show lvE L c = 17 by unfold lvE; rw [if_pos i, if_neg m], show lvL L c = L by unfold lvL; rw [if_pos i, if_neg m]]
      have D2 : (L ≠ [] ∧ L.headD 0 ≠ c) ∨ L = [] := by
        by_cases e : L = []
        · exact Or.inr e
        · refine Or.inl ⟨e, fun g => ?_⟩
          have := of_decide_eq_false m2
          exact this ⟨e, g⟩
      clear h i m m2
      rcases D2 with ⟨e1, e2⟩ | e1
      · rw [decide_eq_true e1] at D
        generalize L.headD 0 = x at *
        have e3 : (x != c) = true := by simpa using e2
        clear e1 e2
        go_enter Try.func9, Try.ntmps9
        go_wp2_with fail
        refine (C.out ()).mono ?_
        rintro e w' ⟨rfl, rfl⟩
        go_wp2_with fail
        refine (D.out ()).mono ?_
        rintro e w' ⟨rfl, rfl⟩
        go_wp2
        go_ret
        exact ⟨rfl, ⟨_, HS.out⟩, Fr.refl _ _ _⟩
      · rw [decide_eq_false (not_not_intro e1)] at D
        generalize L.headD 0 = x at *
        clear e1
        go_enter Try.func9, Try.ntmps9
        go_wp2_with fail
        refine (C.out ()).mono ?_
        rintro e w' ⟨rfl, rfl⟩
        go_wp2_with fail
        refine (D.out ()).mono ?_
        rintro e w' ⟨rfl, rfl⟩
        go_wp2
        go_ret
        exact ⟨rfl, ⟨_, HS.out⟩, Fr.refl _ _ _⟩
  · have i2 : ic c = false := by simpa using i
    rw [i2] at C
    rw [show lvE L c = 3 by unfold lvE; rw [if_neg i], show lvL L c = L by unfold lvL; rw [if_neg i]]
    clear h i i2 D
    go_enter Try.func9, Try.ntmps9
    go_wp2_with fail
    refine (C.out ()).mono ?_
    rintro e w' ⟨rfl, rfl⟩
    go_wp2
    go_ret
    exact ⟨rfl, ⟨_, HS.out⟩, Fr.refl _ _ _⟩

theorem splice_all {α : Type} (Z X : List α) (h : Z.length = X.length) : splice Z 0 X = X := by
  unfold splice
  rw [List.take_zero, List.nil_append, Nat.zero_add, List.drop_eq_nil_of_le (by omega), List.append_nil]

/-- A new block that holds a whole list is owned. -/
theorem own_blk {w : World} {base g : Nat} {t : TypeId} {xs : List Int} (h : Blk w g (xs.map (Value.int .i64)) t) (hg : base ≤ g) (hl : (xs.length : Int) ≤ 100000) : w.ownsRow base t 1 (.slice (some ⟨g, 0, none⟩) xs.length xs.length) xs.length (xs.map (Value.int .i64)) :=
  ⟨by simp, Or.inr ⟨g, xs.length, _, rfl, hg, h, Nat.le_refl _, by unfold maxLen; omega, by simp, by rw [Nat.mul_one]; exact List.take_of_length_le (by simp)⟩⟩

set_option maxHeartbeats 2000000 in
theorem waits_any {b : Nat} {A L : List Int} (w : World) (h : SP w b A L) :
    Calls Try.prog 15 #[.pointer (some ⟨b, 0, none⟩)] w fun e w' => ∃ v, e = .returned v ∧ Gt w w' v L := by
  have c := h.c
  have hl : (L.length : Int) ≤ 64 := by have := h.ln.len; omega
  have hmk := run_make_row' (P := Try.prog) 28 3 (.int .i64 0) 8 Try.underlying28 Try.info3 rfl .i64 .i64 L.length (by omega) (by omega)
  rw [made_int] at hmk
  obtain ⟨Z, hZ⟩ : ∃ Z : List Value, (List.replicate L.length (0 : Int)).map (Value.int .i64) = Z := ⟨_, rfl⟩
  have lZ : Hid (Z.length = L.length) := by rw [← hZ]; simp [Hid]
  rw [hZ] at hmk
  have B0 : Fr w.heap.size [] w (w.alloc (.cells Z.toArray 3)) := (Fr.refl _ _ _).alloc (Nat.le_refl _) _
  have C : Hid (∀ _ : Unit, _) := fun _ => wanted_any (w.alloc (.cells Z.toArray 3)) (h.keep B0 h.sb.lt (by simp))
  have HB : Hid (Fr w.heap.size [] w (w.alloc (.cells Z.toArray 3))) := B0
  have SB : Hid (∀ k, Blk ((w.alloc (.cells Z.toArray 3)).drewN k) w.heap.size Z 3) := fun k => (Blk.new w Z 3).drewN k
  obtain ⟨X, hX⟩ : ∃ X, L.map (Value.int .i64) = X := ⟨_, rfl⟩
  have lX : Hid (X.length = L.length) := by rw [← hX]; simp [Hid]
  have oX : Hid (∀ v ∈ X, v.oneCell' = true) := by rw [← hX]; exact ints_one _
  have P1 : Hid (∀ k, 0 < X.length → _) := fun k hp => row_src (w := (w.alloc (.cells Z.toArray 3)).drewN k) (((h.keep B0 h.sb.lt (by simp)).heap (w1 := (w.alloc (.cells Z.toArray 3)).drewN k) rfl).row 64) (by have := lX.out; omega)
  rw [hX] at P1
  have N1 : Hid (X.length = Nat.min L.length L.length) := by rw [lX.out]; exact (Nat.min_self _).symm
  have F1 : Hid (0 + X.length ≤ Z.length) := by rw [lX.out, lZ.out]; unfold Hid; omega
  have FIN : Hid (∀ (k : Nat) (w2 : World), Blk w2 w.heap.size (splice Z 0 X) 3 → Fr ((w.alloc (.cells Z.toArray 3)).drewN k).heap.size [w.heap.size] ((w.alloc (.cells Z.toArray 3)).drewN k) w2 → Gt w w2 (.slice (some ⟨w.heap.size, 0, none⟩) L.length L.length) L) := fun k w2 f fr => by
    rw [splice_all Z X (by rw [lZ.out, lX.out]), ← hX] at f
    refine ⟨own_blk f (Nat.le_refl _) (by omega), ?_⟩
    have f2 : Fr w.heap.size [w.heap.size] w w2 := ((B0.drewN k).mono (Nat.le_refl _) (by simp)).trans (fr.less (by simp [World.drewN]))
    exact f2.below (by simp)
  clear h hX hZ B0
  generalize L.length = l at *
  go_enter Try.func15, Try.ntmps15
  go_wp2_with fail
  refine (C.out ()).mono ?_
  rintro e w' ⟨rfl, k, rfl⟩
  go_wp2_with (refine wpList_copy_at rfl (.tmp 11) (.tmp 13) 28 28 rfl 3 Try.underlying28 info3s _ _ _ _ _ _ rfl rfl w.heap.size 0 Z 3 (SB.out k) X N1.out (fun hp => ⟨rfl, P1.out k hp⟩) F1.out oX.out ?_; intro w2 G2 F2)
  go_ret
  exact ⟨_, rfl, FIN.out k w2 G2.out F2.out⟩

/- The calls of a lock that is not there. -/
theorem nil_take (n : Int) (w : World) : Calls Try.prog 11 #[.pointer none, .int .i64 n] w fun e w' => e = .returned (.int .i64 1) ∧ w' = w := by
  go_enter Try.func11, Try.ntmps11
  go_wp2
  go_ret
  exact ⟨rfl, rfl⟩
theorem nil_leave (n : Int) (w : World) : Calls Try.prog 9 #[.pointer none, .int .i64 n] w fun e w' => e = .returned (.int .i64 1) ∧ w' = w := by
  go_enter Try.func9, Try.ntmps9
  go_wp2
  go_ret
  exact ⟨rfl, rfl⟩
theorem nil_owner (w : World) : Calls Try.prog 13 #[.pointer none] w fun e w' => e = .returned (.tuple #[.int .i64 0, .bool false]) ∧ w' = w := by
  go_enter Try.func13, Try.ntmps13
  go_wp2
  go_ret2
  exact ⟨rfl, rfl⟩
theorem nil_waits (w : World) : Calls Try.prog 15 #[.pointer none] w fun e w' => e = .returned (.slice none 0 0) ∧ w' = w := by
  go_enter Try.func15, Try.ntmps15
  go_wp2
  go_ret
  exact ⟨rfl, rfl⟩
end Go.Proofs.Ytaomcakgeiiclaa
