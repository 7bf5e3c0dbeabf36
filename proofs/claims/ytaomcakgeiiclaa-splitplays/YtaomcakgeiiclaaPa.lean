/- A number in parts as it lies in memory; what split's New, isCore, Get, Add, Fold, signs, Sum and List answer and leave, and num.Add and math/bits.Add64, for every one. -/
import Derived.Test.YtaomcakgeiiclaaRows
import Derived.Test.YtaomcakgeiiclaaFg
import Derived.Test.YtaomcakgeiiclaaPm
import Derived.Test.YtaomcakgeiiclaaPj
import Derived.WalkKit
import Derived.ProofKit
import Derived.OpenShut
import Derived.BigQuiet
import Derived.Laws.Externs
namespace Go.Proofs.Ytaomcakgeiiclaa
open Go.ChangeShapes Go.WideShapes Go.ChangeAt Go.RowKit
open Pm

/-- The parts at block b, its list at block g. -/
structure SL (w : World) (b g : Nat) (L : List Int) : Prop where
  sb : Blk w b [.slice (some ⟨g, 0, none⟩) L.length L.length] 82
  sg : Blk w g (L.map (Value.int .i64)) 2
  pt : Pt L

theorem SL.c0 {w : World} {b g : Nat} {L : List Int} (h : SL w b g L) : w.cell? ⟨b, 0, none⟩ = some (.slice (some ⟨g, 0, none⟩) L.length L.length) := h.sb.cell 0
theorem SL.ne {w : World} {b g : Nat} {L : List Int} (h : SL w b g L) : b ≠ g := h.sb.ne h.sg (by decide)
theorem SL.heap {w w1 : World} {b g : Nat} {L : List Int} (h : SL w b g L) (e : w1.heap = w.heap) : SL w1 b g L := ⟨h.sb.heap e, h.sg.heap e, h.pt⟩
theorem SL.keep {B : Nat} {S : List Nat} {w w' : World} {b g : Nat} {L : List Int} (h : SL w b g L) (k : Fr B S w w') (hb : b < B ∧ g < B) (hs : b ∉ S ∧ g ∉ S) : SL w' b g L :=
  ⟨h.sb.keep k hb.1 hs.1, h.sg.keep k hb.2 hs.2, h.pt⟩
theorem SL.at {w : World} {b g : Nat} {L : List Int} (h : SL w b g L) (i : Nat) (hi : i < L.length) : w.cell? ⟨g, i, none⟩ = some (.int .i64 (L.getD i 0)) := by
  rw [h.sg.cell i, getD_map_int L i hi]
theorem SL.row {w : World} {b g : Nat} {L : List Int} (h : SL w b g L) (cap : Nat) : Row w (.slice (some ⟨g, 0, none⟩) L.length cap) L := row_of_blk h.sg cap
theorem SL.len {w : World} {b g : Nat} {L : List Int} (h : SL w b g L) : (L.length : Int) ≤ 64 := by have := h.pt.n2; omega
/-- Behind a store into a part. -/
theorem sl_set {w : World} {b g : Nat} {L : List Int} (h : SL w b g L) (i : Nat) (x : Int) (hx : I64 x) : SL (w.setCell ⟨g, i, none⟩ (.int .i64 x)) b g (L.set i x) := by
  refine ⟨?_, ?_, pt_set h.pt i x hx⟩
  · have := h.sb.other (p := ⟨g, i, none⟩) h.ne (.int .i64 x)
    simpa using this
  · have := h.sg.set i (.int .i64 x)
    rwa [← List.map_set] at this

set_option maxHeartbeats 400000 in
theorem new_any (m : Nat) (w : World) (h1 : (1 : Int) ≤ m) (h2 : (m : Int) ≤ 64) :
    Calls Try.prog 28 #[.int .i64 (m : Int)] w fun e w' => e = .returned (.tuple #[.pointer (some ⟨w.heap.size + 1, 0, none⟩), .int .i64 0]) ∧ SL w' (w.heap.size + 1) w.heap.size (List.replicate m 0) ∧ Fr w.heap.size [] w w' := by
  have hmk := run_make_row' (P := Try.prog) 73 2 (.int .i64 0) 8 Try.underlying73 Try.infoL rfl .i64 .i64 m (by omega) (by omega)
  have F : Hid (∀ o1 o2, Fr w.heap.size [] w ((w.alloc o1).alloc o2)) := fun o1 o2 => ((Fr.refl _ _ _).alloc (Nat.le_refl _) o1).alloc (by simp) o2
  have G : Hid (Pt (List.replicate m 0)) := pt_new m (by omega) (by omega)
  go_enter Try.func28, Try.ntmps28
  go_wp2
  go_ret2
  refine ⟨rfl, ⟨?_, ?_, G.out⟩, F.out _ _⟩
  · have := Blk.new (w.alloc (Obj.cells (madeCells #[Value.int IntKind.i64 0] m) 2)) [.slice (some ⟨w.heap.size, 0, none⟩) m m] 82
    simpa using this
  · rw [made_int]
    exact (Blk.new w _ 2).alloc _

theorem new_bad (m : Int) (w : World) (h : m < 1 ∨ 64 < m) :
    Calls Try.prog 28 #[.int .i64 m] w fun e w' => e = .returned (.tuple #[.pointer none, .int .i64 2]) ∧ w' = w := by
  rcases h with h | h
  · go_enter Try.func28, Try.ntmps28
    go_wp2
    go_ret2
    exact ⟨rfl, rfl⟩
  · have h2 : (1 : Int) ≤ m := by omega
    go_enter Try.func28, Try.ntmps28
    go_wp2
    go_ret2
    exact ⟨rfl, rfl⟩

theorem isCore_any {b g : Nat} {L : List Int} (c : Int) (w : World) (h : SL w b g L) :
    Calls Try.prog 50 #[.pointer (some ⟨b, 0, none⟩), .int .i64 c] w fun e w' => e = .returned (.bool (ic L c)) ∧ w' = w := by
  have c0 := h.c0
  by_cases q : 0 ≤ c
  · by_cases q2 : c < (L.length : Int)
    · rw [show ic L c = true from decide_eq_true ⟨q, q2⟩]
      clear h
      generalize L.length = l at *
      go_enter Try.func50, Try.ntmps50
      go_wp2
      go_ret
      exact ⟨rfl, rfl⟩
    · rw [show ic L c = false from decide_eq_false (by omega)]
      clear h
      generalize L.length = l at *
      go_enter Try.func50, Try.ntmps50
      go_wp2
      go_ret
      exact ⟨rfl, rfl⟩
  · rw [show ic L c = false from decide_eq_false (by omega)]
    clear h
    generalize L.length = l at *
    go_enter Try.func50, Try.ntmps50
    go_wp2
    go_ret
    exact ⟨rfl, rfl⟩

theorem ret_two {a b c d : Int} (h : a = b) (g : c = d) : Ending.returned (.tuple #[.int .i64 a, .int .i64 c]) = .returned (.tuple #[.int .i64 b, .int .i64 d]) := by rw [h, g]

set_option maxHeartbeats 400000 in
theorem nadd_any (a b : Int) (w : World) (ha : I64 a) (hb : I64 b) :
    Calls Try.prog 51 #[.int .i64 a, .int .i64 b] w fun e w' => e = .returned (.tuple #[.int .i64 (fv (a + b)), .int .i64 (fe (a + b))]) ∧ w' = w := by
  obtain ⟨ha1, ha2⟩ := ha
  obtain ⟨hb1, hb2⟩ := hb
  go_enter Try.func51, Try.ntmps51
  go_wp2
  all_goals
    go_ret2
    refine ⟨ret_two ?_ ?_, rfl⟩ <;> (simp only [fv, fe, wrap64] at *; split <;> omega)

set_option maxHeartbeats 400000 in
theorem get_any {b g : Nat} {L : List Int} (c : Int) (w : World) (h : SL w b g L) :
    Calls Try.prog 37 #[.pointer (some ⟨b, 0, none⟩), .int .i64 c] w fun e w' => e = .returned (.tuple #[.int .i64 (gtN L c), .int .i64 (gtE L c)]) ∧ w' = w := by
  have c0 := h.c0
  have hl := h.len
  have C : Hid (∀ _ : Unit, _) := fun _ => isCore_any c w h
  cases i : ic L c with
  | true =>
    rw [i] at C
    rw [show gtN L c = at' L c from if_pos i, show gtE L c = 0 from if_pos i]
    obtain ⟨k, rfl⟩ := Int.eq_ofNat_of_zero_le (ic_lt i).1
    have hk : (k : Int) < L.length := (ic_lt i).2.1
    have ck := h.at k (by omega)
    rw [show at' L (k : Int) = L.getD k 0 by unfold at'; rw [Int.toNat_natCast]]
    clear h i
    generalize L.getD k 0 = x at *
    generalize L.length = l at *
    go_enter Try.func37, Try.ntmps37
    go_wp2_with fail
    refine (C.out ()).mono ?_
    rintro e w' ⟨rfl, rfl⟩
    go_wp2
    go_ret2
    exact ⟨rfl, rfl⟩
  | false =>
    rw [i] at C
    rw [show gtN L c = 0 from if_neg (by rw [i]; simp), show gtE L c = 3 from if_neg (by rw [i]; simp)]
    clear h i
    generalize L.length = l at *
    go_enter Try.func37, Try.ntmps37
    go_wp2_with fail
    refine (C.out ()).mono ?_
    rintro e w' ⟨rfl, rfl⟩
    go_wp2
    go_ret2
    exact ⟨rfl, rfl⟩

set_option maxHeartbeats 1000000 in
theorem add_any {b g : Nat} {L : List Int} (c n : Int) (w : World) (h : SL w b g L) (hn : I64 n) :
    Calls Try.prog 33 #[.pointer (some ⟨b, 0, none⟩), .int .i64 c, .int .i64 n] w fun e w' => e = .returned (.int .i64 (adE L c n)) ∧ SL w' b g (adL L c n) ∧ Fr w.heap.size [g] w w' := by
  have c0 := h.c0
  have hl := h.len
  have C : Hid (∀ _ : Unit, _) := fun _ => isCore_any c w h
  have HS : Hid (SL w b g L) := h
  cases i : ic L c with
  | true =>
    rw [i] at C
    have hi := h.pt.at i
    have D : Hid (∀ _ : Unit, _) := fun _ => nadd_any (at' L c) n w hi hn
    obtain ⟨k, rfl⟩ := Int.eq_ofNat_of_zero_le (ic_lt i).1
    have hk : (k : Int) < L.length := (ic_lt i).2.1
    have ck := h.at k (by omega)
    have fk : w.frozen? ⟨g, k, none⟩ = false := h.sg.free k
    have ea : at' L (k : Int) = L.getD k 0 := by unfold at'; rw [Int.toNat_natCast]
    by_cases z : fe (at' L (k : Int) + n) = 0
    · have zi := fe_zero z
      rw [(fe_ok zi).1, (fe_ok zi).2] at D
      rw [show adE L k n = 0 by unfold adE; rw [if_pos i, z], show adL L k n = L.set k (at' L k + n) by unfold adL; rw [if_pos ⟨i, z⟩, Int.toNat_natCast]]
      have ST : Hid (SL (w.setCell ⟨g, k, none⟩ (.int .i64 (at' L k + n))) b g (L.set k (at' L k + n))) := sl_set h k _ zi
      rw [ea] at D ST ⊢
      clear h i zi z hi ea hn
      obtain ⟨s, hs⟩ : ∃ s, L.getD k 0 + n = s := ⟨_, rfl⟩
      rw [hs] at D ST ⊢
      clear hs
      generalize L.getD k 0 = x at *
      generalize L.length = l at *
      go_enter Try.func33, Try.ntmps33
      go_wp2_with fail
      refine (C.out ()).mono ?_
      rintro e w' ⟨rfl, rfl⟩
      go_wp2_with fail
      refine (D.out ()).mono ?_
      rintro e w' ⟨rfl, rfl⟩
      go_wp2
      go_ret
      exact ⟨rfl, ST.out, (Fr.refl _ _ _).setCell (Or.inr (by simp)) _⟩
    · have zi : ¬ I64 (at' L (k : Int) + n) := fun q => z (fe_ok q).1
      rw [(fe_no zi).1, (fe_no zi).2] at D
      rw [show adE L k n = 16 by unfold adE; rw [if_pos i, (fe_no zi).1], show adL L k n = L by unfold adL; rw [if_neg (fun q => z q.2)]]
      rw [ea] at D
      clear h i zi z hi ea hn
      generalize L.getD k 0 = x at *
      generalize L.length = l at *
      go_enter Try.func33, Try.ntmps33
      go_wp2_with fail
      refine (C.out ()).mono ?_
      rintro e w' ⟨rfl, rfl⟩
      go_wp2_with fail
      refine (D.out ()).mono ?_
      rintro e w' ⟨rfl, rfl⟩
      go_wp2
      go_ret
      exact ⟨rfl, HS.out, Fr.refl _ _ _⟩
  | false =>
    rw [i] at C
    rw [show adE L c n = 3 from if_neg (by rw [i]; simp), show adL L c n = L from if_neg (by rw [i]; simp)]
    clear h i
    generalize L.length = l at *
    go_enter Try.func33, Try.ntmps33
    go_wp2_with fail
    refine (C.out ()).mono ?_
    rintro e w' ⟨rfl, rfl⟩
    go_wp2
    go_ret
    exact ⟨rfl, HS.out, Fr.refl _ _ _⟩

set_option maxHeartbeats 1000000 in
theorem fold_any {b g : Nat} {L : List Int} (f t : Int) (w : World) (h : SL w b g L) :
    Calls Try.prog 31 #[.pointer (some ⟨b, 0, none⟩), .int .i64 f, .int .i64 t] w fun e w' => e = .returned (.int .i64 (fdE L f t)) ∧ SL w' b g (fdL L f t) ∧ Fr w.heap.size [g] w w' := by
  have c0 := h.c0
  have hl := h.len
  have C : Hid (∀ _ : Unit, _) := fun _ => isCore_any f w h
  have D : Hid (∀ _ : Unit, _) := fun _ => isCore_any t w h
  have HS : Hid (SL w b g L) := h
  cases i : ic L f with
  | true =>
    rw [i] at C
    cases j : ic L t with
    | true =>
      rw [j] at D
      by_cases e : f = t
      · rw [show fdE L f t = 2 by unfold fdE; rw [if_pos ⟨i, j⟩, if_pos e], show fdL L f t = L by unfold fdL; rw [if_neg (fun q => q.2.2.1 e)]]
        subst e
        clear h i j
        generalize L.length = l at *
        go_enter Try.func31, Try.ntmps31
        go_wp2_with fail
        refine (C.out ()).mono ?_
        rintro e w' ⟨rfl, rfl⟩
        go_wp2_with fail
        refine (D.out ()).mono ?_
        rintro e w' ⟨rfl, rfl⟩
        go_wp2
        go_ret
        exact ⟨rfl, HS.out, Fr.refl _ _ _⟩
      · have e2 : (f == t) = false := by simpa using e
        have hf := h.pt.at i
        have A : Hid (∀ _ : Unit, _) := fun _ => add_any t (at' L f) w h hf
        obtain ⟨k, rfl⟩ := Int.eq_ofNat_of_zero_le (ic_lt i).1
        have hk : (k : Int) < L.length := (ic_lt i).2.1
        have ck := h.at k (by omega)
        have ea : at' L (k : Int) = L.getD k 0 := by unfold at'; rw [Int.toNat_natCast]
        rw [← ea] at ck
        by_cases z : fe (at' L t + at' L k) = 0
        · rw [show adE L t (at' L k) = 0 by unfold adE; rw [if_pos j, z], show adL L t (at' L k) = L.set t.toNat (at' L t + at' L k) by unfold adL; rw [if_pos ⟨j, z⟩]] at A
          rw [show fdE L k t = 0 by unfold fdE; rw [if_pos ⟨i, j⟩, if_neg e, z], show fdL L k t = (L.set t.toNat (at' L t + at' L k)).set k 0 by unfold fdL; rw [if_pos ⟨i, j, e, z⟩, Int.toNat_natCast]]
          obtain ⟨M, hM⟩ : ∃ M, L.set t.toNat (at' L t + at' L k) = M := ⟨_, rfl⟩
          have lM : M.length = L.length := by rw [← hM]; simp
          rw [hM] at A ⊢
          have ST : Hid (∀ w1, SL w1 b g M → SL (w1.setCell ⟨g, k, none⟩ (.int .i64 0)) b g (M.set k 0) ∧ w1.cell? ⟨b, 0, none⟩ = some (.slice (some ⟨g, 0, none⟩) L.length L.length) ∧ w1.cell? ⟨g, k, none⟩ = some (.int .i64 (M.getD k 0)) ∧ w1.frozen? ⟨g, k, none⟩ = false) := fun w1 s1 => ⟨sl_set s1 k 0 (by unfold I64; omega), by have := s1.c0; rwa [lM] at this, s1.at k (by omega), s1.sg.free k⟩
          clear h i j z hf ea hM lM e
          generalize at' L k = x at *
          generalize L.length = l at *
          go_enter Try.func31, Try.ntmps31
          go_wp2_with fail
          refine (C.out ()).mono ?_
          rintro e w' ⟨rfl, rfl⟩
          go_wp2_with fail
          refine (D.out ()).mono ?_
          rintro e w' ⟨rfl, rfl⟩
          go_wp2_with fail
          refine (A.out ()).mono ?_
          rintro e w1 ⟨rfl, s1, f1⟩
          obtain ⟨s2, k1, k2, k3⟩ := ST.out w1 s1
          have S2 : Hid (SL _ b g _) := s2
          have F1 : Hid (Fr w'.heap.size [g] w' w1) := f1
          clear s1 f1 s2
          go_wp2
          go_ret
          exact ⟨rfl, S2.out, F1.out.setCell (Or.inr (by simp)) _⟩
        · have zi : ¬ I64 (at' L t + at' L k) := fun q => z (fe_ok q).1
          rw [show adE L t (at' L k) = 16 by unfold adE; rw [if_pos j, (fe_no zi).1], show adL L t (at' L k) = L by unfold adL; rw [if_neg (fun q => z q.2)]] at A
          rw [show fdE L k t = 16 by unfold fdE; rw [if_pos ⟨i, j⟩, if_neg e, (fe_no zi).1], show fdL L k t = L by unfold fdL; rw [if_neg (fun q => z q.2.2.2)]]
          clear h i j z zi hf ea e
          generalize at' L k = x at *
          generalize L.length = l at *
          go_enter Try.func31, Try.ntmps31
          go_wp2_with fail
          refine (C.out ()).mono ?_
          rintro e w' ⟨rfl, rfl⟩
          go_wp2_with fail
          refine (D.out ()).mono ?_
          rintro e w' ⟨rfl, rfl⟩
          go_wp2_with fail
          refine (A.out ()).mono ?_
          rintro e w1 ⟨rfl, s1, f1⟩
          go_wp2
          go_ret
          exact ⟨rfl, s1, f1⟩
    | false =>
      rw [j] at D
      rw [show fdE L f t = 3 by unfold fdE; rw [if_neg (by rw [j]; simp)], show fdL L f t = L by unfold fdL; rw [if_neg (by rw [j]; simp)]]
      clear h i j
      generalize L.length = l at *
      go_enter Try.func31, Try.ntmps31
      go_wp2_with fail
      refine (C.out ()).mono ?_
      rintro e w' ⟨rfl, rfl⟩
      go_wp2_with fail
      refine (D.out ()).mono ?_
      rintro e w' ⟨rfl, rfl⟩
      go_wp2
      go_ret
      exact ⟨rfl, HS.out, Fr.refl _ _ _⟩
  | false =>
    rw [i] at C
    rw [show fdE L f t = 3 by unfold fdE; rw [if_neg (by rw [i]; simp)], show fdL L f t = L by unfold fdL; rw [if_neg (by rw [i]; simp)]]
    clear h i
    generalize L.length = l at *
    go_enter Try.func31, Try.ntmps31
    go_wp2_with fail
    refine (C.out ()).mono ?_
    rintro e w' ⟨rfl, rfl⟩
    go_wp2
    go_ret
    exact ⟨rfl, HS.out, Fr.refl _ _ _⟩
end Go.Proofs.Ytaomcakgeiiclaa
