/- What the document's table answers and leaves (davitref04), for every table. -/
import Derived.Test.YtdkacamnelodaaaDoorRows
import Derived.Test.YtdkacamnelodaaaDoorSb
import Derived.Test.YtdkacamnelodaaaDoorFi
import Derived.WalkKit
import Derived.ProofKit
import Derived.OpenShut
import Derived.BigQuiet
namespace Go.Proofs.YtdkacamnelodaaaDoor
open Go.ChangeShapes Go.WideShapes Go.ChangeAt Go.RowKit
open Mm Sl

theorem Tryd.info4 : (Tryd.prog.info? 4).map (fun i => (i.zero, i.size, i.bytes)) = some (some (.bool false), 1, 1) := by kernel_rfl

/-- The set as a list, from place 0 on, which is none's. -/
def bl (m : Nat) (O : Nat → Bool) : List Bool := (List.range (m + 1)).map fun i => i != 0 && O i

theorem bl_len (m : Nat) (O : Nat → Bool) : (bl m O).length = m + 1 := by simp [bl]
theorem bl_get (m : Nat) (O : Nat → Bool) (i : Nat) (h1 : 1 ≤ i) (h2 : i ≤ m) : ((bl m O).map Value.bool)[i]? = some (.bool (O i)) := by
  unfold bl
  have e : (i != 0) = true := by simp; omega
  rw [List.map_map, List.getElem?_map, List.getElem?_range (by omega)]
  simp [e]
theorem bl_set (m : Nat) (O : Nat → Bool) (i : Nat) (v : Bool) (h1 : 1 ≤ i) (h2 : i ≤ m) : ((bl m O).map Value.bool).set i (.bool v) = (bl m (st O i v)).map Value.bool := by
  apply List.ext_getElem?
  intro j
  rw [List.getElem?_set]
  unfold bl
  by_cases c : i = j
  · subst c
    have e : (i != 0) = true := by simp; omega
    rw [if_pos rfl, if_pos (by simp; omega), List.map_map, List.getElem?_map, List.getElem?_range (by omega)]
    simp [e, st]
  · rw [if_neg c, List.map_map, List.map_map, List.getElem?_map, List.getElem?_map]
    by_cases d : j < m + 1
    · rw [List.getElem?_range d]
      have : ¬ j = i := fun e => c e.symm
      simp [st, this]
    · rw [List.getElem?_eq_none (by simp; omega)]
      rfl
theorem bl_none (m : Nat) : (bl m fun _ => false) = List.replicate (m + 1) false := by
  apply List.ext_getElem
  · simp [bl]
  · intro i h1 h2
    simp [bl]

/-- The document's table at block b; its list lies at block g, from 'base' on. -/
structure RT (w : World) (b g base m cap : Nat) (O : Nat → Bool) : Prop where
  sb : Blk w b [.slice (some ⟨g, 0, none⟩) (m + 1) cap] 45
  own : w.ownsRow base 4 1 (.slice (some ⟨g, 0, none⟩) (m + 1) cap) (m + 1) ((bl m O).map Value.bool)
  lt : b < base
  le : base ≤ w.heap.size
  m1 : 1 ≤ m
  m2 : m ≤ 1024

theorem RT.c0 {w : World} {b g base m cap : Nat} {O : Nat → Bool} (h : RT w b g base m cap O) : w.cell? ⟨b, 0, none⟩ = some (.slice (some ⟨g, 0, none⟩) (m + 1) cap) := h.sb.cell 0
theorem RT.at' {w : World} {b g base m cap : Nat} {O : Nat → Bool} (h : RT w b g base m cap O) (i : Nat) (h1 : 1 ≤ i) (h2 : i ≤ m) : w.cell? ⟨g, i, none⟩ = some (.bool (O i)) := (h.own.cellAt i (by omega)).trans (bl_get m O i h1 h2)
theorem RT.gle {w : World} {b g base m cap : Nat} {O : Nat → Bool} (h : RT w b g base m cap O) : base ≤ g := (h.own.lt g rfl).1
theorem RT.heap {w w1 : World} {b g base m cap : Nat} {O : Nat → Bool} (h : RT w b g base m cap O) (e : w1.heap = w.heap) : RT w1 b g base m cap O := by
  refine ⟨h.sb.heap e, ?_, h.lt, by rw [e]; exact h.le, h.m1, h.m2⟩
  obtain ⟨h1, h2⟩ := h.own
  refine ⟨h1, ?_⟩
  rw [e]
  exact h2
theorem RT.keep {B : Nat} {S : List Nat} {w w' : World} {b g base m cap : Nat} {O : Nat → Bool} (h : RT w b g base m cap O) (f : Fr B S w w') (hB : w.heap.size ≤ B) (hS : ∀ k ∈ S, k < base) (hb : b ∉ S) : RT w' b g base m cap O :=
  ⟨h.sb.keep f (by have := h.lt; have := h.le; omega) hb, owns_keep h.own f hB hS, h.lt, Nat.le_trans h.le f.size, h.m1, h.m2⟩

/-- Behind a store into the list. -/
theorem rt_store {w : World} {b g base m cap : Nat} {O : Nat → Bool} (h : RT w b g base m cap O) (i : Nat) (v : Bool) (h1 : 1 ≤ i) (h2 : i ≤ m) :
    RT (w.setCell ⟨g, i, none⟩ (.bool v)) b g base m cap (st O i v) ∧ Fr base [] w (w.setCell ⟨g, i, none⟩ (.bool v)) := by
  have hg := h.gle
  have hl := h.lt
  have s := (h.own.stored i (.bool v)).1
  rw [bl_set m O i v h1 h2] at s
  refine ⟨⟨h.sb.other (p := ⟨g, i, none⟩) (by show b ≠ g; omega) _, s, h.lt, ?_, h.m1, h.m2⟩, (Fr.refl _ _ _).setCell (Or.inl hg) _⟩
  have := h.le
  simp [World.setCell]
  omega

set_option maxHeartbeats 400000 in
theorem rhas_any {b g base m cap : Nat} {O : Nat → Bool} (n : Int) (w : World) (h : RT w b g base m cap O) :
    Calls Tryd.prog 16 #[.pointer (some ⟨b, 0, none⟩), .int .i64 n] w fun e w' => e = .returned (.bool (hs m O n)) ∧ w' = w := by
  have c0 := h.c0
  have hm : (m : Int) ≤ 1024 := by have := h.m2; omega
  by_cases l : n < 1
  · rw [show hs m O n = false by unfold hs; rw [decide_eq_false (by omega)]; rfl]
    have hd : decide ((0 : Int) < n) = false := decide_eq_false (by omega)
    clear h
    go_enter Tryd.func16, Tryd.ntmps16
    go_wp2
    go_ret
    exact ⟨rfl, rfl⟩
  · by_cases u : (m : Int) < n
    · rw [show hs m O n = false by unfold hs; rw [decide_eq_false (by omega)]; rfl]
      have hd : decide (n < (m : Int) + 1) = false := decide_eq_false (by omega)
      have hp : (0 : Int) < n := by omega
      clear h
      go_enter Tryd.func16, Tryd.ntmps16
      go_wp2
      go_ret
      exact ⟨rfl, rfl⟩
    · obtain ⟨k, rfl⟩ := Int.eq_ofNat_of_zero_le (show 0 ≤ n by omega)
      rw [show hs m O (k : Int) = O k by unfold hs; rw [decide_eq_true (by omega)]; simp]
      have cg := h.at' k (by omega) (by omega)
      have hp : (0 : Int) < k := by omega
      have hp2 : (k : Int) < (m : Int) + 1 := by omega
      generalize O k = v at *
      clear h l u
      go_enter Tryd.func16, Tryd.ntmps16
      go_wp2
      go_ret
      exact ⟨rfl, rfl⟩

set_option maxHeartbeats 400000 in
theorem rgive_any {b g base m cap : Nat} {O : Nat → Bool} (n : Int) (w : World) (h : RT w b g base m cap O) :
    Calls Tryd.prog 11 #[.pointer (some ⟨b, 0, none⟩), .int .i64 n] w fun e w' => e = .returned (.int .i64 (gE m O n)) ∧ RT w' b g base m cap (gO m O n) ∧ Fr base [] w w' := by
  have C : Hid (∀ _ : Unit, _) := fun _ => rhas_any n w h
  cases e : hs m O n with
  | false =>
    rw [e] at C
    rw [show gE m O n = 4 by unfold gE; rw [e]; rfl, show gO m O n = O by unfold gO; rw [e]; rfl]
    have HT : Hid (RT w b g base m cap O) := h
    clear h e
    go_enter Tryd.func11, Tryd.ntmps11
    go_wp2_with fail
    refine (C.out ()).mono ?_
    rintro e w' ⟨rfl, rfl⟩
    go_wp2
    go_ret
    exact ⟨rfl, HT.out, Fr.refl _ _ _⟩
  | true =>
    rw [e] at C
    rw [show gE m O n = 0 by unfold gE; rw [e]; rfl, show gO m O n = st O n.toNat false by unfold gO; rw [e]; rfl]
    have hn : 1 ≤ n ∧ n ≤ m := by
      unfold hs at e
      rw [Bool.and_eq_true] at e
      exact of_decide_eq_true e.1
    have hm : (m : Int) ≤ 1024 := by have := h.m2; omega
    obtain ⟨k, rfl⟩ := Int.eq_ofNat_of_zero_le (show 0 ≤ n by omega)
    have c0 := h.c0
    have cg := h.at' k (by omega) (by omega)
    have fg : w.frozen? ⟨g, k, none⟩ = false := h.own.frozenAt k
    have TS : Hid (_ ∧ _) := rt_store h k false (by omega) (by omega)
    rw [show ((k : Int)).toNat = k by omega]
    have hk : (k : Int) < (m : Int) + 1 := by omega
    clear h e hn
    generalize O k = v at *
    go_enter Tryd.func11, Tryd.ntmps11
    go_wp2_with fail
    refine (C.out ()).mono ?_
    rintro e w' ⟨rfl, rfl⟩
    go_wp2
    go_ret
    exact ⟨rfl, TS.out.1, TS.out.2⟩

set_option maxHeartbeats 400000 in
theorem rtake_any {b g base m cap : Nat} {O : Nat → Bool} (w : World) (h : RT w b g base m cap O) :
    Calls Tryd.prog 9 #[.pointer (some ⟨b, 0, none⟩)] w fun e w' => e = .returned (.tuple #[.int .i64 (tN (ff m O)), .int .i64 (tE (ff m O))]) ∧ RT w' b g base m cap (tO O (ff m O)) ∧ Fr base [] w w' := by
  have c0 := h.c0
  have HT : Hid (RT w b g base m cap O) := h
  have hm : (m : Int) ≤ 1024 := by have := h.m2; omega
  obtain ⟨V, hV⟩ : ∃ V, tN (ff m O) = V := ⟨_, rfl⟩
  obtain ⟨E, hE⟩ : ∃ E, tE (ff m O) = E := ⟨_, rfl⟩
  obtain ⟨U, hU⟩ : ∃ U, tO O (ff m O) = U := ⟨_, rfl⟩
  have HF : Hid (∀ F, ff m O = F → V = tN F ∧ E = tE F ∧ U = tO O F) := fun F e => by rw [← hV, ← hE, ← hU, e]; exact ⟨rfl, rfl, rfl⟩
  rw [hV, hE, hU]
  clear h hV hE hU
  go_enter Tryd.func9, Tryd.ntmps9
  go_wp2
  go_loop [4] (fun i => ∃ k : Nat, (k : Int) ≤ m ∧ Hid (∀ t, t < k → O (t + 1) = true) ∧ i = .int .i64 ((k : Int) + 1)) (fun i => m + 1 - (intOf i).toNat)
  case atStart => exact ⟨0, by omega, fun t ht => by omega, rfl⟩
  case round =>
    obtain ⟨k, hk, hG, rfl⟩ := hrel
    by_cases e : (k : Int) < m
    · have cg := HT.out.at' (k + 1) (by omega) (by omega)
      cases ho : O (k + 1) with
      | true =>
        rw [ho] at cg
        have s : Hid (∀ t, t < k + 1 → O (t + 1) = true) := fun t ht => by
          by_cases c : t = k
          · subst c; exact ho
          · exact hG.out t (by omega)
        clear ho
        go_wp2
        go_round
        case rel => exact ⟨k + 1, by omega, s, by go_num⟩
        case measure => simp [intOf]; omega
      | false =>
        rw [ho] at cg
        have hs := HF.out _ (ff_some m O k (by omega) ho hG.out)
        have e1 : V = (k : Int) + 1 := hs.1
        have e2 : E = 0 := hs.2.1
        have e3 : U = st O (k + 1) true := hs.2.2
        subst e1
        subst e2
        subst e3
        have fg : w.frozen? ⟨g, k + 1, none⟩ = false := HT.out.own.frozenAt _
        have TS : Hid (_ ∧ _) := rt_store HT.out (k + 1) true (by omega) (by omega)
        clear hs ho
        go_wp2
        go_ret2
        exact ⟨rfl, TS.out.1, TS.out.2⟩
    · have hs := HF.out _ (ff_none m O fun t ht => hG.out t (by omega))
      have e1 : V = 0 := hs.1
      have e2 : E = 5 := hs.2.1
      have e3 : U = O := hs.2.2
      subst e1
      subst e2
      subst e3
      clear hs
      go_wp2
      go_ret2
      exact ⟨rfl, HT.out, Fr.refl _ _ _⟩

/-- Of the first k numbers, those that are given out. -/
theorem li_step (k : Nat) (O : Nat → Bool) : li (k + 1) O = if O (k + 1) = true then li k O ++ [((k + 1 : Nat) : Int)] else li k O := by
  unfold li
  rw [List.range_succ, List.filter_append, List.map_append]
  by_cases c : O (k + 1) = true
  · simp [c]
  · simp [c]

set_option maxHeartbeats 1000000 in
theorem rlist_any {b g base m cap : Nat} {O : Nat → Bool} (w : World) (h : RT w b g base m cap O) :
    Calls Tryd.prog 12 #[.pointer (some ⟨b, 0, none⟩)] w fun e w' => ∃ v, e = .returned v ∧ Gt w w' v (li m O) := by
  obtain ⟨i0, hi, hz0, hz1, hz2⟩ := info_parts Tryd.info3
  have HC : Hid (∀ wr, Below w.heap.size w wr → wr.cell? ⟨b, 0, none⟩ = some (.slice (some ⟨g, 0, none⟩) (m + 1) cap)) := fun wr hb => (hb.cell (p := ⟨b, 0, none⟩) h.sb.lt).trans h.c0
  have HG : Hid (∀ wr (k : Nat), Below w.heap.size w wr → 1 ≤ k → k ≤ m → wr.cell? ⟨g, k, none⟩ = some (.bool (O k))) := fun wr k hb h1 h2 => (hb.cell (p := ⟨g, k, none⟩) (h.own.lt g rfl).2).trans (h.at' k h1 h2)
  have hm : (m : Int) ≤ 1024 := by have := h.m2; omega
  obtain ⟨R, hR⟩ : ∃ R, li m O = R := ⟨_, rfl⟩
  have HR : Hid (li m O = R) := hR
  rw [hR]
  clear h hR
  go_enter Tryd.func12, Tryd.ntmps12
  go_wp2
  go_loopw [3, 4] (fun v i wr => ∃ (k : Nat) (G : List Int), (k : Int) ≤ m ∧ Gt w wr v G ∧ Hid (G = li k O) ∧ i = .int .i64 ((k : Int) + 1)) (fun _ i _ => m + 1 - (intOf i).toNat)
  case atStart => exact ⟨0, [], by omega, gt_start w, by simp [Hid, li], rfl⟩
  case round =>
    obtain ⟨k, G, hk, gt, hG, rfl⟩ := hrel
    have c0 := HC.out wr gt.bel
    by_cases e : (k : Int) < m
    · have cg := HG.out wr (k + 1) gt.bel (by omega) (by omega)
      have hs := li_step k O
      cases ho : O (k + 1) with
      | false =>
        rw [ho] at cg hs
        have s : Hid (G = li (k + 1) O) := by rw [hs, hG.out]; exact rfl
        clear ho hs
        go_wp2
        go_roundw
        case rel => exact ⟨k + 1, G, by omega, gt, s, by go_num⟩
        case measure => simp [intOf]; omega
      | true =>
        rw [ho] at cg hs
        have s : Hid (G ++ [(k : Int) + 1] = li (k + 1) O) := by rw [hs, hG.out]; exact rfl
        have hgl : (G.length : Int) ≤ 1024 := by have := li_le k O; rw [hG.out]; omega
        have hsz := gt.bel.size
        clear ho hs
        go_wp2_with (at_builtin; refine wpList_append_own _ rfl _ _ 22 rfl w.heap.size 3 i0 (.int .i64 0) 1 8 Tryd.underlying22 hi hz0 hz1 hz2 rfl (by decide) _ _ _ rfl (gt.own.alloc _) ⟨_, 0, none⟩ 1 1 [.int .i64 ((k : Int) + 1)] rfl rfl ?c1 ?c2 ?c3 ?c4 ?c5 ?_)
        case c1 =>
          intro j u hj
          match j, hj with
          | 0, hj => simp at hj; subst hj; exact (Blk.new _ [_] _).cell 0
        case c2 => intro u hu; simp at hu; subst hu; rfl
        case c3 => unfold maxLen; omega
        case c4 => omega
        case c5 => simp; omega
        intro v' w2 hown' hgrow _
        have G3 := gt_app gt hown' hgrow
        clear hown' hgrow
        go_wp2
        go_roundw
        case rel => exact ⟨k + 1, _, by omega, G3, s, by go_num⟩
        case measure => simp [intOf]; omega
    · have e2 : G = R := by rw [hG.out, ← HR.out, show k = m by omega]
      subst e2
      go_wp2
      go_ret
      exact ⟨_, rfl, gt⟩
end Go.Proofs.YtdkacamnelodaaaDoor
