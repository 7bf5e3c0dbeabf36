/- Events as lines: the document's kinds and their words. -/
import Derived.Test.YtcifjdnmnmmhoaaDoorRows
import Derived.Test.YtcifjdnmnmmhoaaDoorWd14
import Derived.WalkKit
import Derived.ProofKit
import Derived.OpenShut
import Derived.BigQuiet
import Derived.WalkSmall
import Derived.WalkSpells
import Derived.Deep.RegionLaw
namespace Go.Proofs.YtcifjdnmnmmhoaaDoor
open Go.ChangeShapes Go.WideShapes Go.ChangeAt Go.RowKit
open Wd Mm
set_option linter.unusedVariables false
set_option linter.unusedSimpArgs false
set_option maxRecDepth 100000

def kdl : List (List UInt8) := [] :: ((List.range 30).map fun k => nmk (k + 1) ++ 32 :: ltk (k + 1))
theorem kdl_len : kdl.length = 31 := rfl
theorem kdl_at (k : Nat) (h : k < kdl.length) (h0 : 1 ≤ k) : kdl[k] = nmk k ++ 32 :: ltk k := by
  have : ∀ k : Fin 31, 1 ≤ k.val → kdl.getD k.val [] = nmk k.val ++ 32 :: ltk k.val := by decide +kernel
  have := this ⟨k, by rw [kdl_len] at h; exact h⟩ h0
  rw [List.getD_eq_getElem?_getD, List.getElem?_eq_getElem h] at this
  exact this
theorem kd_parts (k : Nat) (h : k < 31) : parts 32 (nmk k ++ 32 :: ltk k) = [nmk k, ltk k] := by
  have : ∀ k : Fin 31, parts 32 (nmk k.val ++ 32 :: ltk k.val) = [nmk k.val, ltk k.val] := by decide +kernel
  exact this ⟨k, h⟩
theorem kd_len (k : Nat) (h : k < 31) : (nmk k ++ 32 :: ltk k).length ≤ 300 := by
  have : ∀ k : Fin 31, (nmk k.val ++ 32 :: ltk k.val).length ≤ 300 := by decide +kernel
  exact this ⟨k, h⟩

set_option maxHeartbeats 4000000 in
theorem kinds_any (w : World) :
    Calls Tryd.prog 30 #[] w fun r w' => (∃ b, r = .returned (.slice (some ⟨b, 0, none⟩) 31 31) ∧ ORow str w' (.slice (some ⟨b, 0, none⟩) 31 31) kdl) ∧ Below w.heap.size w w' := by
  have HO : Hid (ORow str (w.alloc (.cells (kdl.map str).toArray 9)) (.slice (some ⟨w.heap.size, 0, none⟩) 31 31) kdl) := orow_new (c := str) w kdl 9 31 31 rfl
  have HB : Hid (Below w.heap.size w (w.alloc (.cells (kdl.map str).toArray 9))) := (Below.refl _ _).alloc (Nat.le_refl _) _
  obtain ⟨U, hU⟩ : ∃ U, U = w.alloc (.cells (kdl.map str).toArray 9) := ⟨_, rfl⟩
  rw [← hU] at HO HB
  simp only [kdl, List.range, List.range.loop, List.map, str, sb, nmk, ltk, nms, lts, List.getD, List.getElem?_cons_succ, List.getElem?_cons_zero, Option.getD_some, List.cons_append, List.nil_append] at hU
  have HU : Hid (U = _) := hU
  clear hU
  go_enter Tryd.func30, Tryd.ntmps30
  go_wp2
  rw [← HU.out]
  go_ret
  exact ⟨⟨_, rfl, HO.out⟩, HB.out⟩

/-- What stands behind a number's word, whatever it is. -/
def ltI (k : Int) : List UInt8 := if 0 ≤ k ∧ k < 31 then ltk k.toNat else []

set_option maxHeartbeats 4000000 in
theorem rkind_any (k : Int) (w : World) :
    Calls Tryd.prog 23 #[.int .i64 k] w fun r w' => r = .returned (.tuple #[.string (sb (nmI k)), .string (sb (ltI k))]) ∧ Below w.heap.size w w' := by
  have CK : Hid (∀ w, _) := fun w => kinds_any w
  by_cases h0 : k < 1
  · have e1 : nmI k = [] := by
      unfold nmI
      by_cases h : 0 ≤ k ∧ k < 31
      · rw [if_pos h, show k = 0 by omega]; rfl
      · exact if_neg h
    have e2 : ltI k = [] := by
      unfold ltI
      by_cases h : 0 ≤ k ∧ k < 31
      · rw [if_pos h, show k = 0 by omega]; rfl
      · exact if_neg h
    rw [e1, e2]
    go_enter Tryd.func23, Tryd.ntmps23
    go_wp2_with fail
    refine (CK.out _).mono ?_
    rintro e u ⟨⟨b, rfl, -⟩, bu⟩
    go_wp2
    go_ret2
    exact ⟨rfl, bu⟩
  · have h2 : decide (k < 1) = false := decide_eq_false h0
    by_cases h1 : 31 ≤ k
    · rw [show nmI k = [] from if_neg (by omega), show ltI k = [] from if_neg (by omega)]
      go_enter Tryd.func23, Tryd.ntmps23
      go_wp2_with fail
      refine (CK.out _).mono ?_
      rintro e u ⟨⟨b, rfl, -⟩, bu⟩
      go_wp2
      go_ret2
      exact ⟨rfl, bu⟩
    · obtain ⟨j, rfl⟩ := Int.eq_ofNat_of_zero_le (by omega : 0 ≤ k)
      rw [show nmI (j : Int) = nmk j from if_pos (by omega), show ltI (j : Int) = ltk j from if_pos (by omega)]
      have hj : j < kdl.length := by rw [kdl_len]; omega
      have hk := kdl_at j hj (by omega)
      have CS : Hid (∀ w, _) := fun w => rsplit_any 32 (nmk j ++ 32 :: ltk j) (by have := kd_len j (by omega); omega) w
      rw [kd_parts j (by omega)] at CS
      have HC : Hid (∀ (u : World) b, ORow str u (.slice (some ⟨b, 0, none⟩) 31 31) kdl → u.cell? ⟨b, j, none⟩ = some (.string (sb (nmk j ++ 32 :: ltk j)))) := fun u b r => by
        obtain ⟨b0, off, he, hlt, hc0⟩ := orow_cell r (List.getElem?_eq_getElem hj)
        obtain ⟨rfl, rfl⟩ : b = b0 ∧ 0 = off := by
          simp only [Option.some.injEq, Addr.mk.injEq] at he
          exact ⟨he.1, he.2.1⟩
        rw [Nat.zero_add, hk] at hc0
        exact hc0
      have hj2 : (j : Int) < 31 := by omega
      have HO : Hid (∀ (w1 u : World) v, OG str 9 w1 u v [nmk j, ltk j] → ∃ g cap, v = .slice (some ⟨g, 0, none⟩) 2 cap ∧ u.cell? ⟨g, 0, none⟩ = some (.string (sb (nmk j))) ∧ u.cell? ⟨g, 1, none⟩ = some (.string (sb (ltk j)))) := fun w1 u v o => by
        rcases o.own.2 with ⟨hv, hn⟩ | ⟨g, cap, cur, hv, hb, hh, hn, hc, hz, ht⟩
        · simp at hn
        · have o' := o.own
          rw [hv] at o'
          exact ⟨g, cap, hv, by have := o'.cellAt 0 (by simp); simpa [str] using this, by have := o'.cellAt 1 (by simp); simpa [str] using this⟩
      generalize nmk j ++ 32 :: ltk j = X at *
      generalize nmk j = nm at *
      generalize ltk j = L at *
      clear hk hj
      go_enter Tryd.func23, Tryd.ntmps23
      go_wp2_with fail
      refine (CK.out _).mono ?_
      rintro e u ⟨⟨b, rfl, ro⟩, bu⟩
      have c0 := HC.out u b ro
      have BU : Hid _ := bu
      clear ro bu CK HC
      go_wp2_with fail
      refine (CS.out _).mono ?_
      rintro e u2 ⟨v, rfl, o⟩
      have B2 : Hid _ := BU.out.trans (o.bel.mono BU.out.size)
      obtain ⟨g, cap, rfl, d0, d1⟩ := HO.out _ _ _ o
      clear o HO CS
      go_wp2
      go_region
      go_wp2
      go_ret2
      exact ⟨rfl, B2.out.trans ⟨rfl, rfl, rfl, Nat.le_refl _, fun _ _ => rfl⟩⟩

theorem rname_any (k : Int) (w : World) :
    Calls Tryd.prog 10 #[.int .i64 k] w fun r w' => r = .returned (.string (sb (nmI k))) ∧ Below w.heap.size w w' := by
  have C : Hid (∀ w, _) := fun w => rkind_any k w
  generalize nmI k = s at *
  generalize ltI k = t at *
  go_enter Tryd.func10, Tryd.ntmps10
  go_wp2_with fail
  refine (C.out _).mono ?_
  rintro e u ⟨rfl, bu⟩
  go_wp2
  go_ret
  exact ⟨rfl, bu⟩

set_option maxHeartbeats 2000000 in
theorem rKind_any (s : List UInt8) (w : World) :
    Calls Tryd.prog 15 #[.string (sb s)] w fun r w' => r = .returned (.int .i64 (kOf s : Nat)) ∧ Below w.heap.size w w' := by
  have CK : Hid (∀ w, _) := fun w => kinds_any w
  have CN : Hid (∀ k w, _) := fun k w => rname_any k w
  obtain ⟨R, hR⟩ : ∃ R, kOf s = R := ⟨_, rfl⟩
  have h00 : nmk 0 = s → R = 0 := fun h => by rw [← hR]; exact kOf_at (k := 0) (by omega) (fun j hj => by omega) h
  have HA : Hid (∀ k, 1 ≤ k → k < 31 → (∀ j, 1 ≤ j → j < k → nmk j ≠ s) → nmk k = s → R = k) := fun k h1 a b c => by
    rw [← hR]
    refine kOf_at a (fun j hj => ?_) c
    by_cases h : j = 0
    · subst h
      intro h
      have e1 : nmk k = [] := c.trans h.symm
      have := kOf_nm ⟨k, a⟩
      simp only at this
      rw [e1] at this
      have h2 : kOf [] = 0 := rfl
      omega
    · exact b j (by omega) hj
  have HE : Hid ((∀ j, 1 ≤ j → j < 31 → nmk j ≠ s) → R = 0) := fun a => by
    by_cases h : nmk 0 = s
    · exact h00 h
    · rw [← hR]
      exact kOf_end fun j hj => by
        by_cases h2 : j = 0
        · subst h2; exact h
        · exact a j (by omega) hj
  have HI : Hid (∀ k : Nat, k < 31 → nmI (k : Int) = nmk k) := fun k hk => if_pos (by omega)
  rw [hR]
  clear hR h00
  go_enter Tryd.func15, Tryd.ntmps15
  go_wp2_with fail
  refine (CK.out _).mono ?_
  rintro e u ⟨⟨b, rfl, -⟩, bu⟩
  have BU : Hid _ := bu
  clear bu CK
  go_wp2
  go_loopw [4] (fun i wr => ∃ k : Nat, (1 : Int) ≤ k ∧ (k : Int) ≤ 31 ∧ i = .int .i64 k ∧ Hid (∀ j, 1 ≤ j → j < k → nmk j ≠ s) ∧ Hid (Below w.heap.size w wr)) (fun i _ => 31 - (intOf i).toNat)
  case atStart => exact ⟨1, by omega, by omega, rfl, fun j h1 h2 => by omega, BU⟩
  case round =>
    obtain ⟨k, h1, hk, rfl, hb, BW⟩ := hrel
    by_cases h : (k : Int) < 31
    · have C1 : Hid (∀ w, _) := fun w => CN.out k w
      rw [HI.out k (by omega)] at C1
      by_cases hs : nmk k = s
      · obtain rfl := HA.out k (by omega) (by omega) hb.out hs
        have q : (nmk R == s) = true := by rw [beq_iff_eq]; exact hs
        clear hs
        go_wp2_with fail
        refine (C1.out _).mono ?_
        rintro e u1 ⟨rfl, b1⟩
        go_wp2
        go_ret
        exact ⟨rfl, BW.out.trans (b1.mono BW.out.size)⟩
      · have q : (nmk k == s) = false := by rw [beq_eq_false_iff_ne]; exact hs
        have HB : Hid (∀ j, 1 ≤ j → j < k + 1 → nmk j ≠ s) := fun j h1 hj => by
          by_cases e : j = k
          · rw [e]; exact hs
          · exact hb.out j h1 (by omega)
        clear hs
        go_wp2_with fail
        refine (C1.out _).mono ?_
        rintro e u1 ⟨rfl, b1⟩
        have B1 : Hid _ := BW.out.trans (b1.mono BW.out.size)
        clear b1
        go_wp2
        go_roundw
        case rel => exact ⟨k + 1, by omega, by omega, by go_num, HB, B1⟩
        case measure => simp [intOf]; omega
    · obtain rfl : k = 31 := by omega
      obtain rfl := HE.out hb.out
      go_wp2
      go_ret
      exact ⟨rfl, BW.out⟩
end Go.Proofs.YtcifjdnmnmmhoaaDoor
