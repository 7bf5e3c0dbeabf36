/- That the fixed calls of layer 4's laws come out as they must (where the table of the lowest bits reads as the program's text lays it). -/
import Derived.Test.YtdkacamnelodaaaDoorRows
import Derived.Test.YtdkacamnelodaaaDoorSb
import Derived.Test.YtdkacamnelodaaaDoorFi
import Derived.WalkKit
import Derived.ProofKit
import Derived.OpenShut
import Derived.BigQuiet
namespace Go.Proofs.YtdkacamnelodaaaDoor
open Go.ChangeShapes Go.WideShapes Go.ChangeAt Go.RowKit
open Mm Sl

set_option maxHeartbeats 1000000 in
theorem known_yes (w : World) (ht : Tab w) (h0 : 0 < w.heap.size) :
    Calls Tryd.prog 7 #[] w fun e w' => e = .returned (.bool true) ∧ Below w.heap.size w w' := by
  have C : Hid (∀ _ : Unit, _) := fun _ => new_any 3 w (by decide) (by decide)
  have hP : Hid (∀ k ∈ [w.heap.size + 1, w.heap.size], w.heap.size ≤ k) := by unfold Hid; simp
  obtain ⟨s, hs⟩ : ∃ s, w.heap.size = s := ⟨_, rfl⟩
  have HT : Hid (∀ w1, Below s w w1 → Tab w1) := fun w1 b => ht.keep (B := s) (by omega) (by simp) (Fr.of_below b)
  have HS : Hid (w.heap.size = s) := hs
  have H0 : Hid (0 < s) := by rw [← hs]; exact h0
  rw [hs] at C hP ⊢
  clear ht hs h0
  go_enter Tryd.func7, Tryd.ntmps7
  go_wp2_with fail
  refine (C.out ()).mono ?_
  rintro e w1 ⟨rfl, ⟨W1, q1⟩, f1⟩
  have b1 : Hid (Below s w w1) := f1.below (by simp)
  have z1 : s ≤ w1.heap.size := by have := b1.out.size; have := HS.out; omega
  have P1 : Hid (∀ _ : Unit, _) := fun _ => take_any w1 q1 (HT.out w1 b1.out)
  rw [show ff 3 (fun _ => false) = some 0 by decide, show tN (some 0) = 1 by decide, show tE (some 0) = 0 by decide, show tO (fun _ => false) (some 0) = st (fun _ => false) 1 true from rfl] at P1
  obtain ⟨O1, hO1⟩ : ∃ O1, st (fun _ => false) 1 true = O1 := ⟨_, rfl⟩
  rw [hO1] at P1
  clear f1 q1
  go_wp2_with fail
  refine (P1.out ()).mono ?_
  rintro e w2 ⟨rfl, ⟨W2, q2⟩, f2⟩
  have b2 : Hid (Below s w w2) := fr_own b1.out f2 z1 hP.out
  have z2 : s ≤ w2.heap.size := by have := b2.out.size; have := HS.out; omega
  have P2 : Hid (∀ _ : Unit, _) := fun _ => take_any w2 q2 (HT.out w2 b2.out)
  rw [show ff 3 O1 = some 1 by rw [← hO1]; decide, show tN (some 1) = 2 by decide, show tE (some 1) = 0 by decide, show tO O1 (some 1) = st O1 2 true from rfl] at P2
  obtain ⟨O2, hO2⟩ : ∃ O2, st O1 2 true = O2 := ⟨_, rfl⟩
  rw [hO2] at P2
  have H1 : Hid (st (fun _ => false) 1 true = O1 ∧ st O1 2 true = O2) := ⟨hO1, hO2⟩
  clear f2 q2 hO1 hO2
  go_wp2_with fail
  refine (P2.out ()).mono ?_
  rintro e w3 ⟨rfl, ⟨W3, q3⟩, f3⟩
  have b3 : Hid (Below s w w3) := fr_own b2.out f3 z2 hP.out
  have z3 : s ≤ w3.heap.size := by have := b3.out.size; have := HS.out; omega
  have P3 : Hid (∀ _ : Unit, _) := fun _ => give_any 1 w3 q3
  rw [show gE 3 O2 1 = 0 by rw [← H1.out.2, ← H1.out.1]; decide, show gO 3 O2 1 = st O2 1 false by unfold gO; rw [if_pos (by rw [← H1.out.2, ← H1.out.1]; decide)]; rfl] at P3
  obtain ⟨O3, hO3⟩ : ∃ O3, st O2 1 false = O3 := ⟨_, rfl⟩
  rw [hO3] at P3
  have H3 : Hid (st O2 1 false = O3) := hO3
  clear f3 q3 hO3
  go_wp2_with fail
  refine (P3.out ()).mono ?_
  rintro e w4 ⟨rfl, ⟨W4, q4⟩, f4⟩
  have b4 : Hid (Below s w w4) := fr_own b3.out f4 z3 hP.out
  have z4 : s ≤ w4.heap.size := by have := b4.out.size; have := HS.out; omega
  have P4 : Hid (∀ _ : Unit, _) := fun _ => take_any w4 q4 (HT.out w4 b4.out)
  rw [show ff 3 O3 = some 0 by rw [← H3.out, ← H1.out.2, ← H1.out.1]; decide, show tN (some 0) = 1 by decide, show tE (some 0) = 0 by decide, show tO O3 (some 0) = st O3 1 true from rfl] at P4
  obtain ⟨O4, hO4⟩ : ∃ O4, st O3 1 true = O4 := ⟨_, rfl⟩
  rw [hO4] at P4
  have H4 : Hid (li 3 O4 = [1, 2]) := by rw [← hO4, ← H3.out, ← H1.out.2, ← H1.out.1]; exact (by decide : li 3 (st (st (st (st (fun _ => false) 1 true) 2 true) 1 false) 1 true) = [1, 2])
  clear f4 q4 hO4
  go_wp2_with fail
  refine (P4.out ()).mono ?_
  rintro e w5 ⟨rfl, ⟨W5, q5⟩, f5⟩
  have b5 : Hid (Below s w w5) := fr_own b4.out f5 z4 hP.out
  have z5 : s ≤ w5.heap.size := by have := b5.out.size; have := HS.out; omega
  have P5 : Hid (∀ _ : Unit, _) := fun _ => list_any w5 q5 (HT.out w5 b5.out) (by have := H0.out; omega)
  rw [H4.out] at P5
  have Q5 : Hid (T w5 (s + 1) s 3 W5 O4) := q5
  clear f5 q5
  go_wp2_with fail
  refine (P5.out ()).mono ?_
  rintro e w6 ⟨v, rfl, g6⟩
  have b6 : Hid (Below s w w6) := b5.out.trans (g6.bel.mono z5)
  have z6 : s ≤ w6.heap.size := by have := b6.out.size; have := HS.out; omega
  have b7 : Hid (∀ o, Below s w (w6.alloc o)) := fun o => b6.out.alloc z6 o
  have I : Hid (∀ _ : Unit, _) := fun _ => ints_any [1, 2] v _ (w6.alloc (.cells ([1, 2].map (Value.int .i64)).toArray 3)) (by decide) (Row.keep (B := w6.heap.size) (row_of_owns g6.own) ((Fr.refl _ _ _).alloc (Nat.le_refl _) _) (Nat.le_refl _)) (row_new w6 [1, 2] 3 2 2 rfl)
  have KC : Hid (∀ w1 : World, w1.heap = (w6.alloc (.cells ([1, 2].map (Value.int .i64)).toArray 3)).heap → _) := fun w1 e => cap_any w1 (((Q5.out.keep (Fr.of_below g6.bel) ⟨Q5.out.sb.lt, Q5.out.sg.lt⟩ ⟨by simp, by simp⟩).keep (B := w6.heap.size) (S := []) ((Fr.refl _ _ _).alloc (Nat.le_refl _) (.cells ([1, 2].map (Value.int .i64)).toArray 3)) ⟨Nat.lt_of_lt_of_le Q5.out.sb.lt g6.bel.size, Nat.lt_of_lt_of_le Q5.out.sg.lt g6.bel.size⟩ ⟨by simp, by simp⟩).heap e)
  clear g6
  go_wp2_with fail
  refine (I.out ()).mono ?_
  rintro e w7 ⟨rfl, n, rfl⟩
  go_wp2_with fail
  refine (KC.out _ ?_).mono ?_
  · rfl
  rintro e w8 ⟨rfl, rfl⟩
  go_wp2
  go_ret
  have b8 := b7.out (.cells ([1, 2].map (Value.int .i64)).toArray 3)
  exact ⟨rfl, ⟨b8.os, b8.tape, b8.output, b8.size, b8.block⟩⟩
end Go.Proofs.YtdkacamnelodaaaDoor
