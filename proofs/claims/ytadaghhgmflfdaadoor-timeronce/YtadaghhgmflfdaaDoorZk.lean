/- That the fixed calls of layer 14's laws come out as they must. -/
import Derived.Test.YtadaghhgmflfdaaDoorRows
import Derived.Test.YtadaghhgmflfdaaDoorZe
import Derived.WalkKit
import Derived.ProofKit
import Derived.OpenShut
import Derived.BigQuiet
namespace Go.Proofs.YtadaghhgmflfdaaDoor
open Go.ChangeShapes Go.WideShapes Go.ChangeAt Go.RowKit
open Wm Zm Sl

theorem mv_below {B : Nat} {w0 w w' : World} {F F' : List Nat} (h : Below B w0 w) (m : Mv w w' F F') (hB : B ≤ w.heap.size) (hF : ∀ g ∈ F, B ≤ g) : Below B w0 w' ∧ (∀ g ∈ F', B ≤ g) ∧ B ≤ w'.heap.size := by
  have z := m.fr.size
  refine ⟨fr_own h m.fr hB hF, fun g hg => ?_, by omega⟩
  rcases m.sub g hg with q | q
  · exact hF g q
  · omega
theorem Tab.below {w w' : World} (h : Tab w) (hs : 0 < w.heap.size) (b : Below w.heap.size w w') : Tab w' := h.keep hs (by simp) (Fr.of_below b)

set_option maxRecDepth 100000 in
set_option maxHeartbeats 2000000 in
theorem known_yes (w : World) (ht : Tab w) (h0 : 0 < w.heap.size) :
    Calls Tryd.prog 8 #[] w fun e w' => e = .returned (.bool true) ∧ Below w.heap.size w w' := by
  have C : Hid (∀ _ : Unit, _) := fun _ => tnew_any 2 w (by decide) (by decide)
  have HT : Hid (∀ w', Below w.heap.size w w' → Tab w') := fun w' b => ht.below h0 b
  generalize hs : w.heap.size = s at *
  clear ht h0
  go_enter Tryd.func8, Tryd.ntmps8
  go_wp2_with fail
  refine (C.out ()).mono ?_
  rintro e w1 ⟨t, rfl, F1, q1, l1, b1⟩
  have z1 : s ≤ w1.heap.size := by have := b1.size; omega
  have B1 : Hid (Below s w w1 ∧ (∀ g ∈ F1, s ≤ g) ∧ s ≤ w1.heap.size) := ⟨b1, l1, z1⟩
  have P1 : Hid (∀ _ : Unit, _) := fun _ => arm_yes 0 5 (by decide) (by decide) q1 (HT.out w1 b1) (i := 0) (by decide)
  clear q1 b1 z1 l1
  go_wp2_with fail
  refine (P1.out ()).mono ?_
  rintro e w2 ⟨rfl, F2, q2, m2⟩
  have B2 : Hid (_ ∧ _ ∧ _) := mv_below B1.out.1 m2 B1.out.2.2 B1.out.2.1
  have P2 : Hid (∀ _ : Unit, _) := fun _ => fire_none 0 (by decide) q2 (by decide)
  clear q2 m2 B1
  go_wp2_with fail
  refine (P2.out ()).mono ?_
  rintro e w3 ⟨rfl, F3, q3, m3⟩
  have B3 : Hid (_ ∧ _ ∧ _) := mv_below B2.out.1 m3 B2.out.2.2 B2.out.2.1
  have P3 : Hid (∀ _ : Unit, _) := fun _ => tgo_yes 5 q3 (by decide)
  clear q3 m3 B2
  go_wp2_with fail
  refine (P3.out ()).mono ?_
  rintro e w4 ⟨rfl, F4, q4, m4⟩
  have B4 : Hid (_ ∧ _ ∧ _) := mv_below B3.out.1 m4 B3.out.2.2 B3.out.2.1
  have P4 : Hid (∀ _ : Unit, _) := fun _ => fire_yes 0 (by decide) q4 (x := (5, 1)) (R := []) (by decide)
  clear q4 m4 B3
  go_wp2_with fail
  refine (P4.out ()).mono ?_
  rintro e w5 ⟨rfl, F5, q5, m5⟩
  have B5 : Hid (_ ∧ _ ∧ _) := mv_below B4.out.1 m5 B4.out.2.2 B4.out.2.1
  have P5 : Hid (∀ _ : Unit, _) := fun _ => tnow_any q5
  clear q5 m5 B4
  go_wp2_with fail
  refine (P5.out ()).mono ?_
  rintro e w6 ⟨rfl, rfl⟩
  go_wp2
  go_ret
  exact ⟨rfl, B5.out.1⟩
end Go.Proofs.YtadaghhgmflfdaaDoor
