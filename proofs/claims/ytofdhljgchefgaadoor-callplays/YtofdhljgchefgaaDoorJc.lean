/- That the fixed calls of layer 18's laws come out as they must; the calls of a box that is not there. -/
import Derived.Test.YtofdhljgchefgaaDoorRows
import Derived.Test.YtofdhljgchefgaaDoorJb
import Derived.WalkKit
import Derived.ProofKit
import Derived.OpenShut
import Derived.BigQuiet
namespace Go.Proofs.YtofdhljgchefgaaDoor
open Go.ChangeShapes Go.WideShapes Go.ChangeAt Go.RowKit
open Fm Sl Cm

theorem Tab.below {w w' : World} (h : Tab w) (hs : 0 < w.heap.size) (b : Below w.heap.size w w') : Tab w' := h.keep hs (by simp) (Fr.of_below b)
/-- Behind a call of a box that lies above. -/
theorem cz_below {B s p : Nat} {w0 w w' : World} (h : Below B w0 w) (f : Fr w.heap.size (cz s p) w w') (hB : B ≤ w.heap.size) (hs : B ≤ s) : Below B w0 w' ∧ B ≤ w'.heap.size :=
  ⟨fr_own h f hB fun k hk => by have := (mem_cz s p k).1 hk; omega, Nat.le_trans hB f.size⟩

set_option maxRecDepth 100000 in
set_option maxHeartbeats 2000000 in
theorem cknown_yes (w : World) (ht : Tab w) (h0 : 0 < w.heap.size) :
    Calls Tryd.prog 26 #[] w fun e w' => e = .returned (.bool true) ∧ Below w.heap.size w w' := by
  have C : Hid (∀ _ : Unit, _) := fun _ => cnew_any 2 w (by decide) (by decide)
  have HT : Hid (∀ w', Below w.heap.size w w' → Tab w') := fun w' b => ht.below h0 b
  generalize hs : w.heap.size = s at *
  clear ht h0
  go_enter Tryd.func26, Tryd.ntmps26
  go_wp2_with fail
  refine (C.out ()).mono ?_
  rintro e w1 ⟨rfl, q1, b1⟩
  have B1 : Hid (Below s w w1 ∧ s ≤ w1.heap.size) := ⟨b1, by have := b1.size; omega⟩
  have P1 : Hid (∀ _ : Unit, _) := fun _ => send_any 0 q1 (HT.out w1 b1)
  rw [show seN (List.replicate 2 []) 0 = 1 by decide, show seE (List.replicate 2 []) 0 = 0 by decide, show seK (List.replicate 2 []) 0 = [[1], []] by decide] at P1
  clear q1 b1
  go_wp2_with fail
  refine (P1.out ()).mono ?_
  rintro e w2 ⟨rfl, q2, f2⟩
  have B2 : Hid (_ ∧ _) := cz_below B1.out.1 f2 B1.out.2 (Nat.le_refl _)
  have P2 : Hid (∀ _ : Unit, _) := fun _ => send_any 0 q2 (HT.out w2 B2.out.1)
  rw [show seN [[1], []] 0 = 2 by decide, show seE [[1], []] 0 = 0 by decide, show seK [[1], []] 0 = [[1, 2], []] by decide] at P2
  clear q2 f2 B1
  go_wp2_with fail
  refine (P2.out ()).mono ?_
  rintro e w3 ⟨rfl, q3, f3⟩
  have B3 : Hid (_ ∧ _) := cz_below B2.out.1 f3 B2.out.2 (Nat.le_refl _)
  have P3 : Hid (∀ _ : Unit, _) := fun _ => cmove_any 0 1 q3
  rw [show moN [[1, 2], []] 0 1 = 1 by decide, show moE [[1, 2], []] 0 1 = 0 by decide, show moK [[1, 2], []] 0 1 = [[2], [1]] by decide] at P3
  clear q3 f3 B2
  go_wp2_with fail
  refine (P3.out ()).mono ?_
  rintro e w4 ⟨rfl, q4, f4⟩
  have B4 : Hid (_ ∧ _) := cz_below B3.out.1 f4 B3.out.2 (Nat.le_refl _)
  have P4 : Hid (∀ _ : Unit, _) := fun _ => ctake_any 0 q4
  rw [show ckN [[2], [1]] 0 = 2 by decide, show ckE [[2], [1]] 0 = 0 by decide, show ckK [[2], [1]] 0 = [[], [1]] by decide] at P4
  clear q4 f4 B3
  go_wp2_with fail
  refine (P4.out ()).mono ?_
  rintro e w5 ⟨rfl, q5, f5⟩
  have B5 : Hid (_ ∧ _) := cz_below B4.out.1 f5 B4.out.2 (Nat.le_refl _)
  have P5 : Hid (∀ _ : Unit, _) := fun _ => ctake_any 1 q5
  rw [show ckN [[], [1]] 1 = 1 by decide, show ckE [[], [1]] 1 = 0 by decide, show ckK [[], [1]] 1 = [[], []] by decide] at P5
  clear q5 f5 B4
  go_wp2_with fail
  refine (P5.out ()).mono ?_
  rintro e w6 ⟨rfl, q6, f6⟩
  have B6 : Hid (_ ∧ _) := cz_below B5.out.1 f6 B5.out.2 (Nat.le_refl _)
  have P6 : Hid (∀ _ : Unit, _) := fun _ => chas_any 1 q6
  rw [show haB [[], []] 1 = false by decide] at P6
  clear q6 f6 B5
  go_wp2_with fail
  refine (P6.out ()).mono ?_
  rintro e w7 ⟨rfl, rfl⟩
  go_wp2
  go_ret
  exact ⟨rfl, B6.out.1⟩

theorem cnil_send (c : Int) (w : World) : Calls Tryd.prog 27 #[.pointer none, .int .i64 c] w fun e w' => e = .returned (.tuple #[.int .i64 0, .int .i64 1]) ∧ w' = w := by
  have C0 : Hid (∀ w, _) := fun w => con_nil (w := w) c
  go_enter Tryd.func27, Tryd.ntmps27
  go_wp2_with fail
  refine (C0.out _).mono ?_
  rintro e w' ⟨rfl, rfl⟩
  go_wp2
  go_ret2
  exact ⟨rfl, rfl⟩
theorem cnil_take (c : Int) (w : World) : Calls Tryd.prog 29 #[.pointer none, .int .i64 c] w fun e w' => e = .returned (.tuple #[.int .i64 0, .int .i64 1]) ∧ w' = w := by
  have C0 : Hid (∀ w, _) := fun w => con_nil (w := w) c
  go_enter Tryd.func29, Tryd.ntmps29
  go_wp2_with fail
  refine (C0.out _).mono ?_
  rintro e w' ⟨rfl, rfl⟩
  go_wp2
  go_ret2
  exact ⟨rfl, rfl⟩
theorem cnil_move (c d : Int) (w : World) : Calls Tryd.prog 31 #[.pointer none, .int .i64 c, .int .i64 d] w fun e w' => e = .returned (.tuple #[.int .i64 0, .int .i64 1]) ∧ w' = w := by
  have C0 : Hid (∀ w, _) := fun w => con_nil (w := w) c
  go_enter Tryd.func31, Tryd.ntmps31
  go_wp2_with fail
  refine (C0.out _).mono ?_
  rintro e w' ⟨rfl, rfl⟩
  go_wp2
  go_ret2
  exact ⟨rfl, rfl⟩
theorem cnil_has (c : Int) (w : World) : Calls Tryd.prog 33 #[.pointer none, .int .i64 c] w fun e w' => e = .returned (.bool false) ∧ w' = w := by
  go_enter Tryd.func33, Tryd.ntmps33
  go_wp2
  go_ret
  exact ⟨rfl, rfl⟩
theorem cnil_load (c : Int) (w : World) : Calls Tryd.prog 35 #[.pointer none, .int .i64 c] w fun e w' => e = .returned (.int .i64 0) ∧ w' = w := by
  have C0 : Hid (∀ w, _) := fun w => con_nil (w := w) c
  have C1 : Hid (∀ w, _) := fun w => nil_len w
  go_enter Tryd.func35, Tryd.ntmps35
  go_wp2_with fail
  refine (C0.out _).mono ?_
  rintro e w' ⟨rfl, rfl⟩
  go_wp2_with fail
  refine (C1.out _).mono ?_
  rintro e w' ⟨rfl, rfl⟩
  go_wp2
  go_ret
  exact ⟨rfl, rfl⟩
theorem cnil_list (c : Int) (w : World) : Calls Tryd.prog 37 #[.pointer none, .int .i64 c] w fun e w' => e = .returned (.slice none 0 0) ∧ w' = w := by
  have C0 : Hid (∀ w, _) := fun w => con_nil (w := w) c
  have C1 : Hid (∀ w, _) := fun w => nil_list w
  go_enter Tryd.func37, Tryd.ntmps37
  go_wp2_with fail
  refine (C0.out _).mono ?_
  rintro e w' ⟨rfl, rfl⟩
  go_wp2_with fail
  refine (C1.out _).mono ?_
  rintro e w' ⟨rfl, rfl⟩
  go_wp2
  go_ret
  exact ⟨rfl, rfl⟩
end Go.Proofs.YtofdhljgchefgaaDoor
