/- That the fixed calls of layer 19's laws come out as they must; the calls of a gate that is not there. -/
import Derived.Test.YtbmdfoohabipjaaEb
namespace Go.Proofs.Ytbmdfoohabipjaa
open Go.ChangeShapes Go.WideShapes Go.ChangeAt Go.RowKit
open Pm Em

set_option maxRecDepth 100000 in
set_option maxHeartbeats 2000000 in
theorem gknown_yes (w : World) : Calls Try.prog 11 #[] w fun e w' => e = .returned (.bool true) ∧ Below w.heap.size w w' := by
  have C : Hid (∀ _ : Unit, _) := fun _ => gnew_any 2 w (by decide) (by decide)
  have FT : Hid (∀ (w1 w2 : World) (S : List Nat), w.heap.size ≤ w1.heap.size → Below w.heap.size w w1 → Fr w1.heap.size S w1 w2 → (∀ k ∈ S, w.heap.size ≤ k) → Below w.heap.size w w2 ∧ w.heap.size ≤ w2.heap.size) := fun w1 w2 S l b f hS => ⟨fr_own b f l hS, by have := f.size; omega⟩
  generalize hs : w.heap.size = s at *
  go_enter Try.func11, Try.ntmps11
  go_wp2_with fail
  refine (C.out ()).mono ?_
  rintro e w1 ⟨rfl, q1, z1, f1⟩
  have B1 : Hid (Below s w w1 ∧ s ≤ w1.heap.size) := ⟨f1.below (by simp), by omega⟩
  have P1 : Hid (∀ _ : Unit, _) := fun _ => genter_any 0 w1 q1
  rw [show enE 0 (List.replicate 2 0) 0 = 0 by decide, show enL 0 (List.replicate 2 0) 0 = [1, 0] by decide] at P1
  clear q1 f1 z1
  go_wp2_with fail
  refine (P1.out ()).mono ?_
  rintro e w2 ⟨rfl, q2, f2⟩
  have B2 : Hid (Below s w w2 ∧ s ≤ w2.heap.size) := FT.out _ _ _ B1.out.2 B1.out.1 f2 (by simp)
  clear B1
  have P2 : Hid (∀ _ : Unit, _) := fun _ => gwant_any w2 q2
  rw [show waE 0 = 0 by decide, show waS 0 = 1 by decide] at P2
  clear q2 f2
  go_wp2_with fail
  refine (P2.out ()).mono ?_
  rintro e w3 ⟨rfl, q3, f3⟩
  have B3 : Hid (Below s w w3 ∧ s ≤ w3.heap.size) := FT.out _ _ _ B2.out.2 B2.out.1 f3 (by simp)
  clear B2
  have P3 : Hid (∀ _ : Unit, _) := fun _ => genter_any 1 w3 q3
  rw [show enE 1 [1, 0] 1 = 7 by decide, show enL 1 [1, 0] 1 = [1, 0] by decide] at P3
  clear q3 f3
  go_wp2_with fail
  refine (P3.out ()).mono ?_
  rintro e w4 ⟨rfl, q4, f4⟩
  have B4 : Hid (Below s w w4 ∧ s ≤ w4.heap.size) := FT.out _ _ _ B3.out.2 B3.out.1 f4 (by simp)
  clear B3
  have P4 : Hid (∀ _ : Unit, _) := fun _ => gtake_any w4 q4
  rw [show tkE 1 [1, 0] = 7 by decide, show tkS 1 [1, 0] = 1 by decide] at P4
  clear q4 f4
  go_wp2_with fail
  refine (P4.out ()).mono ?_
  rintro e w5 ⟨rfl, q5, f5⟩
  have B5 : Hid (Below s w w5 ∧ s ≤ w5.heap.size) := FT.out _ _ _ B4.out.2 B4.out.1 f5 (by simp)
  clear B4
  have P5 : Hid (∀ _ : Unit, _) := fun _ => gleave_any 0 w5 q5
  rw [show leE [1, 0] 0 = 0 by decide, show leL [1, 0] 0 = [0, 0] by decide] at P5
  clear q5 f5
  go_wp2_with fail
  refine (P5.out ()).mono ?_
  rintro e w6 ⟨rfl, q6, f6⟩
  have B6 : Hid (Below s w w6 ∧ s ≤ w6.heap.size) := FT.out _ _ _ B5.out.2 B5.out.1 f6 (by simp)
  clear B5
  have P6 : Hid (∀ _ : Unit, _) := fun _ => gtake_any w6 q6
  rw [show tkE 1 [0, 0] = 0 by decide, show tkS 1 [0, 0] = 2 by decide] at P6
  clear q6 f6
  go_wp2_with fail
  refine (P6.out ()).mono ?_
  rintro e w7 ⟨rfl, q7, f7⟩
  have B7 : Hid (Below s w w7 ∧ s ≤ w7.heap.size) := FT.out _ _ _ B6.out.2 B6.out.1 f7 (by simp)
  clear B6
  have P7 : Hid (∀ _ : Unit, _) := fun _ => gstate_any w7 q7
  clear q7 f7
  go_wp2_with fail
  refine (P7.out ()).mono ?_
  rintro e w8 ⟨rfl, rfl⟩
  go_wp2
  go_ret
  exact ⟨rfl, B7.out.1⟩

theorem gnil_on (c : Int) (w : World) : Calls Try.prog 47 #[.pointer none, .int .i64 c] w fun e w' => e = .returned (.tuple #[.int .i64 0, .int .i64 1]) ∧ w' = w := by
  go_enter Try.func47, Try.ntmps47
  go_wp2
  go_ret2
  exact ⟨rfl, rfl⟩
theorem gnil_On (c : Int) (w : World) : Calls Try.prog 16 #[.pointer none, .int .i64 c] w fun e w' => e = .returned (.int .i64 0) ∧ w' = w := by
  have C0 : Hid (∀ w, _) := fun w => gnil_on c w
  go_enter Try.func16, Try.ntmps16
  go_wp2_with fail
  refine (C0.out _).mono ?_
  rintro e w' ⟨rfl, rfl⟩
  go_wp2
  go_ret
  exact ⟨rfl, rfl⟩
theorem gnil_enter (c : Int) (w : World) : Calls Try.prog 19 #[.pointer none, .int .i64 c] w fun e w' => e = .returned (.int .i64 1) ∧ w' = w := by
  have C0 : Hid (∀ w, _) := fun w => gnil_on c w
  go_enter Try.func19, Try.ntmps19
  go_wp2_with fail
  refine (C0.out _).mono ?_
  rintro e w' ⟨rfl, rfl⟩
  go_wp2
  go_ret
  exact ⟨rfl, rfl⟩
theorem gnil_leave (c : Int) (w : World) : Calls Try.prog 20 #[.pointer none, .int .i64 c] w fun e w' => e = .returned (.int .i64 1) ∧ w' = w := by
  have C0 : Hid (∀ w, _) := fun w => gnil_on c w
  go_enter Try.func20, Try.ntmps20
  go_wp2_with fail
  refine (C0.out _).mono ?_
  rintro e w' ⟨rfl, rfl⟩
  go_wp2
  go_ret
  exact ⟨rfl, rfl⟩
theorem gnil_want (w : World) : Calls Try.prog 18 #[.pointer none] w fun e w' => e = .returned (.int .i64 1) ∧ w' = w := by
  go_enter Try.func18, Try.ntmps18
  go_wp2
  go_ret
  exact ⟨rfl, rfl⟩
theorem gnil_take (w : World) : Calls Try.prog 21 #[.pointer none] w fun e w' => e = .returned (.int .i64 1) ∧ w' = w := by
  go_enter Try.func21, Try.ntmps21
  go_wp2
  go_ret
  exact ⟨rfl, rfl⟩
theorem gnil_free (w : World) : Calls Try.prog 17 #[.pointer none] w fun e w' => e = .returned (.int .i64 1) ∧ w' = w := by
  go_enter Try.func17, Try.ntmps17
  go_wp2
  go_ret
  exact ⟨rfl, rfl⟩
theorem gnil_state (w : World) : Calls Try.prog 13 #[.pointer none] w fun e w' => e = .returned (.int .i64 0) ∧ w' = w := by
  go_enter Try.func13, Try.ntmps13
  go_wp2
  go_ret
  exact ⟨rfl, rfl⟩
theorem gnil_readers (w : World) : Calls Try.prog 14 #[.pointer none] w fun e w' => e = .returned (.int .i64 0) ∧ w' = w := by
  go_enter Try.func14, Try.ntmps14
  go_wp2
  go_ret
  exact ⟨rfl, rfl⟩
end Go.Proofs.Ytbmdfoohabipjaa
