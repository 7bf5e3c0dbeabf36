/- That the fixed calls of layer 20's laws come out as they must; the calls of a stop that is not there. -/
import Derived.Test.YtbmdfoohabipjaaEl
namespace Go.Proofs.Ytbmdfoohabipjaa
open Go.ChangeShapes Go.WideShapes Go.ChangeAt Go.RowKit
open Mm Ek

set_option maxRecDepth 100000 in
set_option maxHeartbeats 2000000 in
theorem tknown_yes (w : World) : Calls Try.prog 37 #[] w fun e w' => e = .returned (.bool true) ∧ Below w.heap.size w w' := by
  have FT : Hid (∀ (w1 w2 : World) (S : List Nat), w.heap.size ≤ w1.heap.size → Below w.heap.size w w1 → Fr w1.heap.size S w1 w2 → (∀ k ∈ S, w.heap.size ≤ k) → Below w.heap.size w w2 ∧ w.heap.size ≤ w2.heap.size) := fun w1 w2 S l b f hS => ⟨fr_own b f l hS, by have := f.size; omega⟩
  have q0 := st_new w
  have b0 : Below w.heap.size w (w.alloc (.cells #[.int .u64 0, .int .u64 0] 49)) := (Below.refl _ _).alloc (Nat.le_refl _) _
  have z0 : w.heap.size ≤ (w.alloc (.cells #[.int .u64 0, .int .u64 0] 49)).heap.size := b0.size
  obtain ⟨u0, hu0⟩ : ∃ u0, w.alloc (.cells #[.int .u64 0, .int .u64 0] 49) = u0 := ⟨_, rfl⟩
  have HU0 : Hid (w.alloc (.cells #[.int .u64 0, .int .u64 0] 49) = u0) := hu0
  rw [hu0] at q0 b0 z0
  obtain ⟨s, hs⟩ : ∃ s, w.heap.size = s := ⟨_, rfl⟩
  have HS : Hid (w.heap.size = s) := hs
  rw [hs] at q0 b0 z0 FT ⊢
  have B0 : Hid (Below s w u0 ∧ s ≤ u0.heap.size) := ⟨b0, z0⟩
  have P0 : Hid (∀ _ : Unit, _) := fun _ => tbegin_any 5 (by decide) u0 q0
  rw [show beE 0 0 5 = 0 by decide, show beL 0 0 5 = 5 by decide] at P0
  clear hu0 hs q0 b0 z0
  go_enter Try.func37, Try.ntmps37
  go_wp2_with fail
  rw [HU0.out, HS.out]
  refine (P0.out ()).mono ?_
  rintro e w1 ⟨rfl, q1, f1⟩
  have B1 : Hid (Below s w w1 ∧ s ≤ w1.heap.size) := FT.out _ _ _ B0.out.2 B0.out.1 f1 (by simp)
  have P1 : Hid (∀ _ : Unit, _) := fun _ => tack_any 2 w1 q1
  rw [show acE 5 2 = 0 by decide, show acL 5 2 = 1 by decide, show acH 5 0 2 = 4 by decide] at P1
  clear q1 f1
  go_wp2_with fail
  refine (P1.out ()).mono ?_
  rintro e w2 ⟨rfl, q2, f2⟩
  have B2 : Hid (Below s w w2 ∧ s ≤ w2.heap.size) := FT.out _ _ _ B1.out.2 B1.out.1 f2 (by simp)
  clear B1
  have P2 : Hid (∀ _ : Unit, _) := fun _ => tready_any w2 q2
  rw [show rdB 1 4 = false by decide] at P2
  have Q2 : Hid (ST w2 s 1 4) := q2
  clear q2 f2
  go_wp2_with fail
  refine (P2.out ()).mono ?_
  rintro e w3 ⟨rfl, m3⟩
  have q3 := Q2.out.heap m3.1
  have f3 : Fr w2.heap.size [] w2 w3 := m3.fr (Fr.refl _ _ _)
  have B3 : Hid (Below s w w3 ∧ s ≤ w3.heap.size) := FT.out _ _ _ B2.out.2 B2.out.1 f3 (by simp)
  clear B2 Q2 m3
  have P3 : Hid (∀ _ : Unit, _) := fun _ => tack_any 0 w3 q3
  rw [show acE 1 0 = 0 by decide, show acL 1 0 = 0 by decide, show acH 1 4 0 = 5 by decide] at P3
  clear q3 f3
  go_wp2_with fail
  refine (P3.out ()).mono ?_
  rintro e w4 ⟨rfl, q4, f4⟩
  have B4 : Hid (Below s w w4 ∧ s ≤ w4.heap.size) := FT.out _ _ _ B3.out.2 B3.out.1 f4 (by simp)
  clear B3
  have P4 : Hid (∀ _ : Unit, _) := fun _ => tready_any w4 q4
  rw [show rdB 0 5 = true by decide] at P4
  have Q4 : Hid (ST w4 s 0 5) := q4
  clear q4 f4
  go_wp2_with fail
  refine (P4.out ()).mono ?_
  rintro e w5 ⟨rfl, m5⟩
  have q5 := Q4.out.heap m5.1
  have f5 : Fr w4.heap.size [] w4 w5 := m5.fr (Fr.refl _ _ _)
  have B5 : Hid (Below s w w5 ∧ s ≤ w5.heap.size) := FT.out _ _ _ B4.out.2 B4.out.1 f5 (by simp)
  clear B4 Q4 m5
  have P5 : Hid (∀ _ : Unit, _) := fun _ => theld_any 2 w5 q5
  rw [show tb 5 2 = true by decide] at P5
  have Q5 : Hid (ST w5 s 0 5) := q5
  clear q5 f5
  go_wp2_with fail
  refine (P5.out ()).mono ?_
  rintro e w6 ⟨rfl, m6⟩
  have q6 := Q5.out.heap m6.1
  have f6 : Fr w5.heap.size [] w5 w6 := m6.fr (Fr.refl _ _ _)
  have B6 : Hid (Below s w w6 ∧ s ≤ w6.heap.size) := FT.out _ _ _ B5.out.2 B5.out.1 f6 (by simp)
  clear B5 Q5 m6
  have P6 : Hid (∀ _ : Unit, _) := fun _ => ton_any w6 q6
  rw [show onB 0 5 = true by decide] at P6
  have Q6 : Hid (ST w6 s 0 5) := q6
  clear q6 f6
  go_wp2_with fail
  refine (P6.out ()).mono ?_
  rintro e w7 ⟨rfl, m7⟩
  have q7 := Q6.out.heap m7.1
  have f7 : Fr w6.heap.size [] w6 w7 := m7.fr (Fr.refl _ _ _)
  have B7 : Hid (Below s w w7 ∧ s ≤ w7.heap.size) := FT.out _ _ _ B6.out.2 B6.out.1 f7 (by simp)
  clear B6 Q6 m7
  have P7 : Hid (∀ _ : Unit, _) := fun _ => tack_any 0 w7 q7
  rw [show acE 0 0 = 6 by decide, show acL 0 0 = 0 by decide, show acH 0 5 0 = 5 by decide] at P7
  clear q7 f7
  go_wp2_with fail
  refine (P7.out ()).mono ?_
  rintro e w8 ⟨rfl, q8, f8⟩
  have B8 : Hid (Below s w w8 ∧ s ≤ w8.heap.size) := FT.out _ _ _ B7.out.2 B7.out.1 f8 (by simp)
  clear B7
  clear q8 f8
  go_wp2
  go_ret
  exact ⟨rfl, B8.out.1⟩

theorem tnil_asks (w : World) : Calls Try.prog 53 #[.pointer none] w fun e w' => e = .returned (.tuple #[.func (.func 61) #[.int .u64 0] #[], .func (.func 61) #[.int .u64 0] #[]]) ∧ w' = w := by
  go_enter Try.func53, Try.ntmps53
  go_wp2
  go_ret2
  exact ⟨rfl, rfl⟩
theorem has_zero (c : Int) (w : World) : Calls Try.prog 61 #[.int .u64 0, .int .i64 c] w fun e w' => e = .returned (.bool false) ∧ w' = w := by
  have := khas_any 0 c w (by decide)
  rwa [show tb 0 c = false by simp [tb]] at this
theorem tnil_must (c : Int) (w : World) : Calls Try.prog 29 #[.pointer none, .int .i64 c] w fun e w' => e = .returned (.bool false) ∧ w' = w := by
  have C0 : Hid (∀ w, _) := fun w => tnil_asks w
  have C1 : Hid (∀ w, _) := fun w => has_zero c w
  go_enter Try.func29, Try.ntmps29
  go_wp2_with fail
  refine (C0.out _).mono ?_
  rintro e w1 ⟨rfl, rfl⟩
  go_wp2_with fail
  refine (C1.out _).mono ?_
  rintro e w2 ⟨rfl, rfl⟩
  go_wp2
  go_ret
  exact ⟨rfl, rfl⟩
theorem tnil_held (c : Int) (w : World) : Calls Try.prog 31 #[.pointer none, .int .i64 c] w fun e w' => e = .returned (.bool false) ∧ w' = w := by
  have C0 : Hid (∀ w, _) := fun w => tnil_asks w
  have C1 : Hid (∀ w, _) := fun w => has_zero c w
  go_enter Try.func31, Try.ntmps31
  go_wp2_with fail
  refine (C0.out _).mono ?_
  rintro e w1 ⟨rfl, rfl⟩
  go_wp2_with fail
  refine (C1.out _).mono ?_
  rintro e w2 ⟨rfl, rfl⟩
  go_wp2
  go_ret
  exact ⟨rfl, rfl⟩
theorem tnil_begin (x : Int) (w : World) : Calls Try.prog 22 #[.pointer none, .int .u64 x] w fun e w' => e = .returned (.int .i64 1) ∧ w' = w := by
  go_enter Try.func22, Try.ntmps22
  go_wp2
  go_ret
  exact ⟨rfl, rfl⟩
theorem tnil_ack (c : Int) (w : World) : Calls Try.prog 24 #[.pointer none, .int .i64 c] w fun e w' => e = .returned (.int .i64 1) ∧ w' = w := by
  go_enter Try.func24, Try.ntmps24
  go_wp2
  go_ret
  exact ⟨rfl, rfl⟩
theorem tnil_free (w : World) : Calls Try.prog 26 #[.pointer none] w fun e w' => e = .returned (.int .i64 1) ∧ w' = w := by
  go_enter Try.func26, Try.ntmps26
  go_wp2
  go_ret
  exact ⟨rfl, rfl⟩
theorem tnil_on (w : World) : Calls Try.prog 28 #[.pointer none] w fun e w' => e = .returned (.bool false) ∧ Sm w' w := by
  go_enter Try.func28, Try.ntmps28
  go_wp2_with fail
  go_quiet (fail)
  go_wp2
  go_ret
  exact ⟨rfl, rfl, rfl, rfl, rfl⟩
theorem tnil_ready (w : World) : Calls Try.prog 33 #[.pointer none] w fun e w' => e = .returned (.bool false) ∧ Sm w' w := by
  have C0 : Hid (∀ w, _) := fun w => tnil_on w
  go_enter Try.func33, Try.ntmps33
  go_wp2_with fail
  refine (C0.out _).mono ?_
  rintro e w1 ⟨rfl, m1⟩
  go_wp2
  go_ret
  exact ⟨rfl, m1⟩
theorem tnil_left (w : World) : Calls Try.prog 35 #[.pointer none] w fun e w' => e = .returned (.int .u64 0) ∧ w' = w := by
  go_enter Try.func35, Try.ntmps35
  go_wp2
  go_ret
  exact ⟨rfl, rfl⟩
end Go.Proofs.Ytbmdfoohabipjaa
