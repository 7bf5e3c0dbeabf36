/- What must come of the fixed calls of law 25 does. -/
import Derived.Test.YtmelbbojanomiaaRows
import Derived.Test.YtmelbbojanomiaaMeE
import Derived.WalkKit
import Derived.ProofKit
import Derived.OpenShut
import Derived.BigQuiet
namespace Go.Proofs.Ytmelbbojanomiaa
open Go.ChangeShapes Go.WideShapes Go.ChangeAt Go.RowKit
open Mt Flo

set_option maxRecDepth 100000 in
set_option maxHeartbeats 1000000 in
theorem mknown_yes (w : World) : Calls Try.prog 11 #[] w fun e w' => e = .returned (.bool true) ∧ Below w.heap.size w w' := by
  obtain ⟨F0, hF0⟩ : ∃ F0 : Nat → Ac, (fun _ => za) = F0 := ⟨_, rfl⟩
  obtain ⟨F1, hF1⟩ : ∃ F1, wkF 2 F0 0 3 10 = F1 := ⟨_, rfl⟩
  obtain ⟨F2, hF2⟩ : ∃ F2, rsF 2 F1 0 1 1 2 = F2 := ⟨_, rfl⟩
  have o0 : OkF 2 F0 0 := by rw [← hF0]; exact okF_new 2
  have o1 : OkF 2 F1 2147483648 := by rw [← hF1]; exact o0.wkF 0 3 10
  have e1 : wkE 2 F0 0 3 10 = 0 := by rw [← hF0]; decide +kernel
  have e2 : rsE 2 F1 0 1 1 2 = 0 := by rw [← hF1, ← hF0]; decide +kernel
  have e3 : enB 2 F2 0 = 32 := by rw [← hF2, ← hF1, ← hF0]; decide +kernel
  have e4 : tkB 2 F2 0 = 4 := by rw [← hF2, ← hF1, ← hF0]; decide +kernel
  have e5 : rsB 2 F2 0 1 = 1 := by rw [← hF2, ← hF1, ← hF0]; decide +kernel
  have r1 : rt 32 4 = ky 4620693217682128896 := by decide +kernel
  have r2 : rt 1 4 = ky 4598175219545276416 := by decide +kernel
  have r3 : rt 0 (-3) < ky 0 := by decide +kernel
  have r4 : rt 1 0 < rt 0 0 := by decide +kernel
  have C0 : Hid (∀ _ : Unit, _) := fun _ => mtnew_any 2 w (by omega) (by omega)
  have C1 : Hid (∀ u s g, PM u s g 2 F0 → _) := fun u s g hu => mtwork_any u s g 2 F0 0 3 10 hu (fun k hk => (o0 k hk).mono (by omega))
  have C2 : Hid (∀ u s g, PM u s g 2 F1 → _) := fun u s g hu => mtrest_any u s g 2 F1 0 1 1 2 hu (fun k hk => (o1 k hk).mono (by omega))
  have C3 : Hid (∀ u s g, PM u s g 2 F2 → _) := fun u s g hu => mtenergy_any u s g 2 F2 0 hu
  have C4 : Hid (∀ u s g, PM u s g 2 F2 → _) := fun u s g hu => mtticks_any u s g 2 F2 0 hu
  have C5 : Hid (∀ u s g, PM u s g 2 F2 → _) := fun u s g hu => mtaverage_any u s g 2 F2 0 hu
  have C6 : Hid (∀ u s g, PM u s g 2 F2 → _) := fun u s g hu => mtshare_any u s g 2 F2 0 1 hu
  have C7 : Hid (∀ x y u, x < 18446744073709551616 → y < 18446744073709551616 → _) := fun x y u hx hy => refsame_any x y u hx hy
  have C8 : Hid (∀ a b u, _) := fun a b u => rate_any a b u
  have C9 : Hid (∀ x y u, x < 18446744073709551616 → y < 18446744073709551616 → _) := fun x y u hx hy => order_any x y u hx hy
  rw [hF0] at C0
  rw [e1, hF1] at C1
  rw [e2, hF2] at C2
  rw [e3] at C3
  rw [e4] at C4
  rw [e3, e4, r1] at C5
  rw [e5, e4, r2] at C6
  have R3 : Hid (rt 0 (-3) < ky 0) := r3
  have R4 : Hid (rt 1 0 < rt 0 0) := r4
  clear o0 o1 e1 e2 e3 e4 e5 r1 r2 r3 r4 hF0 hF1 hF2
  go_enter Try.func11, Try.ntmps11
  go_wp2_with fail
  refine (C0.out ()).mono ?_
  rintro e u0 ⟨rfl, p0, b0⟩
  have P0 : Hid (PM u0 (w.heap.size + 1) w.heap.size 2 F0 ∧ Below w.heap.size w u0) := ⟨p0, b0⟩
  clear p0 b0
  go_wp2_with fail
  refine (C1.out _ _ _ P0.out.1).mono ?_
  rintro e u1 ⟨rfl, p1, b1⟩
  have P1 : Hid (PM u1 (w.heap.size + 1) w.heap.size 2 F1 ∧ Below w.heap.size w u1) := ⟨p1, fr_own P0.out.2 b1 P0.out.2.size (by simp)⟩
  clear p1 b1 P0
  go_wp2_with fail
  refine (C2.out _ _ _ P1.out.1).mono ?_
  rintro e u2 ⟨rfl, p2, b2⟩
  have P2 : Hid (PM u2 (w.heap.size + 1) w.heap.size 2 F2 ∧ Below w.heap.size w u2) := ⟨p2, fr_own P1.out.2 b2 P1.out.2.size (by simp)⟩
  clear p2 b2 P1
  go_wp2_with fail
  refine (C3.out _ _ _ P2.out.1).mono ?_
  rintro e u3 ⟨rfl, b3⟩
  have P3 : Hid (PM u3 (w.heap.size + 1) w.heap.size 2 F2 ∧ Below w.heap.size w u3) := ⟨P2.out.1.below b3, P2.out.2.trans (b3.mono P2.out.2.size)⟩
  clear b3 P2
  go_wp2_with fail
  refine (C4.out _ _ _ P3.out.1).mono ?_
  rintro e u4 ⟨rfl, b4⟩
  have P4 : Hid (PM u4 (w.heap.size + 1) w.heap.size 2 F2 ∧ Below w.heap.size w u4) := ⟨P3.out.1.below b4, P3.out.2.trans (b4.mono P3.out.2.size)⟩
  clear b4 P3
  go_wp2_with fail
  refine (C5.out _ _ _ P4.out.1).mono ?_
  rintro e u5 ⟨x5, rfl, h5, k5, b5⟩
  have P5 : Hid (PM u5 (w.heap.size + 1) w.heap.size 2 F2 ∧ Below w.heap.size w u5) := ⟨P4.out.1.below b5, P4.out.2.trans (b5.mono P4.out.2.size)⟩
  have S5 := C7.out x5 4620693217682128896 u5 h5 (by omega)
  rw [k5] at S5
  simp only [beq_self_eq_true] at S5
  have T5 : Hid (∀ _ : Unit, _) := fun _ => S5
  clear b5 P4 h5 k5 S5
  go_wp2_with fail
  refine (T5.out ()).mono ?_
  rintro e w' ⟨rfl, rfl⟩
  go_wp2_with fail
  refine (C6.out _ _ _ P5.out.1).mono ?_
  rintro e u6 ⟨x6, rfl, h6, k6, b6⟩
  have P6 : Hid (Below w.heap.size w u6) := P5.out.2.trans (b6.mono P5.out.2.size)
  have S6 := C7.out x6 4598175219545276416 u6 h6 (by omega)
  rw [k6] at S6
  simp only [beq_self_eq_true] at S6
  have T6 : Hid (∀ _ : Unit, _) := fun _ => S6
  clear b6 P5 h6 k6 S6 T5
  go_wp2_with fail
  refine (T6.out ()).mono ?_
  rintro e w' ⟨rfl, rfl⟩
  go_wp2_with fail
  refine (C8.out 0 (-3) _).mono ?_
  rintro e u7 ⟨x7, rfl, h7, k7, s7⟩
  have P7 : Hid (Below w.heap.size w u7) := s7.below P6.out
  have S7 := C9.out x7 0 u7 h7 (by omega)
  rw [show od x7 0 = -1 by unfold od; rw [k7, if_pos R3.out]] at S7
  have T7 : Hid (∀ _ : Unit, _) := fun _ => S7
  clear s7 P6 h7 k7 S7 T6
  go_wp2_with fail
  refine (T7.out ()).mono ?_
  rintro e w' ⟨rfl, rfl⟩
  go_wp2_with fail
  refine (C8.out 1 0 _).mono ?_
  rintro e u8 ⟨x8, rfl, h8, k8, s8⟩
  have P8 : Hid (Below w.heap.size w u8) := s8.below P7.out
  have K8 : Hid (x8 < 18446744073709551616 ∧ ky x8 = rt 1 0) := ⟨h8, k8⟩
  clear s8 P7 h8 k8 T7
  go_wp2_with fail
  refine (C8.out 0 0 _).mono ?_
  rintro e u9 ⟨x9, rfl, h9, k9, s9⟩
  have P9 : Hid (Below w.heap.size w u9) := s9.below P8.out
  have S9 := C9.out x8 x9 u9 K8.out.1 h9
  rw [show od x8 x9 = -1 by unfold od; rw [K8.out.2, k9, if_pos R4.out]] at S9
  have T9 : Hid (∀ _ : Unit, _) := fun _ => S9
  clear s9 P8 h9 k9 S9
  go_wp2_with fail
  refine (T9.out ()).mono ?_
  rintro e w' ⟨rfl, rfl⟩
  go_wp2
  go_ret
  exact ⟨rfl, P9.out⟩
end Go.Proofs.Ytmelbbojanomiaa
