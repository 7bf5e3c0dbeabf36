/- Proved: for all numbers cpu and n, davitlaw25.MeterNil(cpu, n) returns true: a meter that is not there answers ErrNil, 0, and no number; no condition. -/
import Derived.Test.YtmelbbojanomiaaRows
import Derived.Test.YtmelbbojanomiaaFo
import Derived.Test.YtmelbbojanomiaaMeK
import Derived.Test.YtmelbbojanomiaaMeB
import Derived.WalkKit
import Derived.ProofKit
import Derived.OpenShut
import Derived.Stop.Joined
import Derived.ShutString
import Derived.ChangeOld
import Derived.Below
import Derived.Carry
namespace Go.Proofs.Ytmelbbojanomiaa.meterNil
open Go.ChangeShapes Go.WideShapes Go.ChangeAt Go.RowKit
open Mt Flo
set_option linter.unusedVariables false
set_option linter.unusedSimpArgs false

theorem own : ownKnob Try.prog.godebug = none := by kernel_rfl
theorem laidOut : laidOutB Try.prog = true := by kernel_rfl

set_option maxRecDepth 100000 in
set_option maxHeartbeats 4000000 in
theorem walk (a0 : Int) (a1 : Int) (w : World) (w0 : (Lit.int .i64 a0).wf = true) (w1 : (Lit.int .i64 a1).wf = true) :
    Calls Try.prog 7 #[.int .i64 a0, .int .i64 a1] w fun e w' => e = .returned (.bool true) ∧ Below w.heap.size w w' := by
  have KN : Hid (∀ w, _) := fun w => mknown_yes w
  have C0 : Hid (∀ w, _) := fun w => rate_any 0 0 w
  have C1 : Hid (∀ w, _) := fun w => mtwork_nil w a0 a1 a1
  have C2 : Hid (∀ w, _) := fun w => mtrest_nil w a0 0 a1 a1
  have C3 : Hid (∀ w, _) := fun w => mtenergy_nil w a0
  have C4 : Hid (∀ w, _) := fun w => mtticks_nil w a0
  have C5 : Hid (∀ w, _) := fun w => mtrested_nil w a0 0
  have C6 : Hid (∀ w, _) := fun w => mtaverage_nil w a0
  have C7 : Hid (∀ w, _) := fun w => mtshare_nil w a0 0
  have C8 : Hid (∀ x y u, x < 18446744073709551616 → y < 18446744073709551616 → _) := fun x y u hx hy => same_any x y u hx hy
  generalize rt 0 0 = R at *
  clear w0 w1
  go_enter Try.func7, Try.ntmps7
  go_wp2_with fail
  refine (C0.out _).mono ?_
  rintro e u0 ⟨x0, rfl, h0, k0, s0⟩
  have P0 : Hid (x0 < 18446744073709551616 ∧ ky x0 = R) := ⟨h0, k0⟩
  have B0 : Hid (Below w.heap.size w u0) := s0.below (Below.refl _ _)
  clear h0 k0 s0
  go_wp2_with fail
  refine (C1.out _).mono ?_
  rintro e u1 ⟨rfl, b⟩
  have B1 : Hid (Below w.heap.size w u1) := B0.out.trans (b.mono B0.out.size)
  clear b B0
  go_wp2_with fail
  refine (C2.out _).mono ?_
  rintro e u2 ⟨rfl, b⟩
  have B2 : Hid (Below w.heap.size w u2) := B1.out.trans (b.mono B1.out.size)
  clear b B1
  go_wp2_with fail
  refine (C3.out _).mono ?_
  rintro e u3 ⟨rfl, b⟩
  have B3 : Hid (Below w.heap.size w u3) := B2.out.trans (b.mono B2.out.size)
  clear b B2
  go_wp2_with fail
  refine (C4.out _).mono ?_
  rintro e u4 ⟨rfl, b⟩
  have B4 : Hid (Below w.heap.size w u4) := B3.out.trans (b.mono B3.out.size)
  clear b B3
  go_wp2_with fail
  refine (C5.out _).mono ?_
  rintro e u5 ⟨rfl, b⟩
  have B5 : Hid (Below w.heap.size w u5) := B4.out.trans (b.mono B4.out.size)
  clear b B4
  go_wp2_with fail
  refine (C6.out _).mono ?_
  rintro e u6 ⟨x6, rfl, h6, k6, b⟩
  have B6 : Hid (Below w.heap.size w u6) := B5.out.trans (b.mono B5.out.size)
  have S := C8.out x6 x0 u6 h6 P0.out.1
  rw [k6, P0.out.2] at S
  simp only [beq_self_eq_true] at S
  have T : Hid (∀ _ : Unit, _) := fun _ => S
  clear b B5 h6 k6 S
  go_wp2_with fail
  refine (T.out ()).mono ?_
  rintro e w' ⟨rfl, e0⟩
  subst e0
  clear T
  go_wp2_with fail
  refine (C7.out _).mono ?_
  rintro e u7 ⟨x7, rfl, h7, k7, b⟩
  have B7 : Hid (Below w.heap.size w u7) := B6.out.trans (b.mono B6.out.size)
  have S := C8.out x7 x0 u7 h7 P0.out.1
  rw [k7, P0.out.2] at S
  simp only [beq_self_eq_true] at S
  have T : Hid (∀ _ : Unit, _) := fun _ => S
  clear b B6 h7 k7 S
  go_wp2_with fail
  refine (T.out ()).mono ?_
  rintro e w' ⟨rfl, e0⟩
  subst e0
  clear T
  go_wp2_with fail
  refine (KN.out _).mono ?_
  rintro e u8 ⟨rfl, b⟩
  have B8 : Hid (Below w.heap.size w u8) := B7.out.trans (b.mono B7.out.size)
  clear b B7
  go_wp2
  go_ret
  exact ⟨rfl, B8.out⟩

set_option maxRecDepth 100000 in
theorem lifted (os : Os) (started : os.Started) (H : Type) (enc : TypeId × Value → H) :
    ReturnsInHanded {} Try.checked os 7 .any (Rows.meterNilSpec.pre6 enc Try.prog Try.f7 Rows.meterNilRow.domain false) (Rows.meterNilSpec.post enc Try.prog Try.f7 false true false false) := by
  refine returnsInHanded_of_change (C := Try.checked) own started (by kernel_rfl) Try.func7
    (ChangeSpec.witness6 (enc := enc) (C := Try.checked) false ⟨#[], #[.int .i64 0, .int .i64 0], []⟩ 8 (by kernel_rfl) (by kernel_rfl) (by kernel_rfl) (by kernel_rfl)) ?_
  intro W base args ds gs before hval0 hW hcnd _
  have hval : ∀ (j : Nat) t v, Try.f7.params[j]? = some t → args[j]? = some v → Value.okWide Try.prog W .any base t v := hval0
  have hW' := hW
  obtain ⟨p, q, hA0, hV, rfl, hfz, hnd⟩ := hW
  have hA : DataW.TrodAll enc Try.prog W 0 (fun _ => true) true Try.f7.params.toList args.toList ds p := hA0
  rw [Try.params7] at hA hval
  obtain ⟨v0, vs0, d0, ds0, p0, q0, hargs, rfl, rfl, h0, r0⟩ := trodAll_cons hA
  obtain ⟨v1, vs1, d1, ds1, p1, q1, rfl, rfl, rfl, h1, r1⟩ := trodAll_cons r0
  obtain ⟨rfl, rfl, rfl⟩ := trodAll_nil r1
  obtain rfl : args = #[v0, v1] := by cases args; simp_all
  obtain ⟨rfl, rfl⟩ := trodVars_none hV
  obtain ⟨a0, rfl, rfl, rfl, w0⟩ := open_int Try.underlying3 (hval 0 3 v0 rfl rfl) h0
  obtain ⟨a1, rfl, rfl, rfl, w1⟩ := open_int Try.underlying2 (hval 1 2 v1 rfl rfl) h1
  clear hA0 hval0
  refine (walk a0 a1 W w0 w1).mono fun e W' ⟨he, bel⟩ => ?_
  subst he
  exact ⟨_, rfl, _, _, _, [], _, [], hW', trodAll_mk1 (shut_bool Try.underlying4 _), (trodAll_cons_mk (shut_int Try.underlying3 w0) (trodAll_cons_mk (shut_int Try.underlying2 w1) trodAll_mk0)), rfl, bel.frame _, fun h => by cases h⟩

theorem over : Rows.MeterNilSaid :=
  OpenClaim.holds_of_wide 7 Try.f7 rfl rfl rfl rfl rfl rfl rfl ⟨rfl, rfl, rfl, rfl, rfl⟩ rfl rfl rfl rfl rfl (by kernel_rfl) Try.func7 (by kernel_rfl)
    (of_decide_eq_true (by kernel_rfl)) (by unfold Func.isWrapper; first | (rw [if_pos (by decide +kernel)]; kernel_rfl) | (rw [if_neg (by decide +kernel)]; exact ⟨rfl, rfl⟩))
    (fun os started H enc _ => lifted os started H enc)
end Go.Proofs.Ytmelbbojanomiaa.meterNil

namespace Go.Proofs.Ytmelbbojanomiaa
open Go
theorem meterNil_holds : Rows.MeterNilSaid := meterNil.over
#print axioms meterNil_holds
end Go.Proofs.Ytmelbbojanomiaa
