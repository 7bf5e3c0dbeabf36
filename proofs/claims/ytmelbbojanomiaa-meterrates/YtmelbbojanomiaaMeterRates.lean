/- Proved: for all numbers a and b, davitlaw25.MeterRates(a, b) returns true: the program's quotient of any two whole numbers, also by 0, is the document's, bit by bit (all that is no number counts as one); no condition. -/
import Derived.Test.YtmelbbojanomiaaRows
import Derived.Test.YtmelbbojanomiaaFo
import Derived.Test.YtmelbbojanomiaaMeK
import Derived.WalkKit
import Derived.ProofKit
import Derived.OpenShut
import Derived.Stop.Joined
import Derived.ShutString
import Derived.ChangeOld
import Derived.Below
import Derived.Carry
namespace Go.Proofs.Ytmelbbojanomiaa.meterRates
open Go.ChangeShapes Go.WideShapes Go.ChangeAt Go.RowKit
open Mt Flo
set_option linter.unusedVariables false
set_option linter.unusedSimpArgs false

theorem own : ownKnob Try.prog.godebug = none := by kernel_rfl
theorem laidOut : laidOutB Try.prog = true := by kernel_rfl

set_option maxRecDepth 100000 in
set_option maxHeartbeats 4000000 in
theorem walk (a0 : Int) (a1 : Int) (w : World) (w0 : (Lit.int .i64 a0).wf = true) (w1 : (Lit.int .i64 a1).wf = true) :
    Calls Try.prog 4 #[.int .i64 a0, .int .i64 a1] w fun e w' => e = .returned (.bool true) ∧ Below w.heap.size w w' := by
  have KN : Hid (∀ w, _) := fun w => mknown_yes w
  have C1 : Hid (∀ w, _) := fun w => rate_any a0 a1 w
  have C2 : Hid (∀ w, _) := fun w => refrate_any a0 a1 w
  have C3 : Hid (∀ x y u, x < 18446744073709551616 → y < 18446744073709551616 → _) := fun x y u hx hy => refsame_any x y u hx hy
  generalize rt a0 a1 = R at *
  clear w0 w1
  go_enter Try.func4, Try.ntmps4
  go_wp2_with fail
  refine (C1.out _).mono ?_
  rintro e u1 ⟨x1, rfl, h1, k1, s1⟩
  have P1 : Hid (x1 < 18446744073709551616 ∧ ky x1 = R ∧ Sm u1 w) := ⟨h1, k1, s1⟩
  clear h1 k1 s1
  go_wp2_with fail
  refine (C2.out _).mono ?_
  rintro e u2 ⟨x2, rfl, h2, k2, s2⟩
  have B2 : Hid (Below w.heap.size w u2) := s2.below (P1.out.2.2.below (Below.refl _ _))
  have S := C3.out x1 x2 u2 P1.out.1 h2
  rw [P1.out.2.1, k2] at S
  simp only [beq_self_eq_true] at S
  have T : Hid (∀ _ : Unit, _) := fun _ => S
  clear h2 k2 s2 S
  go_wp2_with fail
  refine (T.out ()).mono ?_
  rintro e w' ⟨rfl, rfl⟩
  go_wp2_with fail
  refine (KN.out _).mono ?_
  rintro e u3 ⟨rfl, b3⟩
  have B3 : Hid (Below w.heap.size w u3) := B2.out.trans (b3.mono B2.out.size)
  clear b3
  go_wp2
  go_ret
  exact ⟨rfl, B3.out⟩

set_option maxRecDepth 100000 in
theorem lifted (os : Os) (started : os.Started) (H : Type) (enc : TypeId × Value → H) :
    ReturnsInHanded {} Try.checked os 4 .any (Rows.meterRatesSpec.pre6 enc Try.prog Try.f4 Rows.meterRatesRow.domain false) (Rows.meterRatesSpec.post enc Try.prog Try.f4 false true false false) := by
  refine returnsInHanded_of_change (C := Try.checked) own started (by kernel_rfl) Try.func4
    (ChangeSpec.witness6 (enc := enc) (C := Try.checked) false ⟨#[], #[.int .i64 0, .int .i64 0], []⟩ 8 (by kernel_rfl) (by kernel_rfl) (by kernel_rfl) (by kernel_rfl)) ?_
  intro W base args ds gs before hval0 hW hcnd _
  have hval : ∀ (j : Nat) t v, Try.f4.params[j]? = some t → args[j]? = some v → Value.okWide Try.prog W .any base t v := hval0
  have hW' := hW
  obtain ⟨p, q, hA0, hV, rfl, hfz, hnd⟩ := hW
  have hA : DataW.TrodAll enc Try.prog W 0 (fun _ => true) true Try.f4.params.toList args.toList ds p := hA0
  rw [Try.params4] at hA hval
  obtain ⟨v0, vs0, d0, ds0, p0, q0, hargs, rfl, rfl, h0, r0⟩ := trodAll_cons hA
  obtain ⟨v1, vs1, d1, ds1, p1, q1, rfl, rfl, rfl, h1, r1⟩ := trodAll_cons r0
  obtain ⟨rfl, rfl, rfl⟩ := trodAll_nil r1
  obtain rfl : args = #[v0, v1] := by cases args; simp_all
  obtain ⟨rfl, rfl⟩ := trodVars_none hV
  obtain ⟨a0, rfl, rfl, rfl, w0⟩ := open_int Try.underlying2 (hval 0 2 v0 rfl rfl) h0
  obtain ⟨a1, rfl, rfl, rfl, w1⟩ := open_int Try.underlying2 (hval 1 2 v1 rfl rfl) h1
  clear hA0 hval0
  refine (walk a0 a1 W w0 w1).mono fun e W' ⟨he, bel⟩ => ?_
  subst he
  exact ⟨_, rfl, _, _, _, [], _, [], hW', trodAll_mk1 (shut_bool Try.underlying4 _), (trodAll_cons_mk (shut_int Try.underlying2 w0) (trodAll_cons_mk (shut_int Try.underlying2 w1) trodAll_mk0)), rfl, bel.frame _, fun h => by cases h⟩

theorem over : Rows.MeterRatesSaid :=
  OpenClaim.holds_of_wide 4 Try.f4 rfl rfl rfl rfl rfl rfl rfl ⟨rfl, rfl, rfl, rfl, rfl⟩ rfl rfl rfl rfl rfl (by kernel_rfl) Try.func4 (by kernel_rfl)
    (of_decide_eq_true (by kernel_rfl)) (by unfold Func.isWrapper; first | (rw [if_pos (by decide +kernel)]; kernel_rfl) | (rw [if_neg (by decide +kernel)]; exact ⟨rfl, rfl⟩))
    (fun os started H enc _ => lifted os started H enc)
end Go.Proofs.Ytmelbbojanomiaa.meterRates

namespace Go.Proofs.Ytmelbbojanomiaa
open Go
theorem meterRates_holds : Rows.MeterRatesSaid := meterRates.over
#print axioms meterRates_holds
end Go.Proofs.Ytmelbbojanomiaa
