/- Proved: for every core and tick, davitlaw27.CoreNil(cpu, now) returns true: a table that is not there has no cores. -/
import Derived.Test.YtddjkdcbbonjkaaRows
import Derived.Test.YtddjkdcbbonjkaaFo
import Derived.Test.YtddjkdcbbonjkaaCoK
import Derived.WalkKit
import Derived.ProofKit
import Derived.OpenShut
import Derived.Stop.Joined
import Derived.ShutString
import Derived.ChangeOld
import Derived.Below
import Derived.Carry
namespace Go.Proofs.Ytddjkdcbbonjkaa.coreNil
open Go.ChangeShapes Go.WideShapes Go.ChangeAt Go.RowKit
open Co
set_option linter.unusedVariables false
set_option linter.unusedSimpArgs false

theorem own : ownKnob Try.prog.godebug = none := by kernel_rfl
theorem laidOut : laidOutB Try.prog = true := by kernel_rfl

set_option maxRecDepth 100000 in
set_option maxHeartbeats 4000000 in
theorem walk (a0 : Int) (a1 : Int) (w : World) (w0 : (Lit.int .i64 a0).wf = true) (w1 : (Lit.int .i64 a1).wf = true) :
    Calls Try.prog 6 #[.int .i64 a0, .int .i64 a1] w fun e w' => e = .returned (.bool true) ∧ Below w.heap.size w w' := by
  have C0 : Hid (∀ w, _) := fun w => cwake_nil w a0 a1
  have C1 : Hid (∀ w, _) := fun w => ctake_nil w a0
  have C2 : Hid (∀ w, _) := fun w => cget_nil w a0
  have C3 : Hid (∀ w, _) := fun w => cpower_nil w a0 true
  have C4 : Hid (∀ w, _) := fun w => crest_nil w a0 0 a1
  have C5 : Hid (∀ w, _) := fun w => ccount_nil w a0 true
  have C6 : Hid (∀ w, _) := fun w => cknown_yes w 
  simp only [ckv, kz] at C2
  have L0 : Hid (Below w.heap.size w w) := Below.refl _ _
  obtain ⟨z, hz⟩ : ∃ z, w.heap.size = z := ⟨_, rfl⟩
  have HZ : Hid (z ≤ w.heap.size) := by unfold Hid; omega
  rw [hz] at L0 ⊢
  clear hz
  go_enter Try.func6, Try.ntmps6
  go_wp2_with fail
  refine (C0.out _).mono ?_
  rintro e u0 ⟨rfl, b⟩
  have L1 : Hid (Below z w u0) := L0.out.trans (b.mono (Nat.le_trans HZ.out L0.out.size))
  clear b L0
  go_wp2_with fail
  refine (C1.out _).mono ?_
  rintro e u1 ⟨rfl, b⟩
  have L2 : Hid (Below z w u1) := L1.out.trans (b.mono (Nat.le_trans HZ.out L1.out.size))
  clear b L1
  go_wp2_with fail
  refine (C2.out _).mono ?_
  rintro e u2 ⟨rfl, b⟩
  have L3 : Hid (Below z w u2) := L2.out.trans (b.mono (Nat.le_trans HZ.out L2.out.size))
  clear b L2
  go_wp2_with fail
  refine (C3.out _).mono ?_
  rintro e u3 ⟨rfl, b⟩
  have L4 : Hid (Below z w u3) := (L3.out.alloc (Nat.le_trans HZ.out L3.out.size) _).trans (b.mono (by have := L3.out.size; have := HZ.out; simp; omega))
  clear b L3
  go_wp2_with fail
  refine (C4.out _).mono ?_
  rintro e u4 ⟨rfl, b⟩
  have L5 : Hid (Below z w u4) := L4.out.trans (b.mono (Nat.le_trans HZ.out L4.out.size))
  clear b L4
  go_wp2_with fail
  refine (C5.out _).mono ?_
  rintro e u5 ⟨rfl, b⟩
  have L6 : Hid (Below z w u5) := L5.out.trans (b.mono (Nat.le_trans HZ.out L5.out.size))
  clear b L5
  go_wp2_with fail
  refine (C6.out _).mono ?_
  rintro e u6 ⟨rfl, b⟩
  have L7 : Hid (Below z w u6) := L6.out.trans (b.mono (Nat.le_trans HZ.out L6.out.size))
  clear b L6
  go_wp2
  go_ret
  exact ⟨rfl, L7.out⟩

set_option maxRecDepth 100000 in
theorem lifted (os : Os) (started : os.Started) (H : Type) (enc : TypeId × Value → H) :
    ReturnsInHanded {} Try.checked os 6 .any (Rows.coreNilSpec.pre6 enc Try.prog Try.f6 Rows.coreNilRow.domain false) (Rows.coreNilSpec.post enc Try.prog Try.f6 false true false false) := by
  refine returnsInHanded_of_change (C := Try.checked) own started (by kernel_rfl) Try.func6
    (ChangeSpec.witness6 (enc := enc) (C := Try.checked) false ⟨#[], #[.int .i64 0, .int .i64 0], []⟩ 8 (by kernel_rfl) (by kernel_rfl) (by kernel_rfl) (by kernel_rfl)) ?_
  intro W base args ds gs before hval0 hW hcnd _
  have hval : ∀ (j : Nat) t v, Try.f6.params[j]? = some t → args[j]? = some v → Value.okWide Try.prog W .any base t v := hval0
  have hW' := hW
  obtain ⟨p, q, hA0, hV, rfl, hfz, hnd⟩ := hW
  have hA : DataW.TrodAll enc Try.prog W 0 (fun _ => true) true Try.f6.params.toList args.toList ds p := hA0
  rw [Try.params6] at hA hval
  obtain ⟨v0, vs0, d0, ds0, p0, q0, hargs, rfl, rfl, h0, r0⟩ := trodAll_cons hA
  obtain ⟨v1, vs1, d1, ds1, p1, q1, rfl, rfl, rfl, h1, r1⟩ := trodAll_cons r0
  obtain ⟨rfl, rfl, rfl⟩ := trodAll_nil r1
  obtain rfl : args = #[v0, v1] := by cases args; simp_all
  obtain ⟨rfl, rfl⟩ := trodVars_none hV
  obtain ⟨a0, rfl, rfl, rfl, w0⟩ := open_int Try.underlying3 (hval 0 3 v0 rfl rfl) h0
  obtain ⟨a1, rfl, rfl, rfl, w1⟩ := open_int Try.underlying2 (hval 1 2 v1 rfl rfl) h1
  clear hA0 hval0
  refine (walk a0 a1 W w0 w1).mono fun e W' ⟨he, bel⟩ => ?_
  subst he
  exact ⟨_, rfl, _, _, _, [], _, [], hW', trodAll_mk1 (shut_bool Try.underlying4 _), (trodAll_cons_mk (shut_int Try.underlying3 w0) (trodAll_cons_mk (shut_int Try.underlying2 w1) trodAll_mk0)), rfl, bel.frame _, fun h => by cases h⟩

theorem over : Rows.CoreNilSaid :=
  OpenClaim.holds_of_wide 6 Try.f6 rfl rfl rfl rfl rfl rfl rfl ⟨rfl, rfl, rfl, rfl, rfl⟩ rfl rfl rfl rfl rfl (by kernel_rfl) Try.func6 (by kernel_rfl)
    (of_decide_eq_true (by kernel_rfl)) (by unfold Func.isWrapper; first | (rw [if_pos (by decide +kernel)]; kernel_rfl) | (rw [if_neg (by decide +kernel)]; exact ⟨rfl, rfl⟩))
    (fun os started H enc _ => lifted os started H enc)
end Go.Proofs.Ytddjkdcbbonjkaa.coreNil

namespace Go.Proofs.Ytddjkdcbbonjkaa
open Go
theorem coreNil_holds : Rows.CoreNilSaid := coreNil.over
#print axioms coreNil_holds
end Go.Proofs.Ytddjkdcbbonjkaa
