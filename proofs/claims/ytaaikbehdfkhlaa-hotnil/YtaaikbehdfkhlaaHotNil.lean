/- Proved: for every number stage and every truth up, davitlaw22.HotNil(stage, up) returns true: the calls of a desk that is not there answer what the document says; no condition. -/
import Derived.Test.YtaaikbehdfkhlaaRows
import Derived.Test.YtaaikbehdfkhlaaFo
import Derived.Test.YtaaikbehdfkhlaaHx
import Derived.WalkKit
import Derived.ProofKit
import Derived.OpenShut
import Derived.Stop.Joined
import Derived.ShutString
import Derived.ChangeOld
import Derived.Below
import Derived.Carry
namespace Go.Proofs.Ytaaikbehdfkhlaa.hotNil
open Go.ChangeShapes Go.WideShapes Go.ChangeAt Go.RowKit
open Rm Hp
set_option linter.unusedVariables false
set_option linter.unusedSimpArgs false

theorem own : ownKnob Try.prog.godebug = none := by kernel_rfl
theorem laidOut : laidOutB Try.prog = true := by kernel_rfl

set_option maxRecDepth 100000 in
set_option maxHeartbeats 4000000 in
theorem walk (a0 : Int) (a1 : Bool) (w : World) (w0 : (Lit.int .i64 a0).wf = true) :
    Calls Try.prog 8 #[.int .i64 a0, .bool a1] w fun e w' => e = .returned (.bool true) ∧ Below w.heap.size w w' := by
  have KN : Hid (∀ w1, _) := fun w1 => hknown_yes w1
  have C0 : Hid (∀ w, _) := fun w => hnext_nil w
  rw [show stv 0 false false = .agg #[.int .i64 0, .bool false, .bool false] from rfl] at C0
  have C1 : Hid (∀ w, _) := fun w => hend_nil w
  have C2 : Hid (∀ w, _) := fun w => hplan_nil a0 w
  have C3 : Hid (∀ w, _) := fun w => hbegin_nil a1 1 0 w
  obtain ⟨s, hs⟩ : ∃ s, w.heap.size = s := ⟨_, rfl⟩
  have HS : Hid (w.heap.size = s) := hs
  rw [hs]
  clear w0 hs
  go_enter Try.func8, Try.ntmps8
  go_wp2_with fail
  refine (C0.out _).mono ?_
  rintro e u1 ⟨rfl, b1⟩
  have N1 : Hid (ND w (bx 53 u1 0 false false) s u1.heap.size) := by
    have := HS.out
    have := b1.size
    refine ⟨bx_blk _ _ _ _ _, ?_, by omega⟩
    rw [← HS.out]
    exact b1.trans ((bx_below _ _ _ _ _).mono b1.size)
  clear b1
  go_wp2_with fail
  refine (C1.out _).mono ?_
  rintro e u2 ⟨rfl, b2⟩
  have N2 : Hid (ND w u2 s u1.heap.size) := N1.out.below b2
  clear b2 N1
  go_wp2_with fail
  refine (C2.out _).mono ?_
  rintro e u2 ⟨rfl, rfl⟩
  go_wp2_with fail
  refine (C3.out _).mono ?_
  rintro e u2 ⟨rfl, rfl⟩
  go_wp2_with fail
  refine (hbusy_nil _).mono ?_
  rintro e u3 ⟨rfl, b3⟩
  have N3 : Hid (ND w u3 s u1.heap.size) := N2.out.below b3
  clear b3 N2
  go_wp2_with fail
  refine (hup_nil _).mono ?_
  rintro e u4 ⟨rfl, b4⟩
  have N4 : Hid (ND w u4 s u1.heap.size) := N3.out.below b4
  clear b4 N3
  go_wp2_with fail
  refine (hcpu_nil _).mono ?_
  rintro e u5 ⟨rfl, b5⟩
  have N5 : Hid (ND w u5 s u1.heap.size) := N4.out.below b5
  clear b5 N4
  go_wp2_with fail
  refine (hby_nil _).mono ?_
  rintro e u6 ⟨rfl, b6⟩
  have N6 : Hid (ND w u6 s u1.heap.size) := N5.out.below b6
  have x6 := N6.out.1
  have y0 : u6.cell? ⟨u1.heap.size, 0, none⟩ = some (.int .i64 0) := x6.cell 0
  have y1 : u6.cell? ⟨u1.heap.size, 1, none⟩ = some (.bool false) := x6.cell 1
  have y2 : u6.cell? ⟨u1.heap.size, 2, none⟩ = some (.bool false) := x6.cell 2
  clear b6 N5 x6
  go_wp2_with fail
  refine (hdone_nil _).mono ?_
  rintro e u7 ⟨rfl, b7⟩
  have N7 : Hid (ND w u7 s u1.heap.size) := N6.out.below b7
  clear b7 N6
  go_wp2_with fail
  refine (hover_nil _).mono ?_
  rintro e u8 ⟨rfl, b8⟩
  have N8 : Hid (ND w u8 s u1.heap.size) := N7.out.below b8
  clear b8 N7
  go_wp2_with fail
  refine (KN.out _).mono ?_
  rintro e u9 ⟨rfl, b9⟩
  have N9 : Hid (ND w u9 s u1.heap.size) := N8.out.below b9
  clear b9 N8
  go_wp2
  go_ret
  exact ⟨rfl, N9.out.2.1⟩

set_option maxRecDepth 100000 in
theorem lifted (os : Os) (started : os.Started) (H : Type) (enc : TypeId × Value → H) :
    ReturnsInHanded {} Try.checked os 8 .any (Rows.hotNilSpec.pre6 enc Try.prog Try.f8 Rows.hotNilRow.domain false) (Rows.hotNilSpec.post enc Try.prog Try.f8 false true false false) := by
  refine returnsInHanded_of_change (C := Try.checked) own started (by kernel_rfl) Try.func8
    (ChangeSpec.witness6 (enc := enc) (C := Try.checked) false ⟨#[], #[.int .i64 0, .bool false], []⟩ 8 (by kernel_rfl) (by kernel_rfl) (by kernel_rfl) (by kernel_rfl)) ?_
  intro W base args ds gs before hval0 hW hcnd _
  have hval : ∀ (j : Nat) t v, Try.f8.params[j]? = some t → args[j]? = some v → Value.okWide Try.prog W .any base t v := hval0
  have hW' := hW
  obtain ⟨p, q, hA0, hV, rfl, hfz, hnd⟩ := hW
  have hA : DataW.TrodAll enc Try.prog W 0 (fun _ => true) true Try.f8.params.toList args.toList ds p := hA0
  rw [Try.params8] at hA hval
  obtain ⟨v0, vs0, d0, ds0, p0, q0, hargs, rfl, rfl, h0, r0⟩ := trodAll_cons hA
  obtain ⟨v1, vs1, d1, ds1, p1, q1, rfl, rfl, rfl, h1, r1⟩ := trodAll_cons r0
  obtain ⟨rfl, rfl, rfl⟩ := trodAll_nil r1
  obtain rfl : args = #[v0, v1] := by cases args; simp_all
  obtain ⟨rfl, rfl⟩ := trodVars_none hV
  obtain ⟨a0, rfl, rfl, rfl, w0⟩ := open_int Try.underlying3 (hval 0 3 v0 rfl rfl) h0
  obtain ⟨a1, rfl, rfl, rfl⟩ := open_bool Try.underlying4 (hval 1 4 v1 rfl rfl) h1
  clear hA0 hval0
  refine (walk a0 a1 W w0).mono fun e W' ⟨he, bel⟩ => ?_
  subst he
  exact ⟨_, rfl, _, _, _, [], _, [], hW', trodAll_mk1 (shut_bool Try.underlying4 _), (trodAll_cons_mk (shut_int Try.underlying3 w0) (trodAll_cons_mk (shut_bool Try.underlying4 a1) trodAll_mk0)), rfl, bel.frame _, fun h => by cases h⟩

theorem over : Rows.HotNilSaid :=
  OpenClaim.holds_of_wide 8 Try.f8 rfl rfl rfl rfl rfl rfl rfl ⟨rfl, rfl, rfl, rfl, rfl⟩ rfl rfl rfl rfl rfl (by kernel_rfl) Try.func8 (by kernel_rfl)
    (of_decide_eq_true (by kernel_rfl)) (by unfold Func.isWrapper; first | (rw [if_pos (by decide +kernel)]; kernel_rfl) | (rw [if_neg (by decide +kernel)]; exact ⟨rfl, rfl⟩))
    (fun os started H enc _ => lifted os started H enc)
end Go.Proofs.Ytaaikbehdfkhlaa.hotNil

namespace Go.Proofs.Ytaaikbehdfkhlaa
open Go
theorem hotNil_holds : Rows.HotNilSaid := hotNil.over
#print axioms hotNil_holds
end Go.Proofs.Ytaaikbehdfkhlaa
