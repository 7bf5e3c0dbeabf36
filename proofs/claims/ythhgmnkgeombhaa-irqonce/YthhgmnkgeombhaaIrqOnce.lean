/- Proved: for all numbers n and times and either truth hush, davitlaw15.IrqOnce(n, times, hush) returns true: an interrupt that was raised, masked or not, however often (50 times at most, as the law itself says), is ready when it is not masked any more, and is handled once; no condition. -/
import Derived.Test.YthhgmnkgeombhaaRows
import Derived.Test.YthhgmnkgeombhaaFo
import Derived.Test.YthhgmnkgeombhaaBd
import Derived.Test.YthhgmnkgeombhaaBg
import Derived.WalkKit
import Derived.ProofKit
import Derived.OpenShut
import Derived.Stop.Joined
import Derived.ShutString
import Derived.ChangeOld
import Derived.Below
import Derived.Carry
namespace Go.Proofs.Ythhgmnkgeombhaa.irqOnce
open Go.ChangeShapes Go.WideShapes Go.ChangeAt Go.RowKit
open Mm Bm
set_option linter.unusedVariables false
set_option linter.unusedSimpArgs false

theorem own : ownKnob Try.prog.godebug = none := by kernel_rfl
theorem laidOut : laidOutB Try.prog = true := by kernel_rfl

set_option maxRecDepth 100000 in
set_option maxHeartbeats 4000000 in
theorem walk (a0 : Int) (a1 : Int) (a2 : Bool) (w : World) (w0 : (Lit.int .i64 a0).wf = true) (w1 : (Lit.int .i64 a1).wf = true) :
    Calls Try.prog 4 #[.int .i64 a0, .int .i64 a1, .bool a2] w fun e w' => e = .returned (.bool true) ∧ Below w.heap.size w w' := by
  obtain ⟨s, hsz⟩ : ∃ s, w.heap.size = s := ⟨_, rfl⟩
  have C : Hid (∀ _ : Unit, _) := fun _ => iqnew_any 4 w (by decide) (by decide)
  have KN : Hid (∀ w1, _) := fun w1 => iqknown_yes w1
  have KF : Hid (∀ w1 w2 : World, s ≤ w1.heap.size → Below s w w1 → Below w1.heap.size w1 w2 → Below s w w2) := fun w1 w2 z b1 b2 => b1.trans (b2.mono z)
  rw [hsz] at C ⊢
  have HS : Hid (w.heap.size = s) := hsz
  by_cases wrong : a0 < 0 ∨ 16 ≤ a0 ∨ a1 < 1 ∨ 50 < a1
  · have tail : (a0 < 0) ∨ (0 ≤ a0 ∧ 16 ≤ a0) ∨ (0 ≤ a0 ∧ a0 < 16 ∧ a1 < 1) ∨ (0 ≤ a0 ∧ a0 < 16 ∧ 1 ≤ a1 ∧ 50 < a1) := by omega
    clear wrong hsz w0 w1
    rcases tail with h | ⟨h, h2⟩ | ⟨h, h2, h3⟩ | ⟨h, h2, h3, h4⟩
    all_goals (
      go_enter Try.func4, Try.ntmps4
      go_wp2_with fail
      refine (C.out ()).mono ?_
      rintro e u1 ⟨rfl, -, f1, z1⟩
      have F1 : Hid (Below s w u1) := f1
      have Z1 : Hid (u1.heap.size = s + 1) := z1
      clear f1 z1
      go_wp2_with fail
      refine (KN.out _).mono ?_
      rintro e u2 ⟨rfl, f2⟩
      go_wp2
      go_ret
      exact ⟨rfl, KF.out _ _ (by have := Z1.out; omega) F1.out f2⟩)
  · obtain ⟨i, rfl⟩ := Int.eq_ofNat_of_zero_le (show 0 ≤ a0 by omega)
    obtain ⟨m, rfl⟩ := Int.eq_ofNat_of_zero_le (show 0 ≤ a1 by omega)
    have h1 : (i : Int) < 16 := by omega
    have h2 : (1 : Int) ≤ m := by omega
    have h3 : (m : Int) ≤ 50 := by omega
    have HI : Hid (i < 16) := by unfold Hid; omega
    clear wrong hsz w0 w1
    cases a2 with
    | false =>
      go_enter Try.func4, Try.ntmps4
      go_wp2_with fail
      refine (C.out ()).mono ?_
      rintro e u1 ⟨rfl, q1, f1, z1⟩
      have T1 : Hid (∀ _ : Unit, _) := fun _ => os_request (w := w) (wr := u1) (s := s) HI.out ⟨⟨_, q1, rfl⟩, f1, by omega⟩
      clear q1 f1 z1
      go_wp2_with fail
      refine (T1.out ()).mono ?_
      rintro e u2 ⟨rfl, o2⟩
      have O2 : Hid (OS w u2 s i (nw 3)) := o2
      clear o2 T1
      go_wp2
      go_loopw [9] (fun j wr => ∃ (k : Nat) (p : Bool), (k : Int) ≤ m ∧ Hid (k = 0 ∨ p = true) ∧ OS w wr s i ⟨true, false, p, 3⟩ ∧ j = .int .i64 k) (fun j _ => m - (intOf j).toNat)
      case atStart => exact ⟨0, false, by omega, Or.inl rfl, O2.out, rfl⟩
      case round =>
        obtain ⟨k, p, hk, hp, o, rfl⟩ := hrel
        clear O2
        by_cases e : (k : Int) < m
        · have T2 : Hid (∀ _ : Unit, _) := fun _ => os_raise HI.out o
          clear o
          go_wp2_with fail
          refine (T2.out ()).mono ?_
          rintro e u3 ⟨rfl, o3⟩
          have T3 : Hid (∀ _ : Unit, _) := fun _ => os_ready HI.out o3
          rw [show rdy ⟨true, false, true, 3⟩ = true from rfl] at T3
          clear o3 T2
          go_wp2_with fail
          refine (T3.out ()).mono ?_
          rintro e u4 ⟨rfl, o4⟩
          have O4 : Hid (OS w u4 s i ⟨true, false, true, 3⟩) := o4
          clear o4 T3
          go_wp2
          go_roundw
          case rel => exact ⟨k + 1, true, by omega, Or.inr rfl, O4.out, by go_num⟩
          case measure => simp [intOf]; omega
        · obtain rfl : p = true := by
            rcases hp.out with q | q
            · omega
            · exact q
          have T2 : Hid (∀ _ : Unit, _) := fun _ => os_ready HI.out o
          rw [show rdy ⟨true, false, true, 3⟩ = true from rfl] at T2
          clear o hp
          go_wp2_with fail
          refine (T2.out ()).mono ?_
          rintro e u3 ⟨rfl, o3⟩
          have T3 : Hid (∀ _ : Unit, _) := fun _ => os_clear HI.out o3
          clear o3 T2
          go_wp2_with fail
          refine (T3.out ()).mono ?_
          rintro e u4 ⟨rfl, o4⟩
          have T4 : Hid (∀ _ : Unit, _) := fun _ => os_ready HI.out o4
          rw [show rdy ⟨true, false, false, 3⟩ = false from rfl] at T4
          clear o4 T3
          go_wp2_with fail
          refine (T4.out ()).mono ?_
          rintro e u5 ⟨rfl, o5⟩
          have T5 : Hid (∀ _ : Unit, _) := fun _ => os_clear_no HI.out o5 rfl
          clear o5 T4
          go_wp2_with fail
          refine (T5.out ()).mono ?_
          rintro e u6 ⟨rfl, o6⟩
          have O6 : Hid (OS w u6 s i ⟨true, false, false, 3⟩) := o6
          clear o6 T5
          go_wp2_with fail
          refine (KN.out _).mono ?_
          rintro e u7 ⟨rfl, f7⟩
          go_wp2
          go_ret
          exact ⟨rfl, (O6.out.below f7).bel⟩
    | true =>
      go_enter Try.func4, Try.ntmps4
      go_wp2_with fail
      refine (C.out ()).mono ?_
      rintro e u1 ⟨rfl, q1, f1, z1⟩
      have T1 : Hid (∀ _ : Unit, _) := fun _ => os_request (w := w) (wr := u1) (s := s) HI.out ⟨⟨_, q1, rfl⟩, f1, by omega⟩
      clear q1 f1 z1
      go_wp2_with fail
      refine (T1.out ()).mono ?_
      rintro e u2 ⟨rfl, o2⟩
      have T2 : Hid (∀ _ : Unit, _) := fun _ => os_hush (p := false) (m := 3) HI.out o2
      clear o2 T1
      go_wp2_with fail
      refine (T2.out ()).mono ?_
      rintro e u2 ⟨rfl, o2⟩
      have O2 : Hid (OS w u2 s i ⟨true, true, false, 3⟩) := o2
      clear o2 T2
      go_wp2
      go_loopw [9] (fun j wr => ∃ (k : Nat) (p : Bool), (k : Int) ≤ m ∧ Hid (k = 0 ∨ p = true) ∧ OS w wr s i ⟨true, true, p, 3⟩ ∧ j = .int .i64 k) (fun j _ => m - (intOf j).toNat)
      case atStart => exact ⟨0, false, by omega, Or.inl rfl, O2.out, rfl⟩
      case round =>
        obtain ⟨k, p, hk, hp, o, rfl⟩ := hrel
        clear O2
        by_cases e : (k : Int) < m
        · have T2 : Hid (∀ _ : Unit, _) := fun _ => os_raise HI.out o
          clear o
          go_wp2_with fail
          refine (T2.out ()).mono ?_
          rintro e u3 ⟨rfl, o3⟩
          have T3 : Hid (∀ _ : Unit, _) := fun _ => os_ready HI.out o3
          rw [show rdy ⟨true, true, true, 3⟩ = false from rfl] at T3
          clear o3 T2
          go_wp2_with fail
          refine (T3.out ()).mono ?_
          rintro e u4 ⟨rfl, o4⟩
          have O4 : Hid (OS w u4 s i ⟨true, true, true, 3⟩) := o4
          clear o4 T3
          go_wp2
          go_roundw
          case rel => exact ⟨k + 1, true, by omega, Or.inr rfl, O4.out, by go_num⟩
          case measure => simp [intOf]; omega
        · obtain rfl : p = true := by
            rcases hp.out with q | q
            · omega
            · exact q
          have T0 : Hid (∀ _ : Unit, _) := fun _ => os_clear_no HI.out o rfl
          clear o hp
          go_wp2_with fail
          refine (T0.out ()).mono ?_
          rintro e u0 ⟨rfl, o0⟩
          have T1 : Hid (∀ _ : Unit, _) := fun _ => os_unhush HI.out o0
          clear o0 T0
          go_wp2_with fail
          refine (T1.out ()).mono ?_
          rintro e u1 ⟨rfl, o1⟩
          have T2 : Hid (∀ _ : Unit, _) := fun _ => os_ready HI.out o1
          rw [show rdy ⟨true, false, true, 3⟩ = true from rfl] at T2
          clear o1 T1
          go_wp2_with fail
          refine (T2.out ()).mono ?_
          rintro e u3 ⟨rfl, o3⟩
          have T3 : Hid (∀ _ : Unit, _) := fun _ => os_clear HI.out o3
          clear o3 T2
          go_wp2_with fail
          refine (T3.out ()).mono ?_
          rintro e u4 ⟨rfl, o4⟩
          have T4 : Hid (∀ _ : Unit, _) := fun _ => os_ready HI.out o4
          rw [show rdy ⟨true, false, false, 3⟩ = false from rfl] at T4
          clear o4 T3
          go_wp2_with fail
          refine (T4.out ()).mono ?_
          rintro e u5 ⟨rfl, o5⟩
          have T5 : Hid (∀ _ : Unit, _) := fun _ => os_clear_no HI.out o5 rfl
          clear o5 T4
          go_wp2_with fail
          refine (T5.out ()).mono ?_
          rintro e u6 ⟨rfl, o6⟩
          have O6 : Hid (OS w u6 s i ⟨true, false, false, 3⟩) := o6
          clear o6 T5
          go_wp2_with fail
          refine (KN.out _).mono ?_
          rintro e u7 ⟨rfl, f7⟩
          go_wp2
          go_ret
          exact ⟨rfl, (O6.out.below f7).bel⟩

set_option maxRecDepth 100000 in
theorem lifted (os : Os) (started : os.Started) (H : Type) (enc : TypeId × Value → H) :
    ReturnsInHanded {} Try.checked os 4 .any (Rows.irqOnceSpec.pre6 enc Try.prog Try.f4 Rows.irqOnceRow.domain false) (Rows.irqOnceSpec.post enc Try.prog Try.f4 false true false false) := by
  refine returnsInHanded_of_change (C := Try.checked) own started (by kernel_rfl) Try.func4
    (ChangeSpec.witness6 (enc := enc) (C := Try.checked) false ⟨#[], #[.int .i64 0, .int .i64 0, .bool false], []⟩ 8 (by kernel_rfl) (by kernel_rfl) (by kernel_rfl) (by kernel_rfl)) ?_
  intro W base args ds gs before hval0 hW hcnd _
  have hval : ∀ (j : Nat) t v, Try.f4.params[j]? = some t → args[j]? = some v → Value.okWide Try.prog W .any base t v := hval0
  have hW' := hW
  obtain ⟨p, q, hA0, hV, rfl, hfz, hnd⟩ := hW
  have hA : DataW.TrodAll enc Try.prog W 0 (fun _ => true) true Try.f4.params.toList args.toList ds p := hA0
  rw [Try.params4] at hA hval
  obtain ⟨v0, vs0, d0, ds0, p0, q0, hargs, rfl, rfl, h0, r0⟩ := trodAll_cons hA
  obtain ⟨v1, vs1, d1, ds1, p1, q1, rfl, rfl, rfl, h1, r1⟩ := trodAll_cons r0
  obtain ⟨v2, vs2, d2, ds2, p2, q2, rfl, rfl, rfl, h2, r2⟩ := trodAll_cons r1
  obtain ⟨rfl, rfl, rfl⟩ := trodAll_nil r2
  obtain rfl : args = #[v0, v1, v2] := by cases args; simp_all
  obtain ⟨rfl, rfl⟩ := trodVars_none hV
  obtain ⟨a0, rfl, rfl, rfl, w0⟩ := open_int Try.underlying3 (hval 0 3 v0 rfl rfl) h0
  obtain ⟨a1, rfl, rfl, rfl, w1⟩ := open_int Try.underlying3 (hval 1 3 v1 rfl rfl) h1
  obtain ⟨a2, rfl, rfl, rfl⟩ := open_bool Try.underlying4 (hval 2 4 v2 rfl rfl) h2
  clear hA0 hval0
  refine (walk a0 a1 a2 W w0 w1).mono fun e W' ⟨he, bel⟩ => ?_
  subst he
  exact ⟨_, rfl, _, _, _, [], _, [], hW', trodAll_mk1 (shut_bool Try.underlying4 _), (trodAll_cons_mk (shut_int Try.underlying3 w0) (trodAll_cons_mk (shut_int Try.underlying3 w1) (trodAll_cons_mk (shut_bool Try.underlying4 a2) trodAll_mk0))), rfl, bel.frame _, fun h => by cases h⟩

theorem over : Rows.IrqOnceSaid :=
  OpenClaim.holds_of_wide 4 Try.f4 rfl rfl rfl rfl rfl rfl rfl ⟨rfl, rfl, rfl, rfl, rfl⟩ rfl rfl rfl rfl rfl (by kernel_rfl) Try.func4 (by kernel_rfl)
    (of_decide_eq_true (by kernel_rfl)) (by unfold Func.isWrapper; first | (rw [if_pos (by decide +kernel)]; kernel_rfl) | (rw [if_neg (by decide +kernel)]; exact ⟨rfl, rfl⟩))
    (fun os started H enc _ => lifted os started H enc)
end Go.Proofs.Ythhgmnkgeombhaa.irqOnce

namespace Go.Proofs.Ythhgmnkgeombhaa
open Go
theorem irqOnce_holds : Rows.IrqOnceSaid := irqOnce.over
#print axioms irqOnce_holds
end Go.Proofs.Ythhgmnkgeombhaa
