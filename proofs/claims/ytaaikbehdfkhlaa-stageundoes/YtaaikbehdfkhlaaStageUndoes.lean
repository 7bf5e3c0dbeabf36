/- Proved: for every two numbers stages and at, davitlaw21.StageUndoes(stages, at) returns true: a run that fails at a stage undoes all stages ahead of it, the last one first, and no other one; no condition. -/
import Derived.Test.YtaaikbehdfkhlaaRows
import Derived.Test.YtaaikbehdfkhlaaFo
import Derived.Test.YtaaikbehdfkhlaaRc
import Derived.WalkKit
import Derived.ProofKit
import Derived.OpenShut
import Derived.Stop.Joined
import Derived.ShutString
import Derived.ChangeOld
import Derived.Below
import Derived.Carry
namespace Go.Proofs.Ytaaikbehdfkhlaa.stageUndoes
open Go.ChangeShapes Go.WideShapes Go.ChangeAt Go.RowKit
open Rm
set_option linter.unusedVariables false
set_option linter.unusedSimpArgs false

theorem own : ownKnob Try.prog.godebug = none := by kernel_rfl
theorem laidOut : laidOutB Try.prog = true := by kernel_rfl

set_option maxRecDepth 100000 in
set_option maxHeartbeats 4000000 in
theorem walk (a0 : Int) (a1 : Int) (w : World) (w0 : (Lit.int .i64 a0).wf = true) (w1 : (Lit.int .i64 a1).wf = true) :
    Calls Try.prog 4 #[.int .i64 a0, .int .i64 a1] w fun e w' => e = .returned (.bool true) ∧ Below w.heap.size w w' := by
  have KN : Hid (∀ w1, _) := fun w1 => gknown_yes w1
  by_cases hb : a0 < 1 ∨ 64 < a0
  · have C0 : Hid (∀ _ : Unit, _) := fun _ => gnew_bad a0 w hb
    rcases hb with hb | hb
    all_goals (
      clear w0 w1
      go_enter Try.func4, Try.ntmps4
      go_wp2_with fail
      refine (C0.out ()).mono ?_
      rintro e u1 ⟨rfl, m1⟩
      have M1 : Hid (Below w.heap.size w u1 ∧ w.heap.size ≤ u1.heap.size) := ⟨m1.below (Below.refl _ _), by rw [m1.1]; exact Nat.le_refl _⟩
      clear m1
      go_wp2_with fail
      refine (KN.out _).mono ?_
      rintro e u2 ⟨rfl, b2⟩
      go_wp2
      go_ret
      exact ⟨rfl, M1.out.1.trans (b2.mono M1.out.2)⟩)
  · obtain ⟨n, rfl⟩ : ∃ n : Nat, a0 = n := ⟨a0.toNat, by omega⟩
    have hn1 : (1 : Int) ≤ n := by omega
    have hn2 : (n : Int) ≤ 64 := by omega
    have C0 : Hid (∀ _ : Unit, _) := fun _ => gnew_any n w hn1 hn2
    obtain ⟨s, hs⟩ : ∃ s, w.heap.size = s := ⟨_, rfl⟩
    have HS : Hid (w.heap.size = s) := hs
    rw [hs] at C0 ⊢
    clear hb w0 hs
    by_cases ha : a1 < 0 ∨ (n : Int) ≤ a1
    · rcases ha with ha | ha
      all_goals (
        try (have ha0 : ¬ a1 < 0 := by omega)
        clear w1
        go_enter Try.func4, Try.ntmps4
        go_wp2_with fail
        refine (C0.out ()).mono ?_
        rintro e u1 ⟨rfl, q1, b1⟩
        have M1 : Hid (Below s w u1 ∧ s ≤ u1.heap.size) := ⟨b1, by have := q1.sb.lt; omega⟩
        clear q1 b1
        go_wp2_with fail
        refine (KN.out _).mono ?_
        rintro e u2 ⟨rfl, b2⟩
        go_wp2
        go_ret
        exact ⟨rfl, M1.out.1.trans (b2.mono M1.out.2)⟩)
    · obtain ⟨m, rfl⟩ : ∃ m : Nat, a1 = m := ⟨a1.toNat, by omega⟩
      have hm : (m : Int) < n := by omega
      have hd1 : decide (n ≤ m) = false := decide_eq_false (by omega)
      have hd2 : decide ((m : Int) < 0) = false := decide_eq_false (by omega)
      clear ha w1
      go_enter Try.func4, Try.ntmps4
      go_wp2_with fail
      refine (C0.out ()).mono ?_
      rintro e u1 ⟨rfl, q1, b1⟩
      have T1 : Hid (GR w u1 s n 0 false) := ⟨q1, b1⟩
      clear q1 b1 C0
      go_wp2
      go_loopw [7] (fun i wr => ∃ (k : Nat), (k : Int) ≤ m ∧ GR w wr s n k false ∧ i = .int .i64 k) (fun i _ => m - (intOf i).toNat)
      case atStart => exact ⟨0, by omega, T1.out, rfl⟩
      case round =>
        obtain ⟨k, hk, q, rfl⟩ := hrel
        clear T1
        have hkn : k < n := by omega
        by_cases h : (k : Int) < m
        · have Q : Hid (GR w wr s n k false) := q
          have P1 : Hid (∀ _ : Unit, _) := fun _ => gr_at Q.out
          rw [at_f hkn, ov_f hkn] at P1
          have HK : Hid (k < n) := hkn
          clear q
          go_wp2_with fail
          refine (P1.out ()).mono ?_
          rintro e u2 ⟨rfl, t2⟩
          have P2 : Hid (∀ _ : Unit, _) := fun _ => gr_done t2
          rw [show dnE n k false = 0 by simp [dnE, ov_f HK.out], show dnD n k false = k + 1 by simp [dnD, ov_f HK.out]] at P2
          clear t2
          go_wp2_with fail
          refine (P2.out ()).mono ?_
          rintro e u3 ⟨rfl, t3⟩
          have T3 : Hid (GR w u3 s n (k + 1) false) := t3
          clear t3 P1 P2 Q
          go_wp2
          go_roundw
          case rel => exact ⟨k + 1, by omega, T3.out, by go_num⟩
          case measure => simp [intOf]; omega
        · obtain rfl : m = k := by omega
          have P1 : Hid (∀ _ : Unit, _) := fun _ => gr_fail q
          rw [show flE n m false = 0 by simp [flE, ov_f hkn], show flB n m false = true by simp [flB, ov_f hkn]] at P1
          clear q hkn h
          go_wp2_with fail
          refine (P1.out ()).mono ?_
          rintro e u2 ⟨rfl, t2⟩
          have T2 : Hid (GR w u2 s n m true) := t2
          clear t2 P1
          go_wp2
          go_loopw [11] (fun i wr => ∃ (k : Nat), (k : Int) ≤ m ∧ GR w wr s n k true ∧ i = .int .i64 ((k : Int) - 1)) (fun i _ => (intOf i + 1).toNat)
          case atStart => exact ⟨m, by omega, T2.out, by go_num⟩
          case round =>
            obtain ⟨j, hj, q, rfl⟩ := hrel
            clear T2
            by_cases h0 : j = 0
            · subst h0
              have P3 : Hid (∀ _ : Unit, _) := fun _ => gr_at q
              rw [at_b0, ov_b0] at P3
              clear q
              go_wp2_with fail
              refine (P3.out ()).mono ?_
              rintro e u3 ⟨rfl, t3⟩
              have P4 : Hid (∀ _ : Unit, _) := fun _ => gr_why t3
              rw [show whE n 0 true = 11 from rfl] at P4
              clear t3
              go_wp2_with fail
              refine (P4.out ()).mono ?_
              rintro e u4 ⟨rfl, t4⟩
              have P5 : Hid (∀ _ : Unit, _) := fun _ => gr_many t4
              rw [show ((0 : Nat) : Int) = 0 from rfl] at P5
              clear t4
              go_wp2_with fail
              refine (P5.out ()).mono ?_
              rintro e u5 ⟨rfl, t5⟩
              have P6 : Hid (∀ _ : Unit, _) := fun _ => gr_done t5
              rw [show dnE n 0 true = 6 from rfl, show dnD n 0 true = 0 from rfl] at P6
              clear t5
              go_wp2_with fail
              refine (P6.out ()).mono ?_
              rintro e u6 ⟨rfl, t6⟩
              have M6 : Hid (Below s w u6 ∧ s ≤ u6.heap.size) := ⟨t6.bel, by have := t6.hi; omega⟩
              clear t6
              go_wp2_with fail
              refine (KN.out _).mono ?_
              rintro e u7 ⟨rfl, b7⟩
              go_wp2
              go_ret
              exact ⟨rfl, M6.out.1.trans (b7.mono M6.out.2)⟩
            · have hp : 0 < j := by omega
              obtain ⟨p, hpj⟩ : ∃ p, j - 1 = p := ⟨_, rfl⟩
              have hp1 : (j : Int) - 1 = (p : Int) := by omega
              have P3 : Hid (∀ _ : Unit, _) := fun _ => gr_at q
              rw [at_b, ov_b hp, hpj] at P3
              have HP : Hid (0 < j ∧ j - 1 = p) := ⟨hp, hpj⟩
              have hpm : (p : Int) + 1 ≤ m := by omega
              have hmu : (intOf (.int .i64 ((p : Int) - 1)) + 1).toNat < (intOf (.int .i64 (p : Int)) + 1).toNat := by simp [intOf]
              clear q h0 hp hpj hj
              rw [hp1]
              clear hp1
              go_wp2_with fail
              refine (P3.out ()).mono ?_
              rintro e u3 ⟨rfl, t3⟩
              have P4 : Hid (∀ _ : Unit, _) := fun _ => gr_why t3
              rw [show whE n j true = 7 by simp [whE, ov_b HP.out.1]] at P4
              clear t3
              go_wp2_with fail
              refine (P4.out ()).mono ?_
              rintro e u4 ⟨rfl, t4⟩
              have P5 : Hid (∀ _ : Unit, _) := fun _ => gr_fail t4
              rw [show flE n j true = 6 by simp [flE], show flB n j true = true by simp [flB]] at P5
              clear t4
              go_wp2_with fail
              refine (P5.out ()).mono ?_
              rintro e u5 ⟨rfl, t5⟩
              have P6 : Hid (∀ _ : Unit, _) := fun _ => gr_done t5
              rw [show dnE n j true = 0 by simp [dnE, ov_b HP.out.1], show dnD n j true = p by simp [dnD, ov_b HP.out.1, HP.out.2]] at P6
              clear t5
              go_wp2_with fail
              refine (P6.out ()).mono ?_
              rintro e u6 ⟨rfl, t6⟩
              have T6 : Hid (GR w u6 s n p true) := t6
              clear t6 P3 P4 P5 P6
              go_wp2
              go_roundw
              case rel => exact ⟨p, by omega, T6.out, by go_num⟩
              case measure => exact hmu

set_option maxRecDepth 100000 in
theorem lifted (os : Os) (started : os.Started) (H : Type) (enc : TypeId × Value → H) :
    ReturnsInHanded {} Try.checked os 4 .any (Rows.stageUndoesSpec.pre6 enc Try.prog Try.f4 Rows.stageUndoesRow.domain false) (Rows.stageUndoesSpec.post enc Try.prog Try.f4 false true false false) := by
  refine returnsInHanded_of_change (C := Try.checked) own started (by kernel_rfl) Try.func4
    (ChangeSpec.witness6 (enc := enc) (C := Try.checked) false ⟨#[], #[.int .i64 0, .int .i64 0], []⟩ 8 (by kernel_rfl) (by kernel_rfl) (by kernel_rfl) (by kernel_rfl)) ?_
  intro W base args ds gs before hval0 hW hcnd _
  have hval : ∀ (j : Nat) t v, Try.f4.params[j]? = some t → args[j]? = some v → Value.okWide Try.prog W .any base t v := hval0
  have hW' := hW
  obtain ⟨p, q, hA0, hV, rfl, hfz, hnd⟩ := hW
  have hA : DataW.TrodAll enc Try.prog W 0 (fun _ => true) true Try.f4.params.toList args.toList ds p := hA0
  rw [Try.params4] at hA hval
  obtain ⟨v0, vs0, d0, ds0, p0, q0, hargs, rfl, rfl, h0, r0⟩ := trodAll_cons hA
  obtain ⟨v1, vs1, d1, ds1, p1, q1, rfl, rfl, rfl, h1, r1⟩ := trodAll_cons r0
  obtain ⟨rfl, rfl, rfl⟩ := trodAll_nil r1
  obtain rfl : args = #[v0, v1] := by cases args; simp_all
  obtain ⟨rfl, rfl⟩ := trodVars_none hV
  obtain ⟨a0, rfl, rfl, rfl, w0⟩ := open_int Try.underlying3 (hval 0 3 v0 rfl rfl) h0
  obtain ⟨a1, rfl, rfl, rfl, w1⟩ := open_int Try.underlying3 (hval 1 3 v1 rfl rfl) h1
  clear hA0 hval0
  refine (walk a0 a1 W w0 w1).mono fun e W' ⟨he, bel⟩ => ?_
  subst he
  exact ⟨_, rfl, _, _, _, [], _, [], hW', trodAll_mk1 (shut_bool Try.underlying4 _), (trodAll_cons_mk (shut_int Try.underlying3 w0) (trodAll_cons_mk (shut_int Try.underlying3 w1) trodAll_mk0)), rfl, bel.frame _, fun h => by cases h⟩

theorem over : Rows.StageUndoesSaid :=
  OpenClaim.holds_of_wide 4 Try.f4 rfl rfl rfl rfl rfl rfl rfl ⟨rfl, rfl, rfl, rfl, rfl⟩ rfl rfl rfl rfl rfl (by kernel_rfl) Try.func4 (by kernel_rfl)
    (of_decide_eq_true (by kernel_rfl)) (by unfold Func.isWrapper; first | (rw [if_pos (by decide +kernel)]; kernel_rfl) | (rw [if_neg (by decide +kernel)]; exact ⟨rfl, rfl⟩))
    (fun os started H enc _ => lifted os started H enc)
end Go.Proofs.Ytaaikbehdfkhlaa.stageUndoes

namespace Go.Proofs.Ytaaikbehdfkhlaa
open Go
theorem stageUndoes_holds : Rows.StageUndoesSaid := stageUndoes.over
#print axioms stageUndoes_holds
end Go.Proofs.Ytaaikbehdfkhlaa
