/- Proved: for every number stages and every list acts of truths, davitlaw21.StagePlays(stages, acts) returns true: a run that is played with answers what the document says, each time (200 acts at most, as the law itself says), and acts is left alone; no condition. -/
import Derived.Test.YtaaikbehdfkhlaaRows
import Derived.Test.YtaaikbehdfkhlaaFo
import Derived.Test.YtaaikbehdfkhlaaRd
import Derived.WalkKit
import Derived.ProofKit
import Derived.OpenShut
import Derived.Stop.Joined
import Derived.ShutString
import Derived.ChangeOld
import Derived.Below
import Derived.Carry
import Derived.Test.YtaaikbehdfkhlaaFu
namespace Go.Proofs.Ytaaikbehdfkhlaa.stagePlays
open Go.ChangeShapes Go.WideShapes Go.ChangeAt Go.RowKit
open Rm
set_option linter.unusedVariables false
set_option linter.unusedSimpArgs false

theorem own : ownKnob Try.prog.godebug = none := by kernel_rfl
theorem laidOut : laidOutB Try.prog = true := by kernel_rfl

set_option maxRecDepth 100000 in
set_option maxHeartbeats 4000000 in
theorem walk (a0 : Int) (a1 : Option Addr) (len1 cap1 : Nat) (X1 : Nat → Bool) (w : World) (w0 : (Lit.int .i64 a0).wf = true) (w1 : BRow w (.slice a1 len1 cap1) len1 X1) :
    Calls Try.prog 3 #[.int .i64 a0, .slice a1 len1 cap1] w fun e w' => e = .returned (.bool true) ∧ Below w.heap.size w w' := by
  have KN : Hid (∀ w1, _) := fun w1 => gknown_yes w1
  by_cases hb : a0 < 1 ∨ 64 < a0
  · have C0 : Hid (∀ w, _) := fun w => gnew_bad a0 w hb
    have C1 : Hid (∀ w, _) := fun w => dnew_bad a0 w hb
    clear w0 w1 hb
    go_enter Try.func3, Try.ntmps3
    go_wp2_with fail
    refine (C0.out _).mono ?_
    rintro e u1 ⟨rfl, m1⟩
    have M1 : Hid (Below w.heap.size w u1 ∧ w.heap.size ≤ u1.heap.size) := ⟨m1.below (Below.refl _ _), by rw [m1.1]; exact Nat.le_refl _⟩
    clear m1
    go_wp2_with fail
    refine (C1.out _).mono ?_
    rintro e u2 ⟨rfl, m2⟩
    have M2 : Hid (Below w.heap.size w u2 ∧ w.heap.size ≤ u2.heap.size) := ⟨m2.below M1.out.1, by rw [m2.1]; exact M1.out.2⟩
    clear m2
    go_wp2_with fail
    refine (KN.out _).mono ?_
    rintro e u3 ⟨rfl, b3⟩
    go_wp2
    go_ret
    exact ⟨rfl, M2.out.1.trans (b3.mono M2.out.2)⟩
  · obtain ⟨n, rfl⟩ : ∃ n : Nat, a0 = n := ⟨a0.toNat, by omega⟩
    have hn1 : (1 : Int) ≤ n := by omega
    have hn2 : (n : Int) ≤ 64 := by omega
    have C0 : Hid (∀ _ : Unit, _) := fun _ => gnew_any n w hn1 hn2
    have C1 : Hid (∀ w, _) := fun w => dnew_any n w hn1 hn2
    have HR : Hid (BRow w (.slice a1 len1 cap1) len1 X1) := w1
    obtain ⟨s, hs⟩ : ∃ s, w.heap.size = s := ⟨_, rfl⟩
    have HS : Hid (w.heap.size = s) := hs
    rw [hs] at C0 ⊢
    clear hb w0 w1 hs
    go_enter Try.func3, Try.ntmps3
    go_wp2_with fail
    refine (C0.out ()).mono ?_
    rintro e u1 ⟨rfl, q1, b1⟩
    have T1 : Hid (GR w u1 s n 0 false) := ⟨q1, b1⟩
    have D1 : Hid (∀ _ : Unit, _) := fun _ => C1.out u1
    have HL : Hid (s ≤ u1.heap.size) := by have := T1.out.hi; show s ≤ u1.heap.size; omega
    obtain ⟨l, hl⟩ : ∃ l, u1.heap.size = l := ⟨_, rfl⟩
    obtain ⟨r, hr⟩ : ∃ r, l + 1 = r := ⟨_, rfl⟩
    rw [hl, hr] at D1
    rw [hl] at HL
    have HRL : Hid (u1.heap.size = l ∧ l + 1 = r) := ⟨hl, hr⟩
    clear q1 b1 C0 C1 hl hr
    go_wp2_with fail
    refine (D1.out ()).mono ?_
    rintro e u2 ⟨rfl, p2, b2⟩
    have T2 : Hid (GP w u2 s r l n 0 false 0 false) := by
      have h1 := HRL.out
      have h2 := T1.out.hi
      exact ⟨T1.out.q.keep (Fr.of_below b2) (by omega) (by simp), p2, by have := HL.out; omega, HL.out, T1.out.bel.trans (b2.mono HL.out)⟩
    clear p2 b2 D1 T1 HRL HL
    go_wp2
    go_loopw [9] (fun i wr => ∃ (k d : Nat) (bk : Bool), (k : Int) ≤ 200 ∧ (k : Int) ≤ len1 ∧ GP w wr s r l n d bk d bk ∧ i = .int .i64 k) (fun i _ => 200 - (intOf i).toNat)
    case atStart => exact ⟨0, 0, false, by omega, by omega, T2.out, rfl⟩
    case round =>
      obtain ⟨k, d, bk, hk, hk2, q, rfl⟩ := hrel
      clear T2
      have tail : (¬ (k : Int) < len1 ∧ decide ((k : Int) < len1) = false) ∨ ((k : Int) < len1 ∧ ¬ (k : Int) < 200) ∨ ((k : Int) < len1 ∧ (k : Int) < 200) := by
        by_cases h : (k : Int) < len1
        · by_cases h2 : (k : Int) < 200
          · exact Or.inr (Or.inr ⟨h, h2⟩)
          · exact Or.inr (Or.inl ⟨h, h2⟩)
        · exact Or.inl ⟨h, decide_eq_false h⟩
      rw [← or_assoc] at tail
      rcases tail with tail | ⟨h, h2⟩
      · have M1 : Hid (Below s w wr ∧ s ≤ wr.heap.size) := ⟨q.bel, by have := q.hi; omega⟩
        clear q
        rcases tail with ⟨h, hd⟩ | ⟨h, h2⟩
        all_goals (
          go_wp2_with fail
          refine (KN.out _).mono ?_
          rintro e u4 ⟨rfl, f4⟩
          go_wp2
          go_ret
          exact ⟨rfl, M1.out.1.trans (f4.mono M1.out.2)⟩)
      · obtain ⟨b0, off, rfl, x0⟩ := brow_cell (wr := wr) HR.out (by rw [HS.out]; exact q.bel) h
        have Q : Hid (GP w wr s r l n d bk d bk) := q
        clear q
        cases hx : X1 k
        · rw [hx] at x0
          clear hx
          have P1 : Hid (∀ _ : Unit, _) := fun _ => gp_fail Q.out
          have P2 : Hid (∀ u, GP w u s r l n d bk (d) (flB n d bk) → _) := fun u t => gp_rfail (wr := u) t
          generalize flE n d bk = ee at *
          generalize flB n d bk = b2 at *
          obtain ⟨d2, hd2⟩ : ∃ d2, d2 = d := ⟨_, rfl⟩
          rw [← hd2] at P1 P2
          clear hd2
          have ne : (ee != ee) = false := by simp
          clear Q
          go_wp2_with fail
          refine (P1.out ()).mono ?_
          rintro e u1 ⟨rfl, t1⟩
          have T1 : Hid _ := t1
          clear t1 P1
          go_wp2_with fail
          refine (P2.out _ T1.out).mono ?_
          rintro e u2 ⟨rfl, t2⟩
          have P3 : Hid (∀ _ : Unit, _) := fun _ => gp_at t2
          have P4 : Hid (∀ u, GP w u s r l n d2 b2 d2 b2 → _) := fun u t => gp_rat (wr := u) t
          have P5 : Hid (∀ u, GP w u s r l n d2 b2 d2 b2 → _) := fun u t => gp_why (wr := u) t
          have P6 : Hid (∀ u, GP w u s r l n d2 b2 d2 b2 → _) := fun u t => gp_rwhy (wr := u) t
          generalize atK n d2 b2 = ak at *
          generalize ov n d2 b2 = ao at *
          generalize whE n d2 b2 = ww at *
          have n1 : ((ak : Int) != (ak : Int)) = false := by simp
          have n2 : (ao != ao) = false := by simp
          have n3 : (b2 != b2) = false := by simp
          have n4 : (ww != ww) = false := by simp
          have n5 : ((d2 : Int) != (d2 : Int)) = false := by simp
          clear t2 P2 T1
          go_wp2_with fail
          refine (P3.out ()).mono ?_
          rintro e u3 ⟨rfl, t3⟩
          have T3 : Hid (GP w u3 s r l n d2 b2 d2 b2) := t3
          clear t3 P3
          go_wp2_with fail
          refine (P4.out _ T3.out).mono ?_
          rintro e u4 ⟨rfl, t4⟩
          have T4 : Hid (GP w u4 s r l n d2 b2 d2 b2) := t4
          clear t4 P4 T3
          go_wp2_with fail
          refine (P5.out _ T4.out).mono ?_
          rintro e u5 ⟨rfl, t5⟩
          have T5 : Hid (GP w u5 s r l n d2 b2 d2 b2) := t5
          clear t5 P5 T4
          go_wp2_with fail
          refine (P6.out _ T5.out).mono ?_
          rintro e u6 ⟨rfl, t6⟩
          have T6 : Hid (GP w u6 s r l n d2 b2 d2 b2) := t6
          clear t6 P6 T5
          go_wp2_with fail
          refine (gp_many T6.out).mono ?_
          rintro e u7 ⟨rfl, t7⟩
          have T7 : Hid (GP w u7 s r l n d2 b2 d2 b2) := t7
          clear t7 T6
          go_wp2_with fail
          refine (gp_rmany T7.out).mono ?_
          rintro e u8 ⟨rfl, t8⟩
          have T8 : Hid (GP w u8 s r l n d2 b2 d2 b2) := t8
          clear t8 T7
          go_wp2
          go_roundw
          case rel => exact ⟨k + 1, d2, b2, by omega, by omega, T8.out, by go_num⟩
          case measure => simp [intOf]; omega
        · rw [hx] at x0
          clear hx
          have P1 : Hid (∀ _ : Unit, _) := fun _ => gp_done Q.out
          have P2 : Hid (∀ u, GP w u s r l n d bk (dnD n d bk) (bk) → _) := fun u t => gp_rdone (wr := u) t
          generalize dnE n d bk = ee at *
          generalize dnD n d bk = d2 at *
          obtain ⟨b2, hb2⟩ : ∃ b2, b2 = bk := ⟨_, rfl⟩
          rw [← hb2] at P1 P2
          clear hb2
          have ne : (ee != ee) = false := by simp
          clear Q
          go_wp2_with fail
          refine (P1.out ()).mono ?_
          rintro e u1 ⟨rfl, t1⟩
          have T1 : Hid _ := t1
          clear t1 P1
          go_wp2_with fail
          refine (P2.out _ T1.out).mono ?_
          rintro e u2 ⟨rfl, t2⟩
          have P3 : Hid (∀ _ : Unit, _) := fun _ => gp_at t2
          have P4 : Hid (∀ u, GP w u s r l n d2 b2 d2 b2 → _) := fun u t => gp_rat (wr := u) t
          have P5 : Hid (∀ u, GP w u s r l n d2 b2 d2 b2 → _) := fun u t => gp_why (wr := u) t
          have P6 : Hid (∀ u, GP w u s r l n d2 b2 d2 b2 → _) := fun u t => gp_rwhy (wr := u) t
          generalize atK n d2 b2 = ak at *
          generalize ov n d2 b2 = ao at *
          generalize whE n d2 b2 = ww at *
          have n1 : ((ak : Int) != (ak : Int)) = false := by simp
          have n2 : (ao != ao) = false := by simp
          have n3 : (b2 != b2) = false := by simp
          have n4 : (ww != ww) = false := by simp
          have n5 : ((d2 : Int) != (d2 : Int)) = false := by simp
          clear t2 P2 T1
          go_wp2_with fail
          refine (P3.out ()).mono ?_
          rintro e u3 ⟨rfl, t3⟩
          have T3 : Hid (GP w u3 s r l n d2 b2 d2 b2) := t3
          clear t3 P3
          go_wp2_with fail
          refine (P4.out _ T3.out).mono ?_
          rintro e u4 ⟨rfl, t4⟩
          have T4 : Hid (GP w u4 s r l n d2 b2 d2 b2) := t4
          clear t4 P4 T3
          go_wp2_with fail
          refine (P5.out _ T4.out).mono ?_
          rintro e u5 ⟨rfl, t5⟩
          have T5 : Hid (GP w u5 s r l n d2 b2 d2 b2) := t5
          clear t5 P5 T4
          go_wp2_with fail
          refine (P6.out _ T5.out).mono ?_
          rintro e u6 ⟨rfl, t6⟩
          have T6 : Hid (GP w u6 s r l n d2 b2 d2 b2) := t6
          clear t6 P6 T5
          go_wp2_with fail
          refine (gp_many T6.out).mono ?_
          rintro e u7 ⟨rfl, t7⟩
          have T7 : Hid (GP w u7 s r l n d2 b2 d2 b2) := t7
          clear t7 T6
          go_wp2_with fail
          refine (gp_rmany T7.out).mono ?_
          rintro e u8 ⟨rfl, t8⟩
          have T8 : Hid (GP w u8 s r l n d2 b2 d2 b2) := t8
          clear t8 T7
          go_wp2
          go_roundw
          case rel => exact ⟨k + 1, d2, b2, by omega, by omega, T8.out, by go_num⟩
          case measure => simp [intOf]; omega

set_option maxRecDepth 100000 in
theorem lifted (os : Os) (started : os.Started) (H : Type) (enc : TypeId × Value → H) :
    ReturnsInHanded {} Try.checked os 3 .any (Rows.stagePlaysSpec.pre6 enc Try.prog Try.f3 Rows.stagePlaysRow.domain false) (Rows.stagePlaysSpec.post enc Try.prog Try.f3 false true false false) := by
  refine returnsInHanded_of_change (C := Try.checked) own started (by kernel_rfl) Try.func3
    (ChangeSpec.witness6 (enc := enc) (C := Try.checked) false ⟨#[], #[.int .i64 0, .slice none 0 0], []⟩ 8 (by kernel_rfl) (by kernel_rfl) (by kernel_rfl) (by kernel_rfl)) ?_
  intro W base args ds gs before hval0 hW hcnd _
  have hval : ∀ (j : Nat) t v, Try.f3.params[j]? = some t → args[j]? = some v → Value.okWide Try.prog W .any base t v := hval0
  have hW' := hW
  obtain ⟨p, q, hA0, hV, rfl, hfz, hnd⟩ := hW
  have hA : DataW.TrodAll enc Try.prog W 0 (fun _ => true) true Try.f3.params.toList args.toList ds p := hA0
  rw [Try.params3] at hA hval
  obtain ⟨v0, vs0, d0, ds0, p0, q0, hargs, rfl, rfl, h0, r0⟩ := trodAll_cons hA
  obtain ⟨v1, vs1, d1, ds1, p1, q1, rfl, rfl, rfl, h1, r1⟩ := trodAll_cons r0
  obtain ⟨rfl, rfl, rfl⟩ := trodAll_nil r1
  obtain rfl : args = #[v0, v1] := by cases args; simp_all
  obtain ⟨rfl, rfl⟩ := trodVars_none hV
  obtain ⟨a0, rfl, rfl, rfl, w0⟩ := open_int Try.underlying3 (hval 0 3 v0 rfl rfl) h0
  obtain ⟨a1, len1, cap1, rfl⟩ := okWide_slice Try.underlying22 (hval 1 22 v1 rfl rfl)
  have k1 := h1
  have lt1 : ∀ x ∈ p1, x.block < W.heap.size := by obtain ⟨m, hm⟩ := k1; exact DataW.trod_lt m _ _ _ hm
  obtain ⟨X1, w1⟩ : ∃ X : Nat → Bool, BRow W (.slice a1 len1 cap1) len1 X := by
    obtain ⟨fuel, hf⟩ := h1
    exact open_bools Try.underlying22 Try.underlying4 (by kernel_rfl) hf
  clear hA0 hval0
  refine (walk a0 a1 len1 cap1 X1 W w0 w1).mono fun e W' ⟨he, bel⟩ => ?_
  subst he
  exact ⟨_, rfl, _, _, _, [], _, [], hW', trodAll_mk1 (shut_bool Try.underlying4 _), (trodAll_cons_mk (shut_int Try.underlying3 w0) (trodAll_cons_mk (Below.trod laidOut (by kernel_rfl) (of_decide_eq_true (by kernel_rfl)) k1 bel lt1) trodAll_mk0)), rfl, bel.frame _, fun h => by cases h⟩

theorem over : Rows.StagePlaysSaid :=
  OpenClaim.holds_of_wide 3 Try.f3 rfl rfl rfl rfl rfl rfl rfl ⟨rfl, rfl, rfl, rfl, rfl⟩ rfl rfl rfl rfl rfl (by kernel_rfl) Try.func3 (by kernel_rfl)
    (of_decide_eq_true (by kernel_rfl)) (by unfold Func.isWrapper; first | (rw [if_pos (by decide +kernel)]; kernel_rfl) | (rw [if_neg (by decide +kernel)]; exact ⟨rfl, rfl⟩))
    (fun os started H enc _ => lifted os started H enc)
end Go.Proofs.Ytaaikbehdfkhlaa.stagePlays

namespace Go.Proofs.Ytaaikbehdfkhlaa
open Go
theorem stagePlays_holds : Rows.StagePlaysSaid := stagePlays.over
#print axioms stagePlays_holds
end Go.Proofs.Ytaaikbehdfkhlaa
