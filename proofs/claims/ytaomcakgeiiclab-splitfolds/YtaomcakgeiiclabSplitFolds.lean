/- Proved: for every number cpus and every list acts, davitlaw06.SplitFolds(cpus, acts) returns true: a part that goes to another one changes no sum, and the sum is that of all that was added (100 acts at most, each of a number from -2^50 to 2^50, as the law itself says), and acts is left alone, with no condition. -/
import Derived.Test.YtaomcakgeiiclabRows
import Derived.Test.YtaomcakgeiiclabFo
import Derived.Test.YtaomcakgeiiclabPc
import Derived.WalkKit
import Derived.ProofKit
import Derived.OpenShut
import Derived.Stop.Joined
import Derived.ShutString
import Derived.ChangeOld
import Derived.Below
import Derived.Carry
import Derived.Test.YtaomcakgeiiclabFs
namespace Go.Proofs.Ytaomcakgeiiclab.splitFolds
open Go.ChangeShapes Go.WideShapes Go.ChangeAt Go.RowKit
open Pm
set_option linter.unusedVariables false
set_option linter.unusedSimpArgs false

theorem own : ownKnob Try.prog.godebug = none := by kernel_rfl
theorem laidOut : laidOutB Try.prog = true := by kernel_rfl

set_option maxRecDepth 100000 in
set_option maxHeartbeats 4000000 in
theorem walk (a0 : Int) (a1 : Option Addr) (len1 cap1 : Nat) (X1 : Nat → Nat → Int) (w : World) (w0 : (Lit.int .i64 a0).wf = true) (w1 : SRow w (.slice a1 len1 cap1) len1 [true, true, true, false] X1) (z1 : ∀ i, i < len1 → ∀ j, j < [true, true, true, false].length → [true, true, true, false].getD j true = true → (Lit.int .i64 (X1 i j)).wf = true) :
    Calls Try.prog 3 #[.int .i64 a0, .slice a1 len1 cap1] w fun e w' => e = .returned (.bool true) ∧ Below w.heap.size w w' := by
  have KN : Hid (∀ w, _) := fun w => known_yes w
  by_cases wrong : a0 < 1 ∨ 64 < a0
  · have C : Hid (∀ w, _) := fun w => new_bad a0 w wrong
    clear w0 w1 z1
    rcases wrong with g | g
    · go_enter Try.func3, Try.ntmps3
      go_wp2_with fail
      refine (C.out _).mono ?_
      rintro e u1 ⟨rfl, rfl⟩
      go_wp2_with fail
      refine (KN.out _).mono ?_
      rintro e u1 ⟨rfl, hb⟩
      go_wp2
      go_ret
      exact ⟨rfl, hb⟩
    · have g2 : ¬ a0 < 1 := by omega
      go_enter Try.func3, Try.ntmps3
      go_wp2_with fail
      refine (C.out _).mono ?_
      rintro e u1 ⟨rfl, rfl⟩
      go_wp2_with fail
      refine (KN.out _).mono ?_
      rintro e u1 ⟨rfl, hb⟩
      go_wp2
      go_ret
      exact ⟨rfl, hb⟩
  · obtain ⟨m, rfl⟩ := Int.eq_ofNat_of_zero_le (show 0 ≤ a0 by omega)
    have m1 : (1 : Int) ≤ m := by omega
    have m2 : (m : Int) ≤ 64 := by omega
    have C : Hid (∀ _ : Unit, _) := fun _ => new_any m w m1 m2
    have HR : Hid (SRow w (.slice a1 len1 cap1) len1 [true, true, true, false] X1) := w1
    obtain ⟨s, hs⟩ : ∃ s, w.heap.size = s := ⟨_, rfl⟩
    have HS : Hid (w.heap.size = s) := hs
    rw [hs] at C ⊢
    clear wrong w0 w1 z1 hs
    go_enter Try.func3, Try.ntmps3
    go_wp2_with fail
    refine (C.out ()).mono ?_
    rintro e u1 ⟨rfl, s1, f1⟩
    have S1 : Hid (PF w u1 s (List.replicate m 0)) := ⟨s1, f1.below (by simp)⟩
    have S2 : Hid ((List.replicate m (0 : Int)).sum = 0) := by unfold Hid; simp
    clear s1 f1
    go_wp2
    go_loopw [7, 8] (fun a i wr => ∃ (k : Nat) (S : Int) (L : List Int), (k : Int) ≤ 100 ∧ (k : Int) ≤ len1 ∧ PF w wr s L ∧ Hid (L.sum = S) ∧ -(1125899906842624 * (k : Int)) ≤ S ∧ S ≤ 1125899906842624 * (k : Int) ∧ a = .int .i64 S ∧ i = .int .i64 k) (fun _ i _ => 100 - (intOf i).toNat)
    case atStart => exact ⟨0, 0, _, by omega, by omega, S1.out, S2.out, by omega, by omega, rfl, rfl⟩
    case round =>
      obtain ⟨k, S, L, hk, hk2, pf, hS, b1, b2, rfl, rfl⟩ := hrel
      clear S1 S2
      by_cases h : (k : Int) < len1
      · by_cases h2 : (k : Int) < 100
        · obtain ⟨ab, off, rfl, hA⟩ := srow_cell (wr := wr) HR.out (by rw [HS.out]; exact pf.bel) h
          have x0 := hA 0 (by decide)
          have x1 := hA 1 (by decide)
          have x2 := hA 2 (by decide)
          have x3 := hA 3 (by decide)
          simp only [List.length_cons, List.length_nil, Nat.zero_add, Nat.reduceAdd, Nat.add_zero, fval, List.getD_cons_zero, List.getD_cons_succ, if_true, Bool.false_eq_true, if_false] at x0 x1 x2 x3
          clear hA
          generalize X1 k 0 = y0 at *
          generalize X1 k 1 = y1 at *
          generalize X1 k 2 = y2 at *
          generalize (X1 k 3 != 0) = y3 at *
          have p2 := pf.alloc (.cells #[.int .i64 y0, .int .i64 y1, .int .i64 y2, .bool y3] 29)
          by_cases lo1 : y2 < -1125899906842624
          · have P2 : Hid (PF w _ s L) := p2
            clear pf p2
            go_wp2
            go_roundw
            case rel => exact ⟨k + 1, S, L, by omega, by omega, P2.out, hS, by omega, by omega, rfl, by go_num⟩
            case measure => simp [intOf]; omega
          · by_cases up1 : 1125899906842624 < y2
            · have P2 : Hid (PF w _ s L) := p2
              clear pf p2
              go_wp2
              go_roundw
              case rel => exact ⟨k + 1, S, L, by omega, by omega, P2.out, hS, by omega, by omega, rfl, by go_num⟩
              case measure => simp [intOf]; omega
            · have hy : I64 y2 := by unfold I64; omega
              cases y3 with
              | true =>
                have C1 : Hid (∀ _ : Unit, _) := fun _ => fold_any y0 y1 _ p2.sl
                have A2 : Hid (∀ (w2 : World), SL w2 (s + 1) s (fdL L y0 y1) → Fr (wr.alloc (.cells #[.int .i64 y0, .int .i64 y1, .int .i64 y2, .bool true] 29)).heap.size [s] (wr.alloc (.cells #[.int .i64 y0, .int .i64 y1, .int .i64 y2, .bool true] 29)) w2 → PF w w2 s (fdL L y0 y1)) := fun w2 a b => p2.act a b
                have SU : Hid ((fdL L y0 y1).sum = S) := by rw [sum_fd]; exact hS.out
                have SM : Hid (∀ w2, PF w w2 s (fdL L y0 y1) → _) := fun w2 p => sum_any w2 p.sl
                rw [SU.out, (fe_ok (show I64 S by unfold I64; omega)).1, (fe_ok (show I64 S by unfold I64; omega)).2] at SM
                clear pf p2 hS hy
                generalize fdL L y0 y1 = L2 at *
                generalize fdE L y0 y1 = ee at *
                have bb : (S != S) = false := by simp
                go_wp2_with fail
                refine (C1.out ()).mono ?_
                rintro e u2 ⟨rfl, k2, f2⟩
                have P3 : Hid (PF w u2 s L2) := A2.out _ k2 f2
                clear k2 f2
                go_wp2_with fail
                refine (SM.out u2 P3.out).mono ?_
                rintro e u3 ⟨rfl, rfl⟩
                have p3 := P3.out
                go_wp2
                go_roundw
                case rel => exact ⟨k + 1, S, L2, by omega, by omega, p3, SU, by omega, by omega, rfl, by go_num⟩
                case measure => simp [intOf]; omega
              | false =>
                have C1 : Hid (∀ _ : Unit, _) := fun _ => add_any y0 y2 _ p2.sl hy
                have A2 : Hid (∀ (w2 : World), SL w2 (s + 1) s (adL L y0 y2) → Fr (wr.alloc (.cells #[.int .i64 y0, .int .i64 y1, .int .i64 y2, .bool false] 29)).heap.size [s] (wr.alloc (.cells #[.int .i64 y0, .int .i64 y1, .int .i64 y2, .bool false] 29)) w2 → PF w w2 s (adL L y0 y2) ∧ Blk w2 wr.heap.size [.int .i64 y0, .int .i64 y1, .int .i64 y2, .bool false] 29) := fun w2 a b => ⟨p2.act a b, (Blk.new wr [.int .i64 y0, .int .i64 y1, .int .i64 y2, .bool false] 29).keep b (by simp) (by have := pf.lt; simp; omega)⟩
                have SM : Hid (∀ w2, PF w w2 s (adL L y0 y2) → _) := fun w2 p => sum_any w2 p.sl
                rcases sum_ad L y0 y2 with ⟨n1, n2⟩ | ⟨n1, n2⟩
                · rw [n1] at C1
                  have SU : Hid ((adL L y0 y2).sum = S + y2) := by rw [n2, hS.out]; exact rfl
                  rw [SU.out, (fe_ok (show I64 (S + y2) by unfold I64; omega)).1, (fe_ok (show I64 (S + y2) by unfold I64; omega)).2] at SM
                  clear pf p2 hS hy n1 n2
                  generalize adL L y0 y2 = L2 at *
                  have bb : (S + y2 != S + y2) = false := by simp
                  go_wp2_with fail
                  refine (C1.out ()).mono ?_
                  rintro e u2 ⟨rfl, k2, f2⟩
                  obtain ⟨p3, ba⟩ := A2.out _ k2 f2
                  have P3 : Hid (PF w u2 s L2) := p3
                  have c2 := ba.cell 2
                  simp only [List.getElem?_cons_zero, List.getElem?_cons_succ] at c2
                  clear k2 f2 p3 ba
                  go_wp2_with fail
                  refine (SM.out u2 P3.out).mono ?_
                  rintro e u3 ⟨rfl, rfl⟩
                  have p3 := P3.out
                  go_wp2
                  go_roundw
                  case rel => exact ⟨k + 1, S + y2, L2, by omega, by omega, p3, SU, by omega, by omega, rfl, by go_num⟩
                  case measure => simp [intOf]; omega
                · rw [n2] at C1 A2 SM
                  rw [hS.out, (fe_ok (show I64 S by unfold I64; omega)).1, (fe_ok (show I64 S by unfold I64; omega)).2] at SM
                  clear pf p2 hy n2
                  generalize adE L y0 y2 = ee at *
                  have bb : (S != S) = false := by simp
                  go_wp2_with fail
                  refine (C1.out ()).mono ?_
                  rintro e u2 ⟨rfl, k2, f2⟩
                  obtain ⟨p3, ba⟩ := A2.out _ k2 f2
                  have P3 : Hid (PF w u2 s L) := p3
                  clear k2 f2 p3 ba
                  go_wp2_with fail
                  refine (SM.out u2 P3.out).mono ?_
                  rintro e u3 ⟨rfl, rfl⟩
                  have p3 := P3.out
                  go_wp2
                  go_roundw
                  case rel => exact ⟨k + 1, S, L, by omega, by omega, p3, hS, by omega, by omega, rfl, by go_num⟩
                  case measure => simp [intOf]; omega
        · have hb := pf.bel
          have hz := pf.lt
          clear pf
          go_wp2_with fail
          refine (KN.out wr).mono ?_
          rintro e u5 ⟨rfl, hb5⟩
          go_wp2
          go_ret
          exact ⟨rfl, hb.trans (hb5.mono (by omega))⟩
      · have hb := pf.bel
        have hz := pf.lt
        have hd : decide ((k : Int) < len1) = false := decide_eq_false h
        clear pf
        go_wp2_with fail
        refine (KN.out wr).mono ?_
        rintro e u5 ⟨rfl, hb5⟩
        go_wp2
        go_ret
        exact ⟨rfl, hb.trans (hb5.mono (by omega))⟩

set_option maxRecDepth 100000 in
theorem lifted (os : Os) (started : os.Started) (H : Type) (enc : TypeId × Value → H) :
    ReturnsInHanded {} Try.checked os 3 .any (Rows.splitFoldsSpec.pre6 enc Try.prog Try.f3 Rows.splitFoldsRow.domain false) (Rows.splitFoldsSpec.post enc Try.prog Try.f3 false true false false) := by
  refine returnsInHanded_of_change (C := Try.checked) own started (by kernel_rfl) Try.func3
    (ChangeSpec.witness6 (enc := enc) (C := Try.checked) false ⟨#[], #[.int .i64 0, .slice none 0 0], []⟩ 8 (by kernel_rfl) (by kernel_rfl) (by kernel_rfl) (by kernel_rfl)) ?_
  intro W base args ds gs before hval0 hW hcnd _
  have hval : ∀ (j : Nat) t v, Try.f3.params[j]? = some t → args[j]? = some v → Value.okWide Try.prog W .any base t v := hval0
  have hW' := hW
  obtain ⟨p, q, hA0, hV, rfl, hfz, hnd⟩ := hW
  have hA : DataW.TrodAll enc Try.prog W 0 (fun _ => true) true Try.f3.params.toList args.toList ds p := hA0
  rw [Try.params3] at hA hval
  obtain ⟨v0, vs0, d0, ds0, p0, q0, hargs, rfl, rfl, h0, r0⟩ := trodAll_cons hA
  obtain ⟨v1, vs1, d1, ds1, p1, q1, rfl, rfl, rfl, h1, r1⟩ := trodAll_cons r0
  obtain ⟨rfl, rfl, rfl⟩ := trodAll_nil r1
  obtain rfl : args = #[v0, v1] := by cases args; simp_all
  obtain ⟨rfl, rfl⟩ := trodVars_none hV
  obtain ⟨a0, rfl, rfl, rfl, w0⟩ := open_int Try.underlying3 (hval 0 3 v0 rfl rfl) h0
  obtain ⟨a1, len1, cap1, rfl⟩ := okWide_slice Try.underlying22 (hval 1 22 v1 rfl rfl)
  have k1 := h1
  have lt1 : ∀ x ∈ p1, x.block < W.heap.size := by obtain ⟨m, hm⟩ := k1; exact DataW.trod_lt m _ _ _ hm
  obtain ⟨X1, w1, z1⟩ : ∃ X : Nat → Nat → Int, SRow W (.slice a1 len1 cap1) len1 [true, true, true, false] X ∧ ∀ i, i < len1 → ∀ j, j < [true, true, true, false].length → [true, true, true, false].getD j true = true → (Lit.int .i64 (X i j)).wf = true := by
    obtain ⟨fuel, hf⟩ := h1
    exact open_recs [true, true, true, false] Try.underlying22 Try.underlying29 (by kernel_rfl) rfl (by decide) (fun | 0, _ => ⟨_, rfl, rfl, by kernel_rfl, Try.underlying3⟩ | 1, _ => ⟨_, rfl, rfl, by kernel_rfl, Try.underlying3⟩ | 2, _ => ⟨_, rfl, rfl, by kernel_rfl, Try.underlying2⟩ | 3, _ => ⟨_, rfl, rfl, by kernel_rfl, Try.underlying4⟩ | n + 4, h => absurd h (by simp only [List.length]; omega)) hf
  clear hA0 hval0
  refine (walk a0 a1 len1 cap1 X1 W w0 w1 z1).mono fun e W' ⟨he, bel⟩ => ?_
  subst he
  exact ⟨_, rfl, _, _, _, [], _, [], hW', trodAll_mk1 (shut_bool Try.underlying4 _), (trodAll_cons_mk (shut_int Try.underlying3 w0) (trodAll_cons_mk (Below.trod laidOut (by kernel_rfl) (of_decide_eq_true (by kernel_rfl)) k1 bel lt1) trodAll_mk0)), rfl, bel.frame _, fun h => by cases h⟩

theorem over : Rows.SplitFoldsSaid :=
  OpenClaim.holds_of_wide 3 Try.f3 rfl rfl rfl rfl rfl rfl rfl ⟨rfl, rfl, rfl, rfl, rfl⟩ rfl rfl rfl rfl rfl (by kernel_rfl) Try.func3 (by kernel_rfl)
    (of_decide_eq_true (by kernel_rfl)) (by unfold Func.isWrapper; first | (rw [if_pos (by decide +kernel)]; kernel_rfl) | (rw [if_neg (by decide +kernel)]; exact ⟨rfl, rfl⟩))
    (fun os started H enc _ => lifted os started H enc)
end Go.Proofs.Ytaomcakgeiiclab.splitFolds

namespace Go.Proofs.Ytaomcakgeiiclab
open Go
theorem splitFolds_holds : Rows.SplitFoldsSaid := splitFolds.over
#print axioms splitFolds_holds
end Go.Proofs.Ytaomcakgeiiclab
