/- Proved: for every tick from, every number far and every list steps, davitlaw13.WheelDue(from, far, steps) returns true: what was added is due at its tick, and not earlier, in however many steps the wheel gets there (60 steps at most, as the law itself says), and steps is left alone, with no condition. -/
import Derived.Test.YtadaghhgmflfdaaRows
import Derived.Test.YtadaghhgmflfdaaFo
import Derived.Test.YtadaghhgmflfdaaYe
import Derived.Test.YtadaghhgmflfdaaYf
import Derived.WalkKit
import Derived.ProofKit
import Derived.OpenShut
import Derived.Stop.Joined
import Derived.ShutString
import Derived.ChangeOld
import Derived.Below
import Derived.Carry
namespace Go.Proofs.Ytadaghhgmflfdaa.wheelDue
open Go.ChangeShapes Go.WideShapes Go.ChangeAt Go.RowKit
open Wm
set_option linter.unusedVariables false
set_option linter.unusedSimpArgs false

theorem own : ownKnob Try.prog.godebug = none := by kernel_rfl
theorem laidOut : laidOutB Try.prog = true := by kernel_rfl

set_option maxRecDepth 100000 in
set_option maxHeartbeats 4000000 in
theorem walk (a0 : Int) (a1 : Int) (a2 : Option Addr) (len2 cap2 : Nat) (xs2 : List Int) (w : World) (w0 : (Lit.int .i64 a0).wf = true) (w1 : (Lit.int .i64 a1).wf = true) (w2 : Row w (.slice a2 len2 cap2) xs2) (l2 : xs2.length = len2) (z2 : ∀ n ∈ xs2, (Lit.int .i64 n).wf = true) :
    Calls Try.prog 4 #[.int .i64 a0, .int .i64 a1, .slice a2 len2 cap2] w fun e w' => e = .returned (.bool true) ∧ Below w.heap.size w w' := by
  have KN : Hid (∀ w, _) := fun w => known_yes w
  by_cases wrong : isT a0
  case neg =>
    have C : Hid (∀ w, _) := fun w => wnew_no a0 w wrong
    have wr2 : a0 < 0 ∨ 1152921504606846976 < a0 := by unfold isT at wrong; omega
    clear wrong w0 w1 w2 z2 l2
    rcases wr2 with h | h
    · go_enter Try.func4, Try.ntmps4
      go_wp2_with fail
      refine (C.out _).mono ?_
      rintro e u1 ⟨rfl, rfl⟩
      go_wp2_with fail
      refine (KN.out _).mono ?_
      rintro e u3 ⟨rfl, hb⟩
      go_wp2
      go_ret
      exact ⟨rfl, hb⟩
    · have h2 : ¬ a0 < 0 := by omega
      go_enter Try.func4, Try.ntmps4
      go_wp2_with fail
      refine (C.out _).mono ?_
      rintro e u1 ⟨rfl, rfl⟩
      go_wp2_with fail
      refine (KN.out _).mono ?_
      rintro e u3 ⟨rfl, hb⟩
      go_wp2
      go_ret
      exact ⟨rfl, hb⟩
  case pos =>
    have C : Hid (∀ _ : Unit, _) := fun _ => wnew_any a0 w wrong
    have tq := wrong
    obtain ⟨t1, t2⟩ := wrong
    have sb : IntKind.i64.wrap (1152921504606846976 - a0) = 1152921504606846976 - a0 := by rw [IntKind.wrap_i64]; omega
    by_cases far : a1 < 0 ∨ 1152921504606846976 - a0 < a1
    case pos =>
      clear w0 w1 w2 z2 l2 tq t1 t2
      by_cases f1 : a1 < 0
      · clear far
        go_enter Try.func4, Try.ntmps4
        go_wp2_with fail
        refine (C.out ()).mono ?_
        rintro e u1 ⟨rfl, q1, b1⟩
        have B1 : Hid (Below w.heap.size w u1) := b1
        clear q1 b1
        go_wp2_with fail
        refine (KN.out _).mono ?_
        rintro e u3 ⟨rfl, hb⟩
        go_wp2
        go_ret
        exact ⟨rfl, B1.out.trans (hb.mono B1.out.size)⟩
      · have f2 : 1152921504606846976 - a0 < a1 := by omega
        clear far
        go_enter Try.func4, Try.ntmps4
        go_wp2_with fail
        refine (C.out ()).mono ?_
        rintro e u1 ⟨rfl, q1, b1⟩
        have B1 : Hid (Below w.heap.size w u1) := b1
        clear q1 b1
        go_wp2_with fail
        refine (KN.out _).mono ?_
        rintro e u3 ⟨rfl, hb⟩
        go_wp2
        go_ret
        exact ⟨rfl, B1.out.trans (hb.mono B1.out.size)⟩
    case neg =>
      have f1 : ¬ a1 < 0 := by omega
      have f2 : ¬ 1152921504606846976 - a0 < a1 := by omega
      obtain ⟨d, hd⟩ : ∃ d, d = a0 + a1 := ⟨_, rfl⟩
      have td : isT d := ⟨by omega, by omega⟩
      have wd : IntKind.i64.wrap (a0 + a1) = d := by rw [IntKind.wrap_i64]; omega
      have wd1 : IntKind.i64.wrap (d - 1) = d - 1 := by rw [IntKind.wrap_i64]; unfold isT at td; omega
      have HR : Hid (Row w (.slice a2 len2 cap2) xs2 ∧ xs2.length = len2) := ⟨w2, l2⟩
      have TQ : Hid (isT a0) := tq
      have TD : Hid (isT d) := td
      clear far w0 w1 w2 z2 l2 hd tq t1 t2 td
      go_enter Try.func4, Try.ntmps4
      go_wp2_with fail
      refine (C.out ()).mono ?_
      rintro e u1 ⟨rfl, q1, b1⟩
      have A1 : Hid (∀ _ : Unit, _) := fun _ => di_new q1 b1 TD.out
      clear q1 b1
      go_wp2_with fail
      refine (A1.out ()).mono ?_
      rintro e u2 ⟨rfl, p2⟩
      have P0 : Hid (DI w u2 w.heap.size a0 d) := p2
      clear p2 A1
      obtain ⟨s, hs⟩ : ∃ s, s = w.heap.size := ⟨_, rfl⟩
      rw [← hs] at P0 ⊢
      clear hs f1 f2 sb wd
      go_wp2_with fail
      go_loopw [10, 11] (fun v i wr => ∃ (k : Nat) (now : Int), (k : Int) ≤ 60 ∧ (k : Int) ≤ len2 ∧ isT now ∧ Hid (DI w wr s now d) ∧ v = .int .i64 now ∧ i = .int .i64 k) (fun _ i _ => 60 - (intOf i).toNat)
      case atStart => exact ⟨0, a0, by omega, by omega, TQ.out, P0, rfl, rfl⟩
      case round =>
        obtain ⟨k, now, hk, hk2, tn, p, rfl, rfl⟩ := hrel
        clear P0
        have tail : (¬ (k : Int) < len2 ∧ decide ((k : Int) < len2) = false) ∨ ((k : Int) < len2 ∧ ¬ (k : Int) < 60) ∨ ((k : Int) < len2 ∧ (k : Int) < 60) := by
          by_cases h : (k : Int) < len2
          · by_cases h2 : (k : Int) < 60
            · exact Or.inr (Or.inr ⟨h, h2⟩)
            · exact Or.inr (Or.inl ⟨h, h2⟩)
          · exact Or.inl ⟨h, decide_eq_false h⟩
        rw [← or_assoc] at tail
        rcases tail with tail | ⟨h, h2⟩
        · by_cases c1 : now < d - 1
          · have G1 : Hid (∀ _ : Unit, _) := fun _ => di_go (d - 1) p.out (by omega) (by have := TD.out; unfold isT at this; omega)
            have G2 : Hid (∀ (u : World), DI w u s (d - 1) d → _) := fun u q => di_due q
            have G3 : Hid (∀ (u : World), DI w u s (d - 1) d → _) := fun u q => di_go d q (by omega) TD.out.2
            have G4 : Hid (∀ (u : World), DI w u s d d → _) := fun u q => di_due q
            rw [if_neg (by omega)] at G2
            rw [if_pos (by omega)] at G4
            have c2 : now < d := by omega
            have c3 : decide (now < d - 1) = true := decide_eq_true c1
            have c4 : decide (now < d) = true := decide_eq_true c2
            clear p tn HR
            rcases tail with ⟨h, hd⟩ | ⟨h, h2⟩
            all_goals (
              go_wp2_with fail
              refine (G1.out ()).mono ?_
              rintro e v1 ⟨rfl, p1⟩
              have D1 : Hid (∀ _ : Unit, _) := fun _ => G2.out v1 p1
              clear p1
              go_wp2_with fail
              refine (D1.out ()).mono ?_
              rintro e v2 ⟨x2, rfl, g2, p2⟩
              obtain ⟨a9, c9, rfl⟩ := own_shape g2.own
              have D2 : Hid (∀ _ : Unit, _) := fun _ => G3.out v2 p2
              clear g2 p2 D1
              simp only [List.length_nil]
              go_wp2_with fail
              refine (D2.out ()).mono ?_
              rintro e v3 ⟨rfl, p3⟩
              have D3 : Hid (∀ _ : Unit, _) := fun _ => G4.out v3 p3
              clear p3 D2
              go_wp2_with fail
              refine (D3.out ()).mono ?_
              rintro e v4 ⟨x4, rfl, g4, p4⟩
              have I4 : Hid (∀ _ : Unit, _) := fun _ => ints_any [7] x4 _ (v4.alloc (.cells ([7].map (Value.int .i64)).toArray 3)) (by decide) (Row.keep (B := v4.heap.size) (row_of_owns g4.own) ((Fr.refl _ _ _).alloc (Nat.le_refl _) _) (Nat.le_refl _)) (row_new v4 [7] 3 1 1 rfl)
              have B4 : Hid (∀ n, Below w.heap.size w ((v4.alloc (.cells ([7].map (Value.int .i64)).toArray 3)).drewN n)) := fun n => by
                have b := p4.bel.alloc p4.bel.size (.cells ([7].map (Value.int .i64)).toArray 3)
                exact ⟨b.os, b.tape, b.output, b.size, b.block⟩
              clear g4 p4 D3
              go_wp2_with fail
              refine (I4.out ()).mono ?_
              rintro e v5 ⟨rfl, n5, rfl⟩
              have b5 := B4.out n5
              generalize (v4.alloc (.cells ([7].map (Value.int .i64)).toArray 3)).drewN n5 = v5 at *
              have B5 : Hid (Below w.heap.size w v5) := b5
              clear b5 B4 I4
              go_wp2_with fail
              refine (KN.out _).mono ?_
              rintro e v6 ⟨rfl, hb⟩
              go_wp2
              go_ret
              exact ⟨rfl, B5.out.trans (hb.mono B5.out.size)⟩)
          · by_cases c2 : now < d
            · have G3 : Hid (∀ _ : Unit, _) := fun _ => di_go d p.out (by omega) TD.out.2
              have G4 : Hid (∀ (u : World), DI w u s d d → _) := fun u q => di_due q
              rw [if_pos (by omega)] at G4
              have c3 : decide (now < d - 1) = false := decide_eq_false c1
              have c4 : decide (now < d) = true := decide_eq_true c2
              clear p tn HR
              rcases tail with ⟨h, hd⟩ | ⟨h, h2⟩
              all_goals (
                go_wp2_with fail
                refine (G3.out ()).mono ?_
                rintro e v3 ⟨rfl, p3⟩
                have D3 : Hid (∀ _ : Unit, _) := fun _ => G4.out v3 p3
                clear p3
                go_wp2_with fail
                refine (D3.out ()).mono ?_
                rintro e v4 ⟨x4, rfl, g4, p4⟩
                have I4 : Hid (∀ _ : Unit, _) := fun _ => ints_any [7] x4 _ (v4.alloc (.cells ([7].map (Value.int .i64)).toArray 3)) (by decide) (Row.keep (B := v4.heap.size) (row_of_owns g4.own) ((Fr.refl _ _ _).alloc (Nat.le_refl _) _) (Nat.le_refl _)) (row_new v4 [7] 3 1 1 rfl)
                have B4 : Hid (∀ n, Below w.heap.size w ((v4.alloc (.cells ([7].map (Value.int .i64)).toArray 3)).drewN n)) := fun n => by
                  have b := p4.bel.alloc p4.bel.size (.cells ([7].map (Value.int .i64)).toArray 3)
                  exact ⟨b.os, b.tape, b.output, b.size, b.block⟩
                clear g4 p4 D3
                go_wp2_with fail
                refine (I4.out ()).mono ?_
                rintro e v5 ⟨rfl, n5, rfl⟩
                have b5 := B4.out n5
                generalize (v4.alloc (.cells ([7].map (Value.int .i64)).toArray 3)).drewN n5 = v5 at *
                have B5 : Hid (Below w.heap.size w v5) := b5
                clear b5 B4 I4
                go_wp2_with fail
                refine (KN.out _).mono ?_
                rintro e v6 ⟨rfl, hb⟩
                go_wp2
                go_ret
                exact ⟨rfl, B5.out.trans (hb.mono B5.out.size)⟩)
            · have D3 : Hid (∀ _ : Unit, _) := fun _ => di_due p.out
              rw [if_pos (by omega)] at D3
              have c3 : decide (now < d - 1) = false := decide_eq_false c1
              have c4 : decide (now < d) = false := decide_eq_false c2
              clear p tn HR
              rcases tail with ⟨h, hd⟩ | ⟨h, h2⟩
              all_goals (
                go_wp2_with fail
                refine (D3.out ()).mono ?_
                rintro e v4 ⟨x4, rfl, g4, p4⟩
                have I4 : Hid (∀ _ : Unit, _) := fun _ => ints_any [7] x4 _ (v4.alloc (.cells ([7].map (Value.int .i64)).toArray 3)) (by decide) (Row.keep (B := v4.heap.size) (row_of_owns g4.own) ((Fr.refl _ _ _).alloc (Nat.le_refl _) _) (Nat.le_refl _)) (row_new v4 [7] 3 1 1 rfl)
                have B4 : Hid (∀ n, Below w.heap.size w ((v4.alloc (.cells ([7].map (Value.int .i64)).toArray 3)).drewN n)) := fun n => by
                  have b := p4.bel.alloc p4.bel.size (.cells ([7].map (Value.int .i64)).toArray 3)
                  exact ⟨b.os, b.tape, b.output, b.size, b.block⟩
                clear g4 p4 D3
                go_wp2_with fail
                refine (I4.out ()).mono ?_
                rintro e v5 ⟨rfl, n5, rfl⟩
                have b5 := B4.out n5
                generalize (v4.alloc (.cells ([7].map (Value.int .i64)).toArray 3)).drewN n5 = v5 at *
                have B5 : Hid (Below w.heap.size w v5) := b5
                clear b5 B4 I4
                go_wp2_with fail
                refine (KN.out _).mono ?_
                rintro e v6 ⟨rfl, hb⟩
                go_wp2
                go_ret
                exact ⟨rfl, B5.out.trans (hb.mono B5.out.size)⟩)
        · obtain ⟨b0, off, rfl, x0⟩ := row_cell HR.out.1 HR.out.2 p.out.bel h
          generalize xs2.getD k 0 = x at *
          have O1 : Hid (∀ W : World, _) := fun W => on_any now x W tn
          have t3 := isT_on tn x
          have t4 : now ≤ onN now x := by unfold onN; split <;> omega
          have G1 : Hid (∀ _ : Unit, _) := fun _ => di_go (onN now x) p.out t4 t3.2
          have G2 : Hid (∀ (u : World), DI w u s (onN now x) d → _) := fun u q => di_due q
          generalize onN now x = n3 at *
          clear p tn t4
          by_cases c1 : d ≤ n3
          · rw [if_pos c1] at G2
            have c2 : decide (d ≤ n3) = true := decide_eq_true c1
            go_wp2_with fail
            refine (O1.out _).mono ?_
            rintro e v0 ⟨rfl, rfl⟩
            go_wp2_with fail
            refine (G1.out ()).mono ?_
            rintro e v1 ⟨rfl, p1⟩
            have D1 : Hid (∀ _ : Unit, _) := fun _ => G2.out v1 p1
            clear p1
            go_wp2_with fail
            refine (D1.out ()).mono ?_
            rintro e v2 ⟨x2, rfl, g2, p2⟩
            obtain ⟨a9, c9, rfl⟩ := own_shape g2.own
            have P2 : Hid (DI w v2 s n3 d) := p2
            clear g2 p2 D1
            simp only [List.length_cons, List.length_nil]
            go_wp2
            go_roundw
            case rel => exact ⟨k + 1, n3, by omega, by omega, t3, P2, rfl, by go_num⟩
            case measure => simp [intOf]; omega
          · rw [if_neg c1] at G2
            have c2 : decide (d ≤ n3) = false := decide_eq_false c1
            go_wp2_with fail
            refine (O1.out _).mono ?_
            rintro e v0 ⟨rfl, rfl⟩
            go_wp2_with fail
            refine (G1.out ()).mono ?_
            rintro e v1 ⟨rfl, p1⟩
            have D1 : Hid (∀ _ : Unit, _) := fun _ => G2.out v1 p1
            clear p1
            go_wp2_with fail
            refine (D1.out ()).mono ?_
            rintro e v2 ⟨x2, rfl, g2, p2⟩
            obtain ⟨a9, c9, rfl⟩ := own_shape g2.own
            have P2 : Hid (DI w v2 s n3 d) := p2
            clear g2 p2 D1
            simp only [List.length_nil]
            go_wp2
            go_roundw
            case rel => exact ⟨k + 1, n3, by omega, by omega, t3, P2, rfl, by go_num⟩
            case measure => simp [intOf]; omega

set_option maxRecDepth 100000 in
theorem lifted (os : Os) (started : os.Started) (H : Type) (enc : TypeId × Value → H) :
    ReturnsInHanded {} Try.checked os 4 .any (Rows.wheelDueSpec.pre6 enc Try.prog Try.f4 Rows.wheelDueRow.domain false) (Rows.wheelDueSpec.post enc Try.prog Try.f4 false true false false) := by
  refine returnsInHanded_of_change (C := Try.checked) own started (by kernel_rfl) Try.func4
    (ChangeSpec.witness6 (enc := enc) (C := Try.checked) false ⟨#[], #[.int .i64 0, .int .i64 0, .slice none 0 0], []⟩ 8 (by kernel_rfl) (by kernel_rfl) (by kernel_rfl) (by kernel_rfl)) ?_
  intro W base args ds gs before hval0 hW hcnd _
  have hval : ∀ (j : Nat) t v, Try.f4.params[j]? = some t → args[j]? = some v → Value.okWide Try.prog W .any base t v := hval0
  have hW' := hW
  obtain ⟨p, q, hA0, hV, rfl, hfz, hnd⟩ := hW
  have hA : DataW.TrodAll enc Try.prog W 0 (fun _ => true) true Try.f4.params.toList args.toList ds p := hA0
  rw [Try.params4] at hA hval
  obtain ⟨v0, vs0, d0, ds0, p0, q0, hargs, rfl, rfl, h0, r0⟩ := trodAll_cons hA
  obtain ⟨v1, vs1, d1, ds1, p1, q1, rfl, rfl, rfl, h1, r1⟩ := trodAll_cons r0
  obtain ⟨v2, vs2, d2, ds2, p2, q2, rfl, rfl, rfl, h2, r2⟩ := trodAll_cons r1
  obtain ⟨rfl, rfl, rfl⟩ := trodAll_nil r2
  obtain rfl : args = #[v0, v1, v2] := by cases args; simp_all
  obtain ⟨rfl, rfl⟩ := trodVars_none hV
  obtain ⟨a0, rfl, rfl, rfl, w0⟩ := open_int Try.underlying2 (hval 0 2 v0 rfl rfl) h0
  obtain ⟨a1, rfl, rfl, rfl, w1⟩ := open_int Try.underlying2 (hval 1 2 v1 rfl rfl) h1
  obtain ⟨a2, len2, cap2, rfl⟩ := okWide_slice Try.underlying50 (hval 2 50 v2 rfl rfl)
  have k2 := h2
  have lt2 : ∀ x ∈ p2, x.block < W.heap.size := by obtain ⟨m, hm⟩ := k2; exact DataW.trod_lt m _ _ _ hm
  obtain ⟨xs2, w2, l2, z2⟩ : ∃ xs, Row W (.slice a2 len2 cap2) xs ∧ xs.length = len2 ∧ ∀ n ∈ xs, (Lit.int .i64 n).wf = true := by
    obtain ⟨fuel, hf⟩ := h2
    rcases open_ints Try.underlying50 Try.underlying2 (by kernel_rfl) hf with ⟨hcs, _⟩ | ⟨x, l, c, zs, hcs, _, hl, hm, hz, _, hcell, hwz⟩
    · simp [Value.cells] at hcs
      obtain ⟨rfl, rfl, rfl⟩ := hcs
      exact ⟨[], Or.inl ⟨rfl, none, 0, rfl⟩, rfl, fun n hn => by simp at hn⟩
    · simp [Value.cells] at hcs
      obtain ⟨rfl, rfl, rfl⟩ := hcs
      obtain ⟨xs, r1, r2, r3⟩ := row_of_cells (zs := zs) (Or.inr ⟨_, rfl, hl, by simpa using hz, hcell⟩)
      exact ⟨xs, r1, r2, fun n hn => hwz n (r3 n hn)⟩
  clear hA0 hval0
  refine (walk a0 a1 a2 len2 cap2 xs2 W w0 w1 w2 l2 z2).mono fun e W' ⟨he, bel⟩ => ?_
  subst he
  exact ⟨_, rfl, _, _, _, [], _, [], hW', trodAll_mk1 (shut_bool Try.underlying4 _), (trodAll_cons_mk (shut_int Try.underlying2 w0) (trodAll_cons_mk (shut_int Try.underlying2 w1) (trodAll_cons_mk (Below.trod laidOut (by kernel_rfl) (of_decide_eq_true (by kernel_rfl)) k2 bel lt2) trodAll_mk0))), rfl, bel.frame _, fun h => by cases h⟩

theorem over : Rows.WheelDueSaid :=
  OpenClaim.holds_of_wide 4 Try.f4 rfl rfl rfl rfl rfl rfl rfl ⟨rfl, rfl, rfl, rfl, rfl⟩ rfl rfl rfl rfl rfl (by kernel_rfl) Try.func4 (by kernel_rfl)
    (of_decide_eq_true (by kernel_rfl)) (by unfold Func.isWrapper; first | (rw [if_pos (by decide +kernel)]; kernel_rfl) | (rw [if_neg (by decide +kernel)]; exact ⟨rfl, rfl⟩))
    (fun os started H enc _ => lifted os started H enc)
end Go.Proofs.Ytadaghhgmflfdaa.wheelDue

namespace Go.Proofs.Ytadaghhgmflfdaa
open Go
theorem wheelDue_holds : Rows.WheelDueSaid := wheelDue.over
#print axioms wheelDue_holds
end Go.Proofs.Ytadaghhgmflfdaa
