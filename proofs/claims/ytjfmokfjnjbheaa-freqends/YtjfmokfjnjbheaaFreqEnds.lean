/- Proved: for every list acts and every number steps of 64 bits with a sign, davitlaw24.FreqEnds(acts, steps) returns true: four feeds without a busy step make the frequency the lower limit, four all of whose steps were busy the upper one (behind 50 acts at most, as the law itself says), and acts is left alone; no condition. -/
import Derived.Test.YtjfmokfjnjbheaaRows
import Derived.Test.YtjfmokfjnjbheaaFo
import Derived.Test.YtjfmokfjnjbheaaGj
import Derived.WalkKit
import Derived.ProofKit
import Derived.OpenShut
import Derived.Stop.Joined
import Derived.ShutString
import Derived.ChangeOld
import Derived.Below
import Derived.Carry
import Derived.Test.YtjfmokfjnjbheaaFs
import Derived.Deep.RegionHeld3
namespace Go.Proofs.Ytjfmokfjnjbheaa.freqEnds
open Go.ChangeShapes Go.WideShapes Go.ChangeAt Go.RowKit
set_option linter.unusedVariables false
set_option linter.unusedSimpArgs false

theorem own : ownKnob Try.prog.godebug = none := by kernel_rfl
theorem laidOut : laidOutB Try.prog = true := by kernel_rfl

set_option maxRecDepth 100000 in
set_option maxHeartbeats 4000000 in
theorem walk (a0 : Option Addr) (len0 cap0 : Nat) (X0 : Nat → Nat → Int) (a1 : Int) (w : World) (w0 : SRow w (.slice a0 len0 cap0) len0 [false, true, true] X0) (z0 : ∀ i, i < len0 → ∀ j, j < [false, true, true].length → [false, true, true].getD j true = true → (Lit.int .i64 (X0 i j)).wf = true) (w1 : (Lit.int .i64 a1).wf = true) :
    Calls Try.prog 8 #[.slice a0 len0 cap0, .int .i64 a1] w fun e w' => e = .returned (.bool true) ∧ Below w.heap.size w w' := by
  have KN : Hid (∀ w, _) := fun w => gknown_yes w
  have C0 : Hid (∀ _ : Unit, _) := fun _ => gnew_ok 100 900 w (by decide)
  have HR : Hid (SRow w (.slice a0 len0 cap0) len0 [false, true, true] X0) := w0
  obtain ⟨s, hs⟩ : ∃ s, w.heap.size = s := ⟨_, rfl⟩
  have HS : Hid (w.heap.size = s) := hs
  rw [hs] at C0 ⊢
  clear w0 w1 z0 hs
  have out : (a1 < 1) ∨ (¬ a1 < 1 ∧ 1099511627776 < a1) ∨ (1 ≤ a1 ∧ a1 ≤ 1099511627776) := by omega
  rw [← or_assoc] at out
  rcases out with out | ⟨s1, s2⟩
  · rcases out with h1 | ⟨h1, h2⟩
    all_goals (
      go_enter Try.func8, Try.ntmps8
      go_wp2_with fail
      refine (C0.out ()).mono ?_
      rintro e u1 ⟨rfl, g1, b1⟩
      have B1 : Hid (Below s w u1 ∧ s ≤ u1.heap.size) := ⟨b1, Nat.le_of_lt g1.sb.lt⟩
      clear g1 b1 C0
      go_wp2_with fail
      refine (KN.out _).mono ?_
      rintro e u2 ⟨rfl, b2⟩
      have B2 : Hid (Below s w u2) := B1.out.1.trans (b2.mono B1.out.2)
      clear b2
      go_wp2
      go_ret
      exact ⟨rfl, B2.out⟩)
  have O1 : Hid (Fok ⟨0, a1⟩) := ⟨Int.le_refl _, show 0 ≤ a1 by omega, show a1 ≤ 1099511627776 by omega⟩
  have O2 : Hid (Fok ⟨a1, a1⟩) := ⟨show 0 ≤ a1 by omega, Int.le_refl _, show a1 ≤ 1099511627776 by omega⟩
  have S1 : Hid (1 ≤ a1) := s1
  go_enter Try.func8, Try.ntmps8
  go_wp2_with fail
  refine (C0.out ()).mono ?_
  rintro e u1 ⟨rfl, g1, b1⟩
  have T1 : Hid (GW w u1 s 100 900 (lf []) 0) := ⟨g1, by decide, b1⟩
  clear g1 b1 C0
  go_wp2
  go_loopw [7] (fun i wr => ∃ (k : Nat) (q : List Fq) (p : Nat), (k : Int) ≤ 50 ∧ (k : Int) ≤ len0 ∧ GW w wr s 100 900 q p ∧ i = .int .i64 k) (fun i _ => 50 - (intOf i).toNat)
  case atStart => exact ⟨0, _, 0, by omega, by omega, T1.out, rfl⟩
  case round =>
    obtain ⟨k, q, p, hk, hk2, g, rfl⟩ := hrel
    clear T1
    have tail : (¬ (k : Int) < len0 ∧ decide ((k : Int) < len0) = false) ∨ ((k : Int) < len0 ∧ ¬ (k : Int) < 50) ∨ ((k : Int) < len0 ∧ (k : Int) < 50) := by
      by_cases h : (k : Int) < len0
      · by_cases h2 : (k : Int) < 50
        · exact Or.inr (Or.inr ⟨h, h2⟩)
        · exact Or.inr (Or.inl ⟨h, h2⟩)
      · exact Or.inl ⟨h, decide_eq_false h⟩
    rw [← or_assoc] at tail
    rcases tail with tail | ⟨h, h2⟩
    · have G : Hid (GW w wr s 100 900 q p) := g
      clear g
      rcases tail with ⟨h, hd⟩ | ⟨h, h2⟩
      all_goals (
        go_wp2
        obtain ⟨wo, rfl⟩ : ∃ wo, wo = wr := ⟨_, rfl⟩
        go_loopw [8] (fun i wr => ∃ (j : Nat) (q : List Fq) (p : Nat), (j : Int) ≤ 4 ∧ GW w wr s 100 900 q p ∧ Tl q j ⟨0, a1⟩ ∧ i = .int .i64 j) (fun i _ => 4 - (intOf i).toNat)
        case atStart => exact ⟨0, q, p, by omega, G.out, tl_zero G.out.g.ln _, rfl⟩
        case round =>
          obtain ⟨j, q, p, hj, g, ht, rfl⟩ := hrel
          clear G
          by_cases e : (j : Int) < 4
          · have P1 : Hid (∀ _ : Unit, _) := fun _ => gw_feed 0 a1 g
            rw [show fdE 0 a1 = 0 from if_pos O1.out, show fdQ 0 a1 q = nxt q ⟨0, a1⟩ from if_pos O1.out] at P1
            have HT : Hid (Tl (nxt q ⟨0, a1⟩) (j + 1) ⟨0, a1⟩) := tl_nxt g.g.ln ht (by omega)
            generalize fdN 0 a1 100 900 q = n1 at *
            generalize fdP 0 a1 p = p2 at *
            generalize nxt q ⟨0, a1⟩ = q2 at *
            clear g ht
            go_wp2_with fail
            refine (P1.out ()).mono ?_
            rintro e u2 ⟨rfl, t2⟩
            have T2 : Hid (GW w u2 s 100 900 q2 p2) := t2
            clear t2 P1
            go_wp2
            go_roundw
            case rel => exact ⟨j + 1, q2, p2, by omega, T2.out, HT.out, by go_num⟩
            case measure => simp [intOf]; omega
          · obtain rfl : j = 4 := by omega
            have P1 : Hid (∀ _ : Unit, _) := fun _ => gw_freq g
            rw [fr_none ht] at P1
            clear g ht
            go_wp2_with fail
            refine (P1.out ()).mono ?_
            rintro e u3 ⟨rfl, t3⟩
            have T3 : Hid (GW w u3 s 100 900 q p) := t3
            clear t3 P1
            go_wp2
            obtain ⟨wp, rfl⟩ : ∃ wp, wp = wr := ⟨_, rfl⟩
            go_loopw [11] (fun i wr => ∃ (j : Nat) (q : List Fq) (p : Nat), (j : Int) ≤ 4 ∧ GW w wr s 100 900 q p ∧ Tl q j ⟨a1, a1⟩ ∧ i = .int .i64 j) (fun i _ => 4 - (intOf i).toNat)
            case atStart => exact ⟨0, q, p, by omega, T3.out, tl_zero T3.out.g.ln _, rfl⟩
            case round =>
              obtain ⟨j, q, p, hj, g, ht, rfl⟩ := hrel
              clear T3
              by_cases e : (j : Int) < 4
              · have P1 : Hid (∀ _ : Unit, _) := fun _ => gw_feed a1 a1 g
                rw [show fdE a1 a1 = 0 from if_pos O2.out, show fdQ a1 a1 q = nxt q ⟨a1, a1⟩ from if_pos O2.out] at P1
                have HT : Hid (Tl (nxt q ⟨a1, a1⟩) (j + 1) ⟨a1, a1⟩) := tl_nxt g.g.ln ht (by omega)
                generalize fdN a1 a1 100 900 q = n1 at *
                generalize fdP a1 a1 p = p2 at *
                generalize nxt q ⟨a1, a1⟩ = q2 at *
                clear g ht
                go_wp2_with fail
                refine (P1.out ()).mono ?_
                rintro e u2 ⟨rfl, t2⟩
                have T2 : Hid (GW w u2 s 100 900 q2 p2) := t2
                clear t2 P1
                go_wp2
                go_roundw
                case rel => exact ⟨j + 1, q2, p2, by omega, T2.out, HT.out, by go_num⟩
                case measure => simp [intOf]; omega
              · obtain rfl : j = 4 := by omega
                have P1 : Hid (∀ _ : Unit, _) := fun _ => gw_freq g
                rw [fr_full (by decide) S1.out ht] at P1
                clear g ht
                go_wp2_with fail
                refine (P1.out ()).mono ?_
                rintro e u4 ⟨rfl, t4⟩
                have M1 : Hid (Below s w u4 ∧ s ≤ u4.heap.size) := ⟨t4.bel, Nat.le_of_lt t4.top⟩
                clear t4 P1
                go_wp2_with fail
                refine (KN.out _).mono ?_
                rintro e u5 ⟨rfl, b5⟩
                have B5 : Hid (Below s w u5) := M1.out.1.trans (b5.mono M1.out.2)
                clear b5
                go_wp2
                go_ret
                exact ⟨rfl, B5.out⟩)
    · obtain ⟨b0, off, rfl, x0⟩ := srow_cell (wr := wr) HR.out (by rw [HS.out]; exact g.bel) h
      have y1 := x0 1 (by decide)
      have y2 := x0 2 (by decide)
      change wr.cell? ⟨b0, off + k * 3 + 1, none⟩ = some (.int .i64 (X0 k 1)) at y1
      change wr.cell? ⟨b0, off + k * 3 + 2, none⟩ = some (.int .i64 (X0 k 2)) at y2
      have KC : Hid (∀ w2, Below s w w2 → w2.cell? ⟨b0, off + k * 3 + 1, none⟩ = some (.int .i64 (X0 k 1)) ∧ w2.cell? ⟨b0, off + k * 3 + 2, none⟩ = some (.int .i64 (X0 k 2))) := fun w2 b2 => by
        obtain ⟨_, _, e1, d⟩ := srow_cell (wr := w2) HR.out (by rw [HS.out]; exact b2) h
        simp only [Option.some.injEq, Addr.mk.injEq, and_true] at e1
        obtain ⟨rfl, rfl⟩ := e1
        exact ⟨d 1 (by decide), d 2 (by decide)⟩
      have G : Hid (GW w wr s 100 900 q p) := g
      generalize X0 k 1 = x at *
      generalize X0 k 2 = y at *
      clear x0 g
      have P1 : Hid (∀ u, GW w u s 100 900 q p → _) := fun u t => gw_feed x y (wr := u) t
      generalize fdN x y 100 900 q = n1 at *
      generalize fdE x y = n2 at *
      generalize fdQ x y q = q2 at *
      generalize fdP x y p = p2 at *
      go_wp2_with fail
      go_region_held3 (fun w' => w'.cell? ⟨b0, off + k * 3 + 1, none⟩ = some (.int .i64 x) ∧ w'.cell? ⟨b0, off + k * 3 + 2, none⟩ = some (.int .i64 y)) (go_keep)
        (first | (go_at_call 24; refine (P1.out _ ?_).mono ?_; exact G.out.sm ⟨rfl, rfl, rfl, rfl⟩; rintro e w' ⟨rfl, t1⟩; have T2 : Hid (GW w w' s 100 900 q2 p2) := t1; obtain ⟨d1, d2⟩ := KC.out _ t1.bel; clear t1))
      go_wp2
      go_roundw
      case rel => exact ⟨k + 1, q2, p2, by omega, by omega, T2.out.sm ⟨rfl, rfl, rfl, rfl⟩, by go_num⟩
      case measure => simp [intOf]; omega

set_option maxRecDepth 100000 in
theorem lifted (os : Os) (started : os.Started) (H : Type) (enc : TypeId × Value → H) :
    ReturnsInHanded {} Try.checked os 8 .any (Rows.freqEndsSpec.pre6 enc Try.prog Try.f8 Rows.freqEndsRow.domain false) (Rows.freqEndsSpec.post enc Try.prog Try.f8 false true false false) := by
  refine returnsInHanded_of_change (C := Try.checked) own started (by kernel_rfl) Try.func8
    (ChangeSpec.witness6 (enc := enc) (C := Try.checked) false ⟨#[], #[.slice none 0 0, .int .i64 0], []⟩ 8 (by kernel_rfl) (by kernel_rfl) (by kernel_rfl) (by kernel_rfl)) ?_
  intro W base args ds gs before hval0 hW hcnd _
  have hval : ∀ (j : Nat) t v, Try.f8.params[j]? = some t → args[j]? = some v → Value.okWide Try.prog W .any base t v := hval0
  have hW' := hW
  obtain ⟨p, q, hA0, hV, rfl, hfz, hnd⟩ := hW
  have hA : DataW.TrodAll enc Try.prog W 0 (fun _ => true) true Try.f8.params.toList args.toList ds p := hA0
  rw [Try.params8] at hA hval
  obtain ⟨v0, vs0, d0, ds0, p0, q0, hargs, rfl, rfl, h0, r0⟩ := trodAll_cons hA
  obtain ⟨v1, vs1, d1, ds1, p1, q1, rfl, rfl, rfl, h1, r1⟩ := trodAll_cons r0
  obtain ⟨rfl, rfl, rfl⟩ := trodAll_nil r1
  obtain rfl : args = #[v0, v1] := by cases args; simp_all
  obtain ⟨rfl, rfl⟩ := trodVars_none hV
  obtain ⟨a0, len0, cap0, rfl⟩ := okWide_slice Try.underlying38 (hval 0 38 v0 rfl rfl)
  have k0 := h0
  have lt0 : ∀ x ∈ p0, x.block < W.heap.size := by obtain ⟨m, hm⟩ := k0; exact DataW.trod_lt m _ _ _ hm
  obtain ⟨X0, w0, z0⟩ : ∃ X : Nat → Nat → Int, SRow W (.slice a0 len0 cap0) len0 [false, true, true] X ∧ ∀ i, i < len0 → ∀ j, j < [false, true, true].length → [false, true, true].getD j true = true → (Lit.int .i64 (X i j)).wf = true := by
    obtain ⟨fuel, hf⟩ := h0
    exact open_recs [false, true, true] Try.underlying38 Try.underlying47 (by kernel_rfl) rfl (by decide) (fun | 0, _ => ⟨_, rfl, rfl, by kernel_rfl, Try.underlying4⟩ | 1, _ => ⟨_, rfl, rfl, by kernel_rfl, Try.underlying2⟩ | 2, _ => ⟨_, rfl, rfl, by kernel_rfl, Try.underlying2⟩ | n + 3, h => absurd h (by simp only [List.length]; omega)) hf
  obtain ⟨a1, rfl, rfl, rfl, w1⟩ := open_int Try.underlying2 (hval 1 2 v1 rfl rfl) h1
  clear hA0 hval0
  refine (walk a0 len0 cap0 X0 a1 W w0 z0 w1).mono fun e W' ⟨he, bel⟩ => ?_
  subst he
  exact ⟨_, rfl, _, _, _, [], _, [], hW', trodAll_mk1 (shut_bool Try.underlying4 _), (trodAll_cons_mk (Below.trod laidOut (by kernel_rfl) (of_decide_eq_true (by kernel_rfl)) k0 bel lt0) (trodAll_cons_mk (shut_int Try.underlying2 w1) trodAll_mk0)), rfl, bel.frame _, fun h => by cases h⟩

theorem over : Rows.FreqEndsSaid :=
  OpenClaim.holds_of_wide 8 Try.f8 rfl rfl rfl rfl rfl rfl rfl ⟨rfl, rfl, rfl, rfl, rfl⟩ rfl rfl rfl rfl rfl (by kernel_rfl) Try.func8 (by kernel_rfl)
    (of_decide_eq_true (by kernel_rfl)) (by unfold Func.isWrapper; first | (rw [if_pos (by decide +kernel)]; kernel_rfl) | (rw [if_neg (by decide +kernel)]; exact ⟨rfl, rfl⟩))
    (fun os started H enc _ => lifted os started H enc)
end Go.Proofs.Ytjfmokfjnjbheaa.freqEnds

namespace Go.Proofs.Ytjfmokfjnjbheaa
open Go
theorem freqEnds_holds : Rows.FreqEndsSaid := freqEnds.over
#print axioms freqEnds_holds
end Go.Proofs.Ytjfmokfjnjbheaa
