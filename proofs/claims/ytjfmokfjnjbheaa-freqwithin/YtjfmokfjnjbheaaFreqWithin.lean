/- Proved: for all numbers low and high of 64 bits with a sign and every list acts, davitlaw24.FreqWithin(low, high, acts) returns true: the frequency is from the one limit to the other one, whatever is fed and set (100 acts at most, as the law itself says), and acts is left alone; no condition. -/
import Derived.Test.YtjfmokfjnjbheaaRows
import Derived.Test.YtjfmokfjnjbheaaFo
import Derived.Test.YtjfmokfjnjbheaaGj
import Derived.WalkKit
import Derived.ProofKit
import Derived.OpenShut
import Derived.Stop.Joined
import Derived.ShutString
import Derived.ChangeOld
import Derived.Below
import Derived.Carry
import Derived.Test.YtjfmokfjnjbheaaFs
import Derived.Deep.RegionHeld3
namespace Go.Proofs.Ytjfmokfjnjbheaa.freqWithin
open Go.ChangeShapes Go.WideShapes Go.ChangeAt Go.RowKit
set_option linter.unusedVariables false
set_option linter.unusedSimpArgs false

theorem own : ownKnob Try.prog.godebug = none := by kernel_rfl
theorem laidOut : laidOutB Try.prog = true := by kernel_rfl

set_option maxRecDepth 100000 in
set_option maxHeartbeats 4000000 in
theorem walk (a0 : Int) (a1 : Int) (a2 : Option Addr) (len2 cap2 : Nat) (X2 : Nat → Nat → Int) (w : World) (w0 : (Lit.int .i64 a0).wf = true) (w1 : (Lit.int .i64 a1).wf = true) (w2 : SRow w (.slice a2 len2 cap2) len2 [false, true, true] X2) (z2 : ∀ i, i < len2 → ∀ j, j < [false, true, true].length → [false, true, true].getD j true = true → (Lit.int .i64 (X2 i j)).wf = true) :
    Calls Try.prog 7 #[.int .i64 a0, .int .i64 a1, .slice a2 len2 cap2] w fun e w' => e = .returned (.bool true) ∧ Below w.heap.size w w' := by
  have KN : Hid (∀ w, _) := fun w => gknown_yes w
  by_cases hl : ¬ Lim a0 a1
  · have C0 : Hid (∀ _ : Unit, _) := fun _ => gnew_bad a0 a1 w hl
    clear w0 w1 w2 z2 hl
    go_enter Try.func7, Try.ntmps7
    go_wp2_with fail
    refine (C0.out ()).mono ?_
    rintro e u1 ⟨rfl, b1⟩
    have B1 : Hid (Below w.heap.size w u1) := b1
    clear b1
    go_wp2_with fail
    refine (KN.out _).mono ?_
    rintro e u2 ⟨rfl, b2⟩
    have B2 : Hid (Below w.heap.size w u2) := B1.out.trans (b2.mono B1.out.size)
    clear b2
    go_wp2
    go_ret
    exact ⟨rfl, B2.out⟩
  have hl : Lim a0 a1 := Decidable.not_not.1 hl
  have C0 : Hid (∀ _ : Unit, _) := fun _ => gnew_ok a0 a1 w hl
  have HL : Hid (Lim a0 a1) := hl
  have HR : Hid (SRow w (.slice a2 len2 cap2) len2 [false, true, true] X2) := w2
  obtain ⟨s, hs⟩ : ∃ s, w.heap.size = s := ⟨_, rfl⟩
  have HS : Hid (w.heap.size = s) := hs
  rw [hs] at C0 ⊢
  clear w0 w1 w2 z2 hl hs
  go_enter Try.func7, Try.ntmps7
  go_wp2_with fail
  refine (C0.out ()).mono ?_
  rintro e u1 ⟨rfl, g1, b1⟩
  have T1 : Hid (GW w u1 s a0 a1 (lf []) 0) := ⟨g1, HL.out, b1⟩
  clear g1 b1 C0
  go_wp2
  go_loopw [9] (fun i wr => ∃ (k : Nat) (lo hi : Int) (q : List Fq) (p : Nat), (k : Int) ≤ 100 ∧ (k : Int) ≤ len2 ∧ GW w wr s lo hi q p ∧ i = .int .i64 k) (fun i _ => 100 - (intOf i).toNat)
  case atStart => exact ⟨0, a0, a1, _, 0, by omega, by omega, T1.out, rfl⟩
  case round =>
    obtain ⟨k, lo, hi, q, p, hk, hk2, g, rfl⟩ := hrel
    clear T1
    have tail : (¬ (k : Int) < len2 ∧ decide ((k : Int) < len2) = false) ∨ ((k : Int) < len2 ∧ ¬ (k : Int) < 100) ∨ ((k : Int) < len2 ∧ (k : Int) < 100) := by
      by_cases h : (k : Int) < len2
      · by_cases h2 : (k : Int) < 100
        · exact Or.inr (Or.inr ⟨h, h2⟩)
        · exact Or.inr (Or.inl ⟨h, h2⟩)
      · exact Or.inl ⟨h, decide_eq_false h⟩
    rw [← or_assoc] at tail
    rcases tail with tail | ⟨h, h2⟩
    · have M1 : Hid (Below s w wr ∧ s ≤ wr.heap.size) := ⟨g.bel, by have := g.top; omega⟩
      clear g
      rcases tail with ⟨h, hd⟩ | ⟨h, h2⟩
      all_goals (
        go_wp2_with fail
        refine (KN.out _).mono ?_
        rintro e u4 ⟨rfl, f4⟩
        go_wp2
        go_ret
        exact ⟨rfl, M1.out.1.trans (f4.mono M1.out.2)⟩)
    · obtain ⟨b0, off, rfl, x0⟩ := srow_cell (wr := wr) HR.out (by rw [HS.out]; exact g.bel) h
      have y0 := x0 0 (by decide)
      have y1 := x0 1 (by decide)
      have y2 := x0 2 (by decide)
      change wr.cell? ⟨b0, off + k * 3, none⟩ = some (.bool (X2 k 0 != 0)) at y0
      change wr.cell? ⟨b0, off + k * 3 + 1, none⟩ = some (.int .i64 (X2 k 1)) at y1
      change wr.cell? ⟨b0, off + k * 3 + 2, none⟩ = some (.int .i64 (X2 k 2)) at y2
      have KC : Hid (∀ w2, Below s w w2 → w2.cell? ⟨b0, off + k * 3 + 1, none⟩ = some (.int .i64 (X2 k 1)) ∧ w2.cell? ⟨b0, off + k * 3 + 2, none⟩ = some (.int .i64 (X2 k 2))) := fun w2 b2 => by
        obtain ⟨_, _, e1, d⟩ := srow_cell (wr := w2) HR.out (by rw [HS.out]; exact b2) h
        simp only [Option.some.injEq, Addr.mk.injEq, and_true] at e1
        obtain ⟨rfl, rfl⟩ := e1
        exact ⟨d 1 (by decide), d 2 (by decide)⟩
      have G : Hid (GW w wr s lo hi q p) := g
      generalize X2 k 1 = x at *
      generalize X2 k 2 = y at *
      clear x0 g
      cases hx : (X2 k 0 != 0)
      · rw [hx] at y0
        clear hx
        have P1 : Hid (∀ u, GW w u s lo hi q p → _) := fun u t => gw_feed x y (wr := u) t
        generalize fdN x y lo hi q = n1 at *
        generalize fdE x y = n2 at *
        generalize fdQ x y q = q2 at *
        generalize fdP x y p = p2 at *
        go_wp2_with fail
        go_region_held3 (fun w' => w'.cell? ⟨b0, off + k * 3 + 1, none⟩ = some (.int .i64 x) ∧ w'.cell? ⟨b0, off + k * 3 + 2, none⟩ = some (.int .i64 y)) (go_keep)
          (first | (go_at_call 24; refine (P1.out _ ?_).mono ?_; exact G.out.sm ⟨rfl, rfl, rfl, rfl⟩; rintro e w' ⟨rfl, t1⟩; have T2 : Hid (GW w w' s lo hi q2 p2) := t1; obtain ⟨d1, d2⟩ := KC.out _ t1.bel; clear t1))
        have T3 : Hid (GW w _ s lo hi q2 p2) := T2.out
        go_wp2_with fail
        refine (gw_limits (T2.out.sm ⟨rfl, rfl, rfl, rfl⟩)).mono ?_
        rintro e u3 ⟨rfl, t3⟩
        have T4 : Hid (GW w u3 s lo hi q2 p2) := t3
        obtain ⟨l1, l2, l3⟩ := t3.lim
        have lim := fr_in t3.lim q2
        obtain ⟨l4, l5⟩ := lim
        have P2 : Hid (∀ u, GW w u s lo hi q2 p2 → _) := fun u t => gw_freq (wr := u) t
        generalize fr lo hi q2 = f at *
        clear t3 T2 T3 d1 d2 y0 y1 y2 KC G P1
        go_wp2_with fail
        refine (P2.out _ T4.out).mono ?_
        rintro e u4 ⟨rfl, t4⟩
        have T5 : Hid (GW w u4 s lo hi q2 p2) := t4
        clear t4 T4
        go_wp2_with fail
        refine (P2.out _ T5.out).mono ?_
        rintro e u5 ⟨rfl, t5⟩
        have T6 : Hid (GW w u5 s lo hi q2 p2) := t5
        clear t5 T5 P2
        go_wp2
        go_roundw
        case rel => exact ⟨k + 1, lo, hi, q2, p2, by omega, by omega, T6.out, by go_num⟩
        case measure => simp [intOf]; omega
      · rw [hx] at y0
        clear hx
        have P1 : Hid (∀ u, GW w u s lo hi q p → _) := fun u t => gw_set x y (wr := u) t
        generalize stE x y = n2 at *
        generalize stL x y lo = lo2 at *
        generalize stH x y hi = hi2 at *
        go_wp2_with fail
        go_region_held3 (fun w' => w'.cell? ⟨b0, off + k * 3 + 1, none⟩ = some (.int .i64 x) ∧ w'.cell? ⟨b0, off + k * 3 + 2, none⟩ = some (.int .i64 y)) (go_keep)
          (first | (go_at_call 22; refine (P1.out _ ?_).mono ?_; exact G.out.sm ⟨rfl, rfl, rfl, rfl⟩; rintro e w' ⟨rfl, t1⟩; have T2 : Hid (GW w w' s lo2 hi2 q p) := t1; obtain ⟨d1, d2⟩ := KC.out _ t1.bel; clear t1))
        have T3 : Hid (GW w _ s lo2 hi2 q p) := T2.out
        go_wp2_with fail
        refine (gw_limits (T2.out.sm ⟨rfl, rfl, rfl, rfl⟩)).mono ?_
        rintro e u3 ⟨rfl, t3⟩
        have T4 : Hid (GW w u3 s lo2 hi2 q p) := t3
        obtain ⟨l1, l2, l3⟩ := t3.lim
        have lim := fr_in t3.lim q
        obtain ⟨l4, l5⟩ := lim
        have P2 : Hid (∀ u, GW w u s lo2 hi2 q p → _) := fun u t => gw_freq (wr := u) t
        generalize fr lo2 hi2 q = f at *
        clear t3 T2 T3 d1 d2 y0 y1 y2 KC G P1
        go_wp2_with fail
        refine (P2.out _ T4.out).mono ?_
        rintro e u4 ⟨rfl, t4⟩
        have T5 : Hid (GW w u4 s lo2 hi2 q p) := t4
        clear t4 T4
        go_wp2_with fail
        refine (P2.out _ T5.out).mono ?_
        rintro e u5 ⟨rfl, t5⟩
        have T6 : Hid (GW w u5 s lo2 hi2 q p) := t5
        clear t5 T5 P2
        go_wp2
        go_roundw
        case rel => exact ⟨k + 1, lo2, hi2, q, p, by omega, by omega, T6.out, by go_num⟩
        case measure => simp [intOf]; omega

set_option maxRecDepth 100000 in
theorem lifted (os : Os) (started : os.Started) (H : Type) (enc : TypeId × Value → H) :
    ReturnsInHanded {} Try.checked os 7 .any (Rows.freqWithinSpec.pre6 enc Try.prog Try.f7 Rows.freqWithinRow.domain false) (Rows.freqWithinSpec.post enc Try.prog Try.f7 false true false false) := by
  refine returnsInHanded_of_change (C := Try.checked) own started (by kernel_rfl) Try.func7
    (ChangeSpec.witness6 (enc := enc) (C := Try.checked) false ⟨#[], #[.int .i64 0, .int .i64 0, .slice none 0 0], []⟩ 8 (by kernel_rfl) (by kernel_rfl) (by kernel_rfl) (by kernel_rfl)) ?_
  intro W base args ds gs before hval0 hW hcnd _
  have hval : ∀ (j : Nat) t v, Try.f7.params[j]? = some t → args[j]? = some v → Value.okWide Try.prog W .any base t v := hval0
  have hW' := hW
  obtain ⟨p, q, hA0, hV, rfl, hfz, hnd⟩ := hW
  have hA : DataW.TrodAll enc Try.prog W 0 (fun _ => true) true Try.f7.params.toList args.toList ds p := hA0
  rw [Try.params7] at hA hval
  obtain ⟨v0, vs0, d0, ds0, p0, q0, hargs, rfl, rfl, h0, r0⟩ := trodAll_cons hA
  obtain ⟨v1, vs1, d1, ds1, p1, q1, rfl, rfl, rfl, h1, r1⟩ := trodAll_cons r0
  obtain ⟨v2, vs2, d2, ds2, p2, q2, rfl, rfl, rfl, h2, r2⟩ := trodAll_cons r1
  obtain ⟨rfl, rfl, rfl⟩ := trodAll_nil r2
  obtain rfl : args = #[v0, v1, v2] := by cases args; simp_all
  obtain ⟨rfl, rfl⟩ := trodVars_none hV
  obtain ⟨a0, rfl, rfl, rfl, w0⟩ := open_int Try.underlying2 (hval 0 2 v0 rfl rfl) h0
  obtain ⟨a1, rfl, rfl, rfl, w1⟩ := open_int Try.underlying2 (hval 1 2 v1 rfl rfl) h1
  obtain ⟨a2, len2, cap2, rfl⟩ := okWide_slice Try.underlying38 (hval 2 38 v2 rfl rfl)
  have k2 := h2
  have lt2 : ∀ x ∈ p2, x.block < W.heap.size := by obtain ⟨m, hm⟩ := k2; exact DataW.trod_lt m _ _ _ hm
  obtain ⟨X2, w2, z2⟩ : ∃ X : Nat → Nat → Int, SRow W (.slice a2 len2 cap2) len2 [false, true, true] X ∧ ∀ i, i < len2 → ∀ j, j < [false, true, true].length → [false, true, true].getD j true = true → (Lit.int .i64 (X i j)).wf = true := by
    obtain ⟨fuel, hf⟩ := h2
    exact open_recs [false, true, true] Try.underlying38 Try.underlying47 (by kernel_rfl) rfl (by decide) (fun | 0, _ => ⟨_, rfl, rfl, by kernel_rfl, Try.underlying4⟩ | 1, _ => ⟨_, rfl, rfl, by kernel_rfl, Try.underlying2⟩ | 2, _ => ⟨_, rfl, rfl, by kernel_rfl, Try.underlying2⟩ | n + 3, h => absurd h (by simp only [List.length]; omega)) hf
  clear hA0 hval0
  refine (walk a0 a1 a2 len2 cap2 X2 W w0 w1 w2 z2).mono fun e W' ⟨he, bel⟩ => ?_
  subst he
  exact ⟨_, rfl, _, _, _, [], _, [], hW', trodAll_mk1 (shut_bool Try.underlying4 _), (trodAll_cons_mk (shut_int Try.underlying2 w0) (trodAll_cons_mk (shut_int Try.underlying2 w1) (trodAll_cons_mk (Below.trod laidOut (by kernel_rfl) (of_decide_eq_true (by kernel_rfl)) k2 bel lt2) trodAll_mk0))), rfl, bel.frame _, fun h => by cases h⟩

theorem over : Rows.FreqWithinSaid :=
  OpenClaim.holds_of_wide 7 Try.f7 rfl rfl rfl rfl rfl rfl rfl ⟨rfl, rfl, rfl, rfl, rfl⟩ rfl rfl rfl rfl rfl (by kernel_rfl) Try.func7 (by kernel_rfl)
    (of_decide_eq_true (by kernel_rfl)) (by unfold Func.isWrapper; first | (rw [if_pos (by decide +kernel)]; kernel_rfl) | (rw [if_neg (by decide +kernel)]; exact ⟨rfl, rfl⟩))
    (fun os started H enc _ => lifted os started H enc)
end Go.Proofs.Ytjfmokfjnjbheaa.freqWithin

namespace Go.Proofs.Ytjfmokfjnjbheaa
open Go
theorem freqWithin_holds : Rows.FreqWithinSaid := freqWithin.over
#print axioms freqWithin_holds
end Go.Proofs.Ytjfmokfjnjbheaa
