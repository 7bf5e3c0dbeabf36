/- Proved: for every list acts, davitlaw20.StopPlays(acts) returns true: cores that are to stand still, played with, answer what the document says: each answer, and who does, and does not yet (150 acts at most, as the law itself says), and acts is left alone; no condition. -/
import Derived.Test.YtbmdfoohabipjaaRows
import Derived.Test.YtbmdfoohabipjaaFo
import Derived.Test.YtbmdfoohabipjaaEq
import Derived.WalkKit
import Derived.ProofKit
import Derived.OpenShut
import Derived.Stop.Joined
import Derived.ShutString
import Derived.ChangeOld
import Derived.Below
import Derived.Carry
import Derived.Test.YtbmdfoohabipjaaFt
import Derived.Deep.DeepCutAuto
import Derived.Deep.CutBlock
import Derived.Deep.RegionHeld3
namespace Go.Proofs.Ytbmdfoohabipjaa.stopPlays
open Go.ChangeShapes Go.WideShapes Go.ChangeAt Go.RowKit
open Mm Ek
set_option linter.unusedVariables false
set_option linter.unusedSimpArgs false

theorem own : ownKnob Try.prog.godebug = none := by kernel_rfl
theorem laidOut : laidOutB Try.prog = true := by kernel_rfl

set_option maxRecDepth 100000 in
set_option maxHeartbeats 4000000 in
theorem walk (a0 : Option Addr) (len0 cap0 : Nat) (X0 : Nat → Nat → Int) (w : World) (w0 : TRow w (.slice a0 len0 cap0) len0 [1, 1, 2] X0) (z0 : ∀ i, i < len0 → ∀ j, j < [1, 1, 2].length → kwf ([1, 1, 2].getD j 1) (X0 i j)) :
    Calls Try.prog 6 #[.slice a0 len0 cap0] w fun e w' => e = .returned (.bool true) ∧ Below w.heap.size w w' := by
  have KN : Hid (∀ w1, _) := fun w1 => tknown_yes w1
  have HR : Hid (TRow w (.slice a0 len0 cap0) len0 [1, 1, 2] X0) := w0
  have HW : Hid (∀ i, i < len0 → kwf 2 (X0 i 2)) := fun i hi => z0 i hi 2 (by decide)
  have PP0 : Hid (TT w ((w.alloc (.cells #[.int .u64 0, .int .u64 0] 49)).alloc (.cells #[.bool false, .int .u64 0, .int .u64 0] 52)) w.heap.size 0 0 0 0) := by
    refine ⟨(st_new w).keep (B := w.heap.size + 1) (S := []) ((Fr.refl _ _ _).alloc (by simp) _) (by omega) (by simp), ⟨false, 0, 0, ⟨?_, by omega, by omega⟩, rel_zero⟩, ((Below.refl _ _).alloc (Nat.le_refl _) _).alloc (by simp) _⟩
    have := Blk.new (w.alloc (.cells #[.int .u64 0, .int .u64 0] 49)) [.bool false, .int .u64 0, .int .u64 0] 52
    rwa [World.size_alloc] at this
  obtain ⟨s, hs⟩ : ∃ s, w.heap.size = s := ⟨_, rfl⟩
  have HS : Hid (w.heap.size = s) := hs
  rw [hs] at PP0 ⊢
  clear w0 z0 hs
  go_enter Try.func6, Try.ntmps6
  go_wp2
  rw [HS.out]
  go_loopw [5] (fun i wr => ∃ (k l h : Nat), (k : Int) ≤ 150 ∧ (k : Int) ≤ len0 ∧ TT w wr s l h l h ∧ i = .int .i64 k) (fun i _ => 150 - (intOf i).toNat)
  case atStart => exact ⟨0, 0, 0, by omega, by omega, PP0.out, rfl⟩
  case round =>
    obtain ⟨k, l, h, hk, hk2, q, rfl⟩ := hrel
    clear PP0
    have HB : Hid (Below s w wr) := q.bel
    have hz : s ≤ wr.heap.size := by have := q.hi; omega
    have tail : (¬ (k : Int) < len0 ∧ decide ((k : Int) < len0) = false) ∨ ((k : Int) < len0 ∧ ¬ (k : Int) < 150) ∨ ((k : Int) < len0 ∧ (k : Int) < 150) := by
      by_cases h : (k : Int) < len0
      · by_cases h2 : (k : Int) < 150
        · exact Or.inr (Or.inr ⟨h, h2⟩)
        · exact Or.inr (Or.inl ⟨h, h2⟩)
      · exact Or.inl ⟨h, decide_eq_false h⟩
    rw [← or_assoc] at tail
    rcases tail with tail | ⟨hq, hq2⟩
    · clear q
      rcases tail with ⟨h, hd⟩ | ⟨h, h2⟩
      all_goals (
        go_wp2_with fail
        refine (KN.out _).mono ?_
        rintro e w4 ⟨rfl, f4⟩
        go_wp2
        go_ret
        exact ⟨rfl, HB.out.trans (f4.mono hz)⟩)
    · obtain ⟨b0, off, rfl, hA⟩ := trow_cell (wr := wr) HR.out (by rw [HS.out]; exact q.bel) hq
      have x0 : wr.cell? ⟨b0, off + k * 3, none⟩ = some (.int .i64 (X0 k 0)) := hA 0 (by simp)
      have x1 : wr.cell? ⟨b0, off + k * 3 + 1, none⟩ = some (.int .i64 (X0 k 1)) := hA 1 (by simp)
      have x2 : wr.cell? ⟨b0, off + k * 3 + 2, none⟩ = some (.int .u64 (X0 k 2)) := hA 2 (by simp)
      have hw2 : (Lit.int .u64 (X0 k 2)).wf = true := HW.out k (by omega)
      clear hA
      generalize X0 k 0 = y0 at *
      generalize X0 k 1 = y1 at *
      generalize X0 k 2 = y2 at *
      obtain ⟨y2, rfl⟩ := Int.eq_ofNat_of_zero_le (show 0 ≤ y2 from (bounds_u64 hw2).1)
      have HY : Hid (y2 < 18446744073709551616) := by unfold Hid; have := (bounds_u64 hw2).2; omega
      have q0 : TT w (wr.alloc (.cells #[.int .i64 y0, .int .i64 y1, .int .u64 (y2 : Int)] 54)) s l h l h ∧ AT (wr.alloc (.cells #[.int .i64 y0, .int .i64 y1, .int .u64 (y2 : Int)] 54)) s wr.heap.size y0 y1 y2 := ⟨q.keep ((Below.refl _ _).alloc (Nat.le_refl _) _), Blk.new wr [.int .i64 y0, .int .i64 y1, .int .u64 (y2 : Int)] _, q.hi⟩
      obtain ⟨z, hzz⟩ : ∃ z, wr.heap.size = z := ⟨_, rfl⟩
      have HZZ : Hid (wr.heap.size = z) := hzz
      obtain ⟨u0, hu0⟩ : ∃ u0, wr.alloc (.cells #[.int .i64 y0, .int .i64 y1, .int .u64 (y2 : Int)] 54) = u0 := ⟨_, rfl⟩
      have HU0 : Hid (wr.alloc (.cells #[.int .i64 y0, .int .i64 y1, .int .u64 (y2 : Int)] 54) = u0) := hu0
      rw [hu0, hzz] at q0
      have Q0 : Hid (TT w u0 s l h l h) := q0.1
      have A0 : Hid (AT u0 s z y0 y1 y2) := q0.2
      obtain ⟨i0, i1, i2⟩ := q0.2.cells
      clear q q0 hu0 hzz hw2
      go_upto_block 2 with (fail)
      rw [HU0.out, HZZ.out]
      go_cut [5, 6] (fun i pa wx => i = .int .i64 k ∧ pa = .pointer (some ⟨z, 0, none⟩) ∧ ∃ l2 h2 : Nat, TT w wx s l2 h2 l2 h2 ∧ AT wx s z y0 y1 y2)
      case first =>
        by_cases t0 : y0.tmod 3 = 0
        · have e0 : (y0.tmod 3 == 0) = true := by simpa using t0
          clear t0
          have C1 : Hid (∀ w1, Sm w1 u0 → _) := fun w1 e => tt_begin y2 HY.out Q0.out (w1 := w1) e
          have C2 : Hid (∀ v1 w1, TT w v1 s l h (beL l h y2) h → Sm w1 v1 → _) := fun v1 w1 t e => tt_rbegin y2 HY.out t (w1 := w1) e
          generalize beE l h y2 = ee at *
          generalize beL l h y2 = l2 at *
          have n1 : (ee != ee) = false := by simp
          go_wp2_with fail
          go_region_held3 (fun w' => w'.cell? ⟨z, 2, none⟩ = some (.int .u64 (y2 : Int))) (go_keep)
            (first | (go_at_call 22; refine (C1.out _ ?_).mono ?_; exact ⟨rfl, rfl, rfl, rfl⟩; rintro e v2 ⟨rfl, q1, t1⟩; obtain ⟨k0, k1, k2⟩ := (t1 _ _ _ _ A0.out).cells; have R1 : Hid (TT w v2 s l h l2 h) := q1; have T1 : Hid (AT v2 s z y0 y1 y2) := t1 _ _ _ _ A0.out; clear q1 t1) | (go_at_call 23; refine (C2.out v2 _ R1.out ?_).mono ?_; exact ⟨rfl, rfl, rfl, rfl⟩; rintro e v3 ⟨rfl, q2, t2⟩; obtain ⟨m0, m1, m2⟩ := (t2 _ _ _ _ T1.out).cells; have R2 : Hid (TT w v3 s l2 h l2 h ∧ AT v3 s z y0 y1 y2) := ⟨q2, t2 _ _ _ _ T1.out⟩; clear q2 t2))
          go_wp2
          go_meet
          case rel => exact ⟨rfl, rfl, l2, h, R2.out.1.sm ⟨rfl, rfl, rfl, rfl⟩, (KT.sm ⟨rfl, rfl, rfl, rfl⟩) _ _ _ _ R2.out.2⟩
        · have e0 : (y0.tmod 3 == 0) = false := by simpa using t0
          by_cases t1 : y0.tmod 3 = 1
          · have e1 : (y0.tmod 3 == 1) = true := by simpa using t1
            clear t0 t1
            have C1 : Hid (∀ w1, Sm w1 u0 → _) := fun w1 e => tt_ack y1 Q0.out (w1 := w1) e
            have C2 : Hid (∀ v1 w1, TT w v1 s l h (acL l y1) (acH l h y1) → Sm w1 v1 → _) := fun v1 w1 t e => tt_rack y1 t (w1 := w1) e
            generalize acE l y1 = ee at *
            generalize acL l y1 = l2 at *
            generalize acH l h y1 = h2 at *
            have n1 : (ee != ee) = false := by simp
            go_wp2_with fail
            go_region_held3 (fun w' => w'.cell? ⟨z, 1, none⟩ = some (.int .i64 y1)) (go_keep)
              (first | (go_at_call 24; refine (C1.out _ ?_).mono ?_; exact ⟨rfl, rfl, rfl, rfl⟩; rintro e v2 ⟨rfl, q1, t1⟩; obtain ⟨k0, k1, k2⟩ := (t1 _ _ _ _ A0.out).cells; have R1 : Hid (TT w v2 s l h l2 h2) := q1; have T1 : Hid (AT v2 s z y0 y1 y2) := t1 _ _ _ _ A0.out; clear q1 t1) | (go_at_call 25; refine (C2.out v2 _ R1.out ?_).mono ?_; exact ⟨rfl, rfl, rfl, rfl⟩; rintro e v3 ⟨rfl, q2, t2⟩; obtain ⟨m0, m1, m2⟩ := (t2 _ _ _ _ T1.out).cells; have R2 : Hid (TT w v3 s l2 h2 l2 h2 ∧ AT v3 s z y0 y1 y2) := ⟨q2, t2 _ _ _ _ T1.out⟩; clear q2 t2))
            go_wp2
            go_meet
            case rel => exact ⟨rfl, rfl, l2, h2, R2.out.1.sm ⟨rfl, rfl, rfl, rfl⟩, (KT.sm ⟨rfl, rfl, rfl, rfl⟩) _ _ _ _ R2.out.2⟩
          · have e1 : (y0.tmod 3 == 1) = false := by simpa using t1
            clear t0 t1
            have C1 : Hid (∀ w1, Sm w1 u0 → _) := fun w1 e => tt_free Q0.out (w1 := w1) e
            have C2 : Hid (∀ v1 w1, TT w v1 s l h 0 0 → Sm w1 v1 → _) := fun v1 w1 t e => tt_rfree t (w1 := w1) e
            generalize frE l h = ee at *
            have n1 : (ee != ee) = false := by simp
            go_wp2_with fail
            refine (C1.out _ ⟨rfl, rfl, rfl, rfl⟩).mono ?_
            rintro e v2 ⟨rfl, q1, t1⟩
            have R1 : Hid _ := q1
            have T1 : Hid (AT v2 s z y0 y1 y2) := t1 _ _ _ _ A0.out
            clear q1 t1
            go_wp2_with fail
            refine (C2.out v2 _ R1.out ⟨rfl, rfl, rfl, rfl⟩).mono ?_
            rintro e v3 ⟨rfl, q2, t2⟩
            have R2 : Hid (TT w v3 s 0 0 0 0 ∧ AT v3 s z y0 y1 y2) := ⟨q2, t2 _ _ _ _ T1.out⟩
            clear q2 t2
            go_wp2
            go_meet
            case rel => exact ⟨rfl, rfl, 0, 0, R2.out.1, R2.out.2⟩
      case rest =>
        obtain ⟨rfl, rfl, l2, h2, r2, t2⟩ := hcut
        obtain ⟨k0, k1, k2⟩ := t2.cells
        have kr := r2.r.c0
        have P1 : Hid (TT w wc s l2 h2 l2 h2) := r2
        have A1 : Hid (AT wc s z y0 y1 y2) := t2
        clear r2 t2 Q0 A0 x0 x1 x2 i0 i1 i2 HU0 HZZ HY
        obtain ⟨b1, hb1⟩ : ∃ b1, onB l2 h2 = b1 := ⟨_, rfl⟩
        have Hb1 : Hid (onB l2 h2 = b1) := hb1
        have nb1 : (b1 != b1) = false := by simp
        obtain ⟨b2, hb2⟩ : ∃ b2, tb l2 y1 = b2 := ⟨_, rfl⟩
        have Hb2 : Hid (tb l2 y1 = b2) := hb2
        have nb2 : (b2 != b2) = false := by simp
        obtain ⟨b3, hb3⟩ : ∃ b3, tb h2 y1 = b3 := ⟨_, rfl⟩
        have Hb3 : Hid (tb h2 y1 = b3) := hb3
        have nb3 : (b3 != b3) = false := by simp
        obtain ⟨b4, hb4⟩ : ∃ b4, rdB l2 h2 = b4 := ⟨_, rfl⟩
        have Hb4 : Hid (rdB l2 h2 = b4) := hb4
        have nb4 : (b4 != b4) = false := by simp
        have nl : ((l2 : Int) != (l2 : Int)) = false := by simp
        rw [hb1] at kr
        clear hb1 hb2 hb3 hb4
        go_wp2_with fail
        go_region_held3 (fun w' => w'.cell? ⟨z, 1, none⟩ = some (.int .i64 y1) ∧ w'.cell? ⟨s + 1, 0, none⟩ = some (.bool b1)) (go_keep)
          (first | (go_at_call 28; refine (tt_on P1.out ?_).mono ?_; exact ⟨rfl, rfl, rfl, rfl⟩; rintro e v2 ⟨rfl, q2, t2⟩; rw [Hb1.out]; obtain ⟨r20, r21, r22⟩ := (t2 _ _ _ _ A1.out).cells; have s2 := q2.r.c0; rw [Hb1.out] at s2; have P2 : Hid (TT w v2 s l2 h2 l2 h2) := q2; have A2 : Hid (AT v2 s z y0 y1 y2) := t2 _ _ _ _ A1.out; clear q2 t2 P1 A1) | (go_at_call 29; refine (tt_must y1 P2.out ?_).mono ?_; exact ⟨rfl, rfl, rfl, rfl⟩; rintro e v3 ⟨rfl, q3, t3⟩; rw [Hb2.out]; obtain ⟨r30, r31, r32⟩ := (t3 _ _ _ _ A2.out).cells; have s3 := q3.r.c0; rw [Hb1.out] at s3; have P3 : Hid (TT w v3 s l2 h2 l2 h2) := q3; have A3 : Hid (AT v3 s z y0 y1 y2) := t3 _ _ _ _ A2.out; clear q3 t3 P2 A2) | (go_at_call 30; refine (tt_rmust y1 P3.out ?_).mono ?_; exact ⟨rfl, rfl, rfl, rfl⟩; rintro e v4 ⟨rfl, q4, t4⟩; rw [Hb2.out]; obtain ⟨r40, r41, r42⟩ := (t4 _ _ _ _ A3.out).cells; have s4 := q4.r.c0; rw [Hb1.out] at s4; have P4 : Hid (TT w v4 s l2 h2 l2 h2) := q4; have A4 : Hid (AT v4 s z y0 y1 y2) := t4 _ _ _ _ A3.out; clear q4 t4 P3 A3) | (go_at_call 31; refine (tt_held y1 P4.out ?_).mono ?_; exact ⟨rfl, rfl, rfl, rfl⟩; rintro e v5 ⟨rfl, q5, t5⟩; rw [Hb3.out]; obtain ⟨r50, r51, r52⟩ := (t5 _ _ _ _ A4.out).cells; have s5 := q5.r.c0; rw [Hb1.out] at s5; have P5 : Hid (TT w v5 s l2 h2 l2 h2) := q5; have A5 : Hid (AT v5 s z y0 y1 y2) := t5 _ _ _ _ A4.out; clear q5 t5 P4 A4) | (go_at_call 32; refine (tt_rholds y1 P5.out ?_).mono ?_; exact ⟨rfl, rfl, rfl, rfl⟩; rintro e v6 ⟨rfl, q6, t6⟩; rw [Hb3.out]; obtain ⟨r60, r61, r62⟩ := (t6 _ _ _ _ A5.out).cells; have s6 := q6.r.c0; rw [Hb1.out] at s6; have P6 : Hid (TT w v6 s l2 h2 l2 h2) := q6; have A6 : Hid (AT v6 s z y0 y1 y2) := t6 _ _ _ _ A5.out; clear q6 t6 P5 A5) | (go_at_call 33; refine (tt_ready P6.out ?_).mono ?_; exact ⟨rfl, rfl, rfl, rfl⟩; rintro e v7 ⟨rfl, q7, t7⟩; rw [Hb4.out]; obtain ⟨r70, r71, r72⟩ := (t7 _ _ _ _ A6.out).cells; have s7 := q7.r.c0; rw [Hb1.out] at s7; have P7 : Hid (TT w v7 s l2 h2 l2 h2) := q7; have A7 : Hid (AT v7 s z y0 y1 y2) := t7 _ _ _ _ A6.out; clear q7 t7 P6 A6) | (go_at_call 34; refine (tt_rready P7.out ?_).mono ?_; exact ⟨rfl, rfl, rfl, rfl⟩; rintro e v8 ⟨rfl, q8, t8⟩; rw [Hb4.out]; obtain ⟨r80, r81, r82⟩ := (t8 _ _ _ _ A7.out).cells; have s8 := q8.r.c0; rw [Hb1.out] at s8; have P8 : Hid (TT w v8 s l2 h2 l2 h2) := q8; have A8 : Hid (AT v8 s z y0 y1 y2) := t8 _ _ _ _ A7.out; clear q8 t8 P7 A7) | (go_at_call 35; refine (tt_left P8.out ?_).mono ?_; exact ⟨rfl, rfl, rfl, rfl⟩; rintro e v9 ⟨rfl, q9, t9⟩; obtain ⟨r90, r91, r92⟩ := (t9 _ _ _ _ A8.out).cells; have s9 := q9.r.c0; rw [Hb1.out] at s9; have P9 : Hid (TT w v9 s l2 h2 l2 h2) := q9; have A9 : Hid (AT v9 s z y0 y1 y2) := t9 _ _ _ _ A8.out; clear q9 t9 P8 A8) | (go_at_call 36; refine (tt_rleft P9.out ?_).mono ?_; exact ⟨rfl, rfl, rfl, rfl⟩; rintro e v10 ⟨rfl, q10, t10⟩; obtain ⟨r100, r101, r102⟩ := (t10 _ _ _ _ A9.out).cells; have s10 := q10.r.c0; rw [Hb1.out] at s10; have P10 : Hid (TT w v10 s l2 h2 l2 h2) := q10; have A10 : Hid (AT v10 s z y0 y1 y2) := t10 _ _ _ _ A9.out; clear q10 t10 P9 A9))
        go_wp2
        go_roundw
        case rel => exact ⟨k + 1, l2, h2, by omega, by omega, P10.out.sm ⟨rfl, rfl, rfl, rfl⟩, by go_num⟩
        case measure => simp [intOf]; omega

set_option maxRecDepth 100000 in
theorem lifted (os : Os) (started : os.Started) (H : Type) (enc : TypeId × Value → H) :
    ReturnsInHanded {} Try.checked os 6 .any (Rows.stopPlaysSpec.pre6 enc Try.prog Try.f6 Rows.stopPlaysRow.domain false) (Rows.stopPlaysSpec.post enc Try.prog Try.f6 false true false false) := by
  refine returnsInHanded_of_change (C := Try.checked) own started (by kernel_rfl) Try.func6
    (ChangeSpec.witness6 (enc := enc) (C := Try.checked) false ⟨#[], #[.slice none 0 0], []⟩ 8 (by kernel_rfl) (by kernel_rfl) (by kernel_rfl) (by kernel_rfl)) ?_
  intro W base args ds gs before hval0 hW hcnd _
  have hval : ∀ (j : Nat) t v, Try.f6.params[j]? = some t → args[j]? = some v → Value.okWide Try.prog W .any base t v := hval0
  have hW' := hW
  obtain ⟨p, q, hA0, hV, rfl, hfz, hnd⟩ := hW
  have hA : DataW.TrodAll enc Try.prog W 0 (fun _ => true) true Try.f6.params.toList args.toList ds p := hA0
  rw [Try.params6] at hA hval
  obtain ⟨v0, vs0, d0, ds0, p0, q0, hargs, rfl, rfl, h0, r0⟩ := trodAll_cons hA
  obtain ⟨rfl, rfl, rfl⟩ := trodAll_nil r0
  obtain rfl : args = #[v0] := by cases args; simp_all
  obtain ⟨rfl, rfl⟩ := trodVars_none hV
  obtain ⟨a0, len0, cap0, rfl⟩ := okWide_slice Try.underlying44 (hval 0 44 v0 rfl rfl)
  have k0 := h0
  have lt0 : ∀ x ∈ p0, x.block < W.heap.size := by obtain ⟨m, hm⟩ := k0; exact DataW.trod_lt m _ _ _ hm
  obtain ⟨X0, w0, z0⟩ : ∃ X : Nat → Nat → Int, TRow W (.slice a0 len0 cap0) len0 [1, 1, 2] X ∧ ∀ i, i < len0 → ∀ j, j < [1, 1, 2].length → kwf ([1, 1, 2].getD j 1) (X i j) := by
    obtain ⟨fuel, hf⟩ := h0
    exact open_recx [1, 1, 2] Try.underlying44 Try.underlying54 (by kernel_rfl) rfl (by decide) (fun | 0, _ => ⟨_, rfl, rfl, by kernel_rfl, Try.underlying3⟩ | 1, _ => ⟨_, rfl, rfl, by kernel_rfl, Try.underlying3⟩ | 2, _ => ⟨_, rfl, rfl, by kernel_rfl, Try.underlying46⟩ | n + 3, h => absurd h (by simp only [List.length]; omega)) hf
  clear hA0 hval0
  refine (walk a0 len0 cap0 X0 W w0 z0).mono fun e W' ⟨he, bel⟩ => ?_
  subst he
  exact ⟨_, rfl, _, _, _, [], _, [], hW', trodAll_mk1 (shut_bool Try.underlying4 _), (trodAll_cons_mk (Below.trod laidOut (by kernel_rfl) (of_decide_eq_true (by kernel_rfl)) k0 bel lt0) trodAll_mk0), rfl, bel.frame _, fun h => by cases h⟩

theorem over : Rows.StopPlaysSaid :=
  OpenClaim.holds_of_wide 6 Try.f6 rfl rfl rfl rfl rfl rfl rfl ⟨rfl, rfl, rfl, rfl, rfl⟩ rfl rfl rfl rfl rfl (by kernel_rfl) Try.func6 (by kernel_rfl)
    (of_decide_eq_true (by kernel_rfl)) (by unfold Func.isWrapper; first | (rw [if_pos (by decide +kernel)]; kernel_rfl) | (rw [if_neg (by decide +kernel)]; exact ⟨rfl, rfl⟩))
    (fun os started H enc _ => lifted os started H enc)
end Go.Proofs.Ytbmdfoohabipjaa.stopPlays

namespace Go.Proofs.Ytbmdfoohabipjaa
open Go
theorem stopPlays_holds : Rows.StopPlaysSaid := stopPlays.over
#print axioms stopPlays_holds
end Go.Proofs.Ytbmdfoohabipjaa
