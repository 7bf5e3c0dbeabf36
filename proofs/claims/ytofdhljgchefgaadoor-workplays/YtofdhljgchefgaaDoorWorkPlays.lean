/- Proved: for every number cpus and every list acts, davitlaw17.WorkPlays(cpus, acts) returns true: lists of works of any number of cores that are played with answer what the document says: each answer, where a work is, whether it is queued, the lists and how many they have (120 acts at most, as the law itself says), and acts is left alone; no condition but that the listed table is as the program's text lays it, which the card ties. -/
import Derived.Test.YtofdhljgchefgaaDoorRows
import Derived.Test.YtofdhljgchefgaaDoorTie
import Derived.Test.YtofdhljgchefgaaDoorCards
import Derived.Test.YtofdhljgchefgaaDoorMv
import Derived.Test.YtofdhljgchefgaaDoorFo
import Derived.Test.YtofdhljgchefgaaDoorGu
import Derived.WalkKit
import Derived.ProofKit
import Derived.OpenShut
import Derived.Stop.Joined
import Derived.ShutString
import Derived.ChangeOld
import Derived.Below
import Derived.Carry
import Derived.LaidMore
import Derived.SevenTiedAt
import Derived.Test.YtofdhljgchefgaaDoorFs
import Derived.Deep.RegionHeld3
namespace Go.Proofs.YtofdhljgchefgaaDoor.workPlays
open Go.ChangeShapes Go.WideShapes Go.ChangeAt Go.RowKit
open Mm Fm Sl Cm
set_option linter.unusedVariables false
set_option linter.unusedSimpArgs false

set_option maxRecDepth 100000 in
set_option maxHeartbeats 16000000 in
theorem walk (a0 : Int) (a1 : Option Addr) (len1 cap1 : Nat) (X1 : Nat → Nat → Int) (w : World) (w0 : (Lit.int .i64 a0).wf = true) (w1 : SRow w (.slice a1 len1 cap1) len1 [true, true, true] X1) (z1 : ∀ i, i < len1 → ∀ j, j < [true, true, true].length → [true, true, true].getD j true = true → (Lit.int .i64 (X1 i j)).wf = true) (ht : Tab w) (hs : 0 < w.heap.size) :
    Calls Tryd.prog 3 #[.int .i64 a0, .slice a1 len1 cap1] w fun e w' => e = .returned (.bool true) ∧ Below w.heap.size w w' := by
  have KN : Hid (∀ w1, Below w.heap.size w w1 → _) := fun w1 b => gknown_yes w1 (ht.keep hs (by simp) (Fr.of_below b)) (by have := b.size; omega)
  by_cases wrong : a0 < 1 ∨ 64 < a0
  · have C : Hid (∀ w, _) := fun w => gnew_bad a0 w wrong
    have D : Hid (∀ w, _) := fun w => rgnew_bad a0 w wrong
    clear wrong w0 w1 z1 ht hs
    go_enter Tryd.func3, Tryd.ntmps3
    go_wp2_with fail
    refine (C.out _).mono ?_
    rintro e u1 ⟨rfl, rfl⟩
    go_wp2_with fail
    refine (D.out _).mono ?_
    rintro e u2 ⟨rfl, rfl⟩
    go_wp2_with fail
    refine (KN.out _ (Below.refl _ _)).mono ?_
    rintro e u3 ⟨rfl, hb⟩
    go_wp2
    go_ret
    exact ⟨rfl, hb⟩
  · obtain ⟨n, rfl⟩ := Int.eq_ofNat_of_zero_le (show 0 ≤ a0 by omega)
    have m1 : (1 : Int) ≤ n := by omega
    have m2 : (n : Int) ≤ 64 := by omega
    have C : Hid (∀ _ : Unit, _) := fun _ => gnew_any n w m1 m2
    have D : Hid (∀ w1, _) := fun w1 => rgnew_any n w1 m1 m2
    have HR : Hid (SRow w (.slice a1 len1 cap1) len1 [true, true, true] X1) := w1
    have HWF : Hid (∀ i, i < len1 → (Lit.int .i64 (X1 i 2)).wf = true) := fun i hi => z1 i hi 2 (by decide) rfl
    have HT : Hid (Tab w ∧ 0 < w.heap.size) := ⟨ht, hs⟩
    obtain ⟨s, hsz⟩ : ∃ s, w.heap.size = s := ⟨_, rfl⟩
    have HS : Hid (w.heap.size = s) := hsz
    rw [hsz] at C KN HT ⊢
    clear wrong w0 w1 z1 hsz ht hs
    go_enter Tryd.func3, Tryd.ntmps3
    go_wp2_with fail
    refine (C.out ()).mono ?_
    rintro e u1 ⟨rfl, q1, f1⟩
    have Q1 : Hid (GX u1 s n (List.replicate (n + 1) [])) := q1
    have B1 : Hid (Below s w u1) := f1
    have D1 : Hid (∀ _ : Unit, _) := fun _ => D.out u1
    have hi1 : Hid (s + (7 + 2 * n) ≤ u1.heap.size) := q1.hi
    clear q1 f1
    go_wp2_with fail
    refine (D1.out ()).mono ?_
    rintro e u2 ⟨rfl, r2, f2⟩
    have PP0 : Hid (GZ w u2 s (u1.heap.size + 1) u1.heap.size n (List.replicate (n + 1) []) (List.replicate (n + 1) [])) := ⟨Q1.out.below f2, ⟨_, r2, by have := hi1.out; omega, hi1.out, fun g hg => (bl_nil _ g hg).elim⟩, al_nil _, by simp, B1.out.trans (f2.mono (by have := hi1.out; omega)), HT.out.1, HT.out.2⟩
    clear r2 f2
    generalize u1.heap.size = lb at *
    generalize hb : lb + 1 = b at *
    clear Q1 B1 D1 hi1 hb
    go_wp2
    go_loopw [9] (fun i wr => ∃ (k : Nat) (K : Ks), (k : Int) ≤ 120 ∧ (k : Int) ≤ len1 ∧ GZ w wr s b lb n K K ∧ i = .int .i64 k) (fun i _ => 120 - (intOf i).toNat)
    case atStart => exact ⟨0, _, by omega, by omega, PP0.out, rfl⟩
    case round =>
      obtain ⟨k, K, hk, hk2, q, rfl⟩ := hrel
      clear PP0
      have HB : Hid (Below s w wr) := q.bel
      have hz : s ≤ wr.heap.size := by have := q.hi; omega
      have tail : (¬ (k : Int) < len1 ∧ decide ((k : Int) < len1) = false) ∨ ((k : Int) < len1 ∧ ¬ (k : Int) < 120) ∨ ((k : Int) < len1 ∧ (k : Int) < 120) := by
        by_cases h : (k : Int) < len1
        · by_cases h2 : (k : Int) < 120
          · exact Or.inr (Or.inr ⟨h, h2⟩)
          · exact Or.inr (Or.inl ⟨h, h2⟩)
        · exact Or.inl ⟨h, decide_eq_false h⟩
      rw [← or_assoc] at tail
      rcases tail with tail | ⟨h, h2⟩
      · clear q
        rcases tail with ⟨h, hd⟩ | ⟨h, h2⟩
        all_goals (
          go_wp2_with fail
          refine (KN.out _ HB.out).mono ?_
          rintro e w4 ⟨rfl, f4⟩
          go_wp2
          go_ret
          exact ⟨rfl, HB.out.trans (f4.mono hz)⟩)
      · obtain ⟨b0, off, rfl, hA⟩ := srow_cell (wr := wr) HR.out (by rw [HS.out]; exact q.bel) h
        have x0 : wr.cell? ⟨b0, off + k * 3, none⟩ = some (.int .i64 (X1 k 0)) := hA 0 (by simp)
        have x1 : wr.cell? ⟨b0, off + k * 3 + 1, none⟩ = some (.int .i64 (X1 k 1)) := hA 1 (by simp)
        have x2 : wr.cell? ⟨b0, off + k * 3 + 2, none⟩ = some (.int .i64 (X1 k 2)) := hA 2 (by simp)
        have HW : Hid ((Lit.int .i64 (X1 k 2)).wf = true) := HWF.out k (by omega)
        clear hA
        generalize X1 k 0 = y0 at *
        generalize X1 k 1 = y1 at *
        generalize X1 k 2 = y2 at *
        have q0 : GZ w (wr.alloc (.cells #[.int .i64 y0, .int .i64 y1, .int .i64 y2] 32)) s b lb n K K ∧ AW (wr.alloc (.cells #[.int .i64 y0, .int .i64 y1, .int .i64 y2] 32)) s n wr.heap.size y0 y1 y2 := ⟨q.keep ((Below.refl _ _).alloc (Nat.le_refl _) _), Blk.new wr [.int .i64 y0, .int .i64 y1, .int .i64 y2] _, q.hi⟩
        obtain ⟨z, hzz⟩ : ∃ z, wr.heap.size = z := ⟨_, rfl⟩
        have HZZ : Hid (wr.heap.size = z) := hzz
        obtain ⟨u0, hu0⟩ : ∃ u0, wr.alloc (.cells #[.int .i64 y0, .int .i64 y1, .int .i64 y2] 32) = u0 := ⟨_, rfl⟩
        have HU0 : Hid (wr.alloc (.cells #[.int .i64 y0, .int .i64 y1, .int .i64 y2] 32) = u0) := hu0
        rw [hu0, hzz] at q0
        have DO : Hid (∀ w1, Sm w1 u0 → _) := fun w1 e => gz_do y0 y1 y2 HW.out q0.1 (w1 := w1) e
        have A0 : Hid (AW u0 s n z y0 y1 y2) := q0.2
        obtain ⟨i0, i1, i2⟩ := q0.2.cells
        clear q q0 hu0 hzz
        go_wp2_with fail
        rw [HU0.out]
        refine (DO.out _ ⟨rfl, rfl, rfl, rfl⟩).mono ?_
        rintro e v1 ⟨rfl, K2, q1, t1⟩
        rw [HZZ.out]
        have a1 := t1 _ _ _ _ A0.out
        obtain ⟨k0, k1, k2⟩ := a1.cells
        have P1 : Hid (GZ w v1 s b lb n K2 K2) := q1
        have A1 : Hid (AW v1 s n z y0 y1 y2) := a1
        clear q1 t1 a1 DO A0 i0 i1 i2 x0 x1 x2 HU0 HZZ
        obtain ⟨wn, hwn⟩ : ∃ wn, whN n K2 y2 = wn := ⟨_, rfl⟩
        obtain ⟨hb, hhb⟩ : ∃ hb, haB K2 y2 = hb := ⟨_, rfl⟩
        have HN : Hid (whN n K2 y2 = wn) := hwn
        have HH : Hid (haB K2 y2 = hb) := hhb
        have n1 : (wn != wn) = false := by simp
        have n2 : (hb != hb) = false := by simp
        obtain ⟨l1, hl1⟩ : ∃ l1, (wlL n K2 y1).length = l1 := ⟨_, rfl⟩
        obtain ⟨l2, hl2⟩ : ∃ l2, (wlL n K2 (-1)).length = l2 := ⟨_, rfl⟩
        have H1 : Hid ((wlL n K2 y1).length = l1) := hl1
        have H2 : Hid ((wlL n K2 (-1)).length = l2) := hl2
        have n4 : ((l1 : Int) != (l1 : Int)) = false := by simp
        clear hwn hhb hl1 hl2
        go_wp2_with fail
        refine (gz_where y2 HW.out P1.out ⟨rfl, rfl, rfl, rfl⟩).mono ?_
        rintro e v2 ⟨rfl, q2, t2⟩
        rw [HN.out, HH.out]
        have a2 := t2 _ _ _ _ A1.out
        obtain ⟨r20, r21, r22⟩ := a2.cells
        have P2 : Hid (GZ w v2 s b lb n K2 K2) := q2
        have A2 : Hid (AW v2 s n z y0 y1 y2) := a2
        clear q2 t2 a2 P1 A1 k0 k1 k2
        go_wp2_with fail
        refine (gz_rwhere y2 P2.out ⟨rfl, rfl, rfl, rfl⟩).mono ?_
        rintro e v3 ⟨rfl, q3, t3⟩
        rw [HN.out, HH.out]
        have a3 := t3 _ _ _ _ A2.out
        obtain ⟨r30, r31, r32⟩ := a3.cells
        have P3 : Hid (GZ w v3 s b lb n K2 K2) := q3
        have A3 : Hid (AW v3 s n z y0 y1 y2) := a3
        clear q3 t3 a3 P2 A2 r20 r21 r22
        go_wp2_with fail
        go_region_held3 (fun w' => w'.cell? ⟨z, 1, none⟩ = some (.int .i64 y1) ∧ w'.cell? ⟨z, 2, none⟩ = some (.int .i64 y2)) (go_keep)
          (first | (go_at_call 15; refine (gz_has y2 HW.out P3.out ?_).mono ?_; exact ⟨rfl, rfl, rfl, rfl⟩; rintro e v4 ⟨rfl, q4, t4⟩; rw [HH.out]; have a4 := t4 _ _ _ _ A3.out; obtain ⟨r40, r41, r42⟩ := a4.cells; have P4 : Hid (GZ w v4 s b lb n K2 K2) := q4; have A4 : Hid (AW v4 s n z y0 y1 y2) := a4; clear q4 t4 a4 P3 A3) | (go_at_call 17; refine (gz_list y1 P4.out ?_).mono ?_; exact ⟨rfl, rfl, rfl, rfl⟩; rintro e v5 ⟨xa5, xc5, rfl, q5, t5, w5⟩; rw [H1.out] at w5 ⊢; have W5 : Hid (Row v5 (.slice xa5 l1 xc5) (wlL n K2 y1)) := w5; clear w5; have a5 := t5 _ _ _ _ A4.out; obtain ⟨r50, r51, r52⟩ := a5.cells; have P5 : Hid (GZ w v5 s b lb n K2 K2) := q5; have A5 : Hid (AW v5 s n z y0 y1 y2) := a5; clear q5 t5 a5 P4 A4) | (go_at_call 18; refine (gz_rlist y1 P5.out ?_).mono ?_; exact ⟨rfl, rfl, rfl, rfl⟩; rintro e v6 ⟨xa6, xc6, rfl, q6, t6, w6, o6⟩; rw [H1.out] at w6 ⊢; have W6 : Hid (Row v6 (.slice xa6 l1 xc6) (wlL n K2 y1)) := w6; have O6 : Hid (Row v6 (.slice xa5 l1 xc5) (wlL n K2 y1)) := o6 _ _ W5.out; clear w6 o6; have a6 := t6 _ _ _ _ A5.out; obtain ⟨r60, r61, r62⟩ := a6.cells; have P6 : Hid (GZ w v6 s b lb n K2 K2) := q6; have A6 : Hid (AW v6 s n z y0 y1 y2) := a6; clear q6 t6 a6 P5 A5) | (go_at_call 16; refine (gz_ints y1 P6.out O6.out W6.out ?_).mono ?_; exact ⟨rfl, rfl, rfl, rfl⟩; rintro e v7 ⟨rfl, q7, t7⟩; have a7 := t7 _ _ _ _ A6.out; obtain ⟨r70, r71, r72⟩ := a7.cells; have P7 : Hid (GZ w v7 s b lb n K2 K2) := q7; have A7 : Hid (AW v7 s n z y0 y1 y2) := a7; clear q7 t7 a7 P6 A6) | (go_at_call 17; refine (gz_list (-1) P7.out ?_).mono ?_; exact ⟨rfl, rfl, rfl, rfl⟩; rintro e v8 ⟨xa8, xc8, rfl, q8, t8, w8⟩; rw [H2.out] at w8 ⊢; have W8 : Hid (Row v8 (.slice xa8 l2 xc8) (wlL n K2 (-1))) := w8; clear w8; have a8 := t8 _ _ _ _ A7.out; obtain ⟨r80, r81, r82⟩ := a8.cells; have P8 : Hid (GZ w v8 s b lb n K2 K2) := q8; have A8 : Hid (AW v8 s n z y0 y1 y2) := a8; clear q8 t8 a8 P7 A7) | (go_at_call 18; refine (gz_rlist (-1) P8.out ?_).mono ?_; exact ⟨rfl, rfl, rfl, rfl⟩; rintro e v9 ⟨xa9, xc9, rfl, q9, t9, w9, o9⟩; rw [H2.out] at w9 ⊢; have W9 : Hid (Row v9 (.slice xa9 l2 xc9) (wlL n K2 (-1))) := w9; have O9 : Hid (Row v9 (.slice xa8 l2 xc8) (wlL n K2 (-1))) := o9 _ _ W8.out; clear w9 o9; have a9 := t9 _ _ _ _ A8.out; obtain ⟨r90, r91, r92⟩ := a9.cells; have P9 : Hid (GZ w v9 s b lb n K2 K2) := q9; have A9 : Hid (AW v9 s n z y0 y1 y2) := a9; clear q9 t9 a9 P8 A8) | (go_at_call 16; refine (gz_ints (-1) P9.out O9.out W9.out ?_).mono ?_; exact ⟨rfl, rfl, rfl, rfl⟩; rintro e v10 ⟨rfl, q10, t10⟩; have a10 := t10 _ _ _ _ A9.out; obtain ⟨r100, r101, r102⟩ := a10.cells; have P10 : Hid (GZ w v10 s b lb n K2 K2) := q10; have A10 : Hid (AW v10 s n z y0 y1 y2) := a10; clear q10 t10 a10 P9 A9) | (go_at_call 19; refine (gz_load y1 P10.out ?_).mono ?_; exact ⟨rfl, rfl, rfl, rfl⟩; rintro e v11 ⟨rfl, q11, t11⟩; rw [H1.out]; have a11 := t11 _ _ _ _ A10.out; obtain ⟨r110, r111, r112⟩ := a11.cells; have P11 : Hid (GZ w v11 s b lb n K2 K2) := q11; have A11 : Hid (AW v11 s n z y0 y1 y2) := a11; clear q11 t11 a11 P10 A10) | (go_at_call 18; refine (gz_rlist y1 P11.out ?_).mono ?_; exact ⟨rfl, rfl, rfl, rfl⟩; rintro e v12 ⟨xa12, xc12, rfl, q12, t12, -, -⟩; rw [H1.out]; have a12 := t12 _ _ _ _ A11.out; obtain ⟨r120, r121, r122⟩ := a12.cells; have P12 : Hid (GZ w v12 s b lb n K2 K2) := q12; have A12 : Hid (AW v12 s n z y0 y1 y2) := a12; clear q12 t12 a12 P11 A11))
        go_wp2
        go_roundw
        case rel => exact ⟨k + 1, K2, by omega, by omega, P12.out.sm ⟨rfl, rfl, rfl, rfl⟩, by go_num⟩
        case measure => simp [intOf]; omega

set_option maxRecDepth 100000 in
theorem lifted (os : Os) (started : os.Started) (H : Type) (enc : TypeId × Value → H) :
    ReturnsInHanded {} Tryd.checked os 3 .any (fun w args => (Rows.workPlaysSpec.pre enc Tryd.prog Tryd.f3 [] false w args ∧ laidMetH Tryd.prog laidTab w) ∧ sizedMet enc Tryd.prog Tryd.f3 (OpenSpec.ofChange Rows.workPlaysSpec) false w args)
      (Rows.workPlaysSpec.post enc Tryd.prog Tryd.f3 false true false false) := by
  refine returnsInHanded_of_change_and (C := Tryd.checked) (X := fun w _ => laidMetH Tryd.prog laidTab w) (fun _ _ _ hh h => h.of_heap hh) own started (by kernel_rfl) Tryd.func3
    (ChangeSpec.witness_shaped (enc := enc) (C := Tryd.checked) (os := os) (X := fun w _ => laidMetH Tryd.prog laidTab w) false (World.doorLaid Tryd.prog 400 os) #[.int .i64 0, .slice none 0 0] 8 rfl (World.shaped_of_RefB (by kernel_rfl) (by kernel_rfl)) (by kernel_rfl) (by kernel_rfl) (by kernel_rfl) (door_met os _)) ?_
  intro W base args ds gs before hval0 hW _ _ hL _
  have hval : ∀ (j : Nat) t v, Tryd.f3.params[j]? = some t → args[j]? = some v → Value.okWide Tryd.prog W .any base t v := hval0
  have hW' := hW
  obtain ⟨p, q, hA0, hV, rfl, hfz, hnd⟩ := hW
  have hA : DataW.TrodAll enc Tryd.prog W 0 (fun _ => true) true Tryd.f3.params.toList args.toList ds p := hA0
  rw [Tryd.params3] at hA hval
  obtain ⟨v0, vs0, d0, ds0, p0, q0, hargs, rfl, rfl, h0, r0⟩ := trodAll_cons hA
  obtain ⟨v1, vs1, d1, ds1, p1, q1, rfl, rfl, rfl, h1, r1⟩ := trodAll_cons r0
  obtain ⟨rfl, rfl, rfl⟩ := trodAll_nil r1
  obtain rfl : args = #[v0, v1] := by cases args; simp_all
  obtain ⟨rfl, rfl⟩ := trodVars_none hV
  obtain ⟨a0, rfl, rfl, rfl, w0⟩ := open_int Tryd.underlying3 (hval 0 3 v0 rfl rfl) h0
  obtain ⟨a1, len1, cap1, rfl⟩ := okWide_slice Tryd.underlying22 (hval 1 22 v1 rfl rfl)
  have k1 := h1
  have lt1 : ∀ x ∈ p1, x.block < W.heap.size := by obtain ⟨m, hm⟩ := k1; exact DataW.trod_lt m _ _ _ hm
  obtain ⟨X1, w1, z1⟩ : ∃ X : Nat → Nat → Int, SRow W (.slice a1 len1 cap1) len1 [true, true, true] X ∧ ∀ i, i < len1 → ∀ j, j < [true, true, true].length → [true, true, true].getD j true = true → (Lit.int .i64 (X i j)).wf = true := by
    obtain ⟨fuel, hf⟩ := h1
    exact open_recs [true, true, true] Tryd.underlying22 Tryd.underlying32 (by kernel_rfl) rfl (by decide) (fun | 0, _ => ⟨_, rfl, rfl, by kernel_rfl, Tryd.underlying3⟩ | 1, _ => ⟨_, rfl, rfl, by kernel_rfl, Tryd.underlying3⟩ | 2, _ => ⟨_, rfl, rfl, by kernel_rfl, Tryd.underlying3⟩ | n + 3, h => absurd h (by simp only [List.length]; omega)) hf
  obtain ⟨hT, hS⟩ := of_laid hL
  clear hA0 hval0
  refine (walk a0 a1 len1 cap1 X1 W w0 w1 z1 hT hS).mono fun e W' ⟨he, bel⟩ => ?_
  subst he
  exact ⟨_, rfl, _, _, _, [], _, [], hW', trodAll_mk1 (shut_bool Tryd.underlying4 _), (trodAll_cons_mk (shut_int Tryd.underlying3 w0) (trodAll_cons_mk (Below.trod laidOut (by kernel_rfl) (of_decide_eq_true (by kernel_rfl)) k1 bel lt1) trodAll_mk0)), rfl, bel.frame _, fun h => by cases h⟩

theorem over : Rows.WorkPlaysSaid :=
  OpenClaim.holds_of_wide 3 Tryd.f3 rfl rfl rfl rfl rfl rfl rfl ⟨rfl, rfl, rfl, rfl, rfl⟩ rfl rfl rfl rfl rfl (by kernel_rfl) Tryd.func3 (by kernel_rfl)
    (of_decide_eq_true (by kernel_rfl)) (by unfold Func.isWrapper; first | (rw [if_pos (by decide +kernel)]; kernel_rfl) | (rw [if_neg (by decide +kernel)]; exact ⟨rfl, rfl⟩))
    (fun os started H enc _ => lifted os started H enc)
end Go.Proofs.YtofdhljgchefgaaDoor.workPlays

namespace Go.Proofs.YtofdhljgchefgaaDoor
open Go
theorem workPlays_card : Rows.WorkPlaysCardSaid :=
  Claim7.holds_tied_plain_at .later [] [.data] true (true, "c2ca43f4ea73c02762d5147dd1f7580f6374eb27a6182fd3484bba9f58af2859") false
    workPlays.over (fun _ h => by cases h) (by kernel_rfl) (fun _ h => by cases h) workPlays_row_tie rfl ⟨rfl, rfl⟩ (by kernel_rfl) rfl
    (fun f fn hf hfn => by
      obtain rfl : f = 3 := Option.some.inj ((show Tryd.prog.funcNamed "davit/davitlaw17.WorkPlays" = some 3 by kernel_rfl).symm.trans hf) |>.symm
      obtain rfl : fn = Tryd.f3 := (Option.some.inj (Tryd.func3.symm.trans hfn)).symm
      exact ⟨by kernel_rfl, fun j t ht => by
        rw [Tryd.params3] at ht
        have hm : t ∈ [3, 22] := by simpa using Array.mem_of_getElem? ht
        have hall : ([3, 22].all fun u => !Tryd.prog.wantsStandIn u) = true := by kernel_rfl
        exact (show Tryd.prog.wantsStandIn t = false by simpa using List.all_eq_true.1 hall t hm)⟩)
    (by kernel_rfl)
#print axioms workPlays_card
end Go.Proofs.YtofdhljgchefgaaDoor
