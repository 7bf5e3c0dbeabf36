/- Proved: for every number cpus and every list acts, davitlaw18.CallPlays(cpus, acts) returns true: boxes of any number of cores that are played with answer what the document says: each answer, whether there is a call, how many a core has and which (120 acts at most, as the law itself says), and acts is left alone; no condition but that the listed table is as the program's text lays it, which the card ties. -/
import Derived.Test.YtofdhljgchefgaaDoorRows
import Derived.Test.YtofdhljgchefgaaDoorTie
import Derived.Test.YtofdhljgchefgaaDoorCards
import Derived.Test.YtofdhljgchefgaaDoorMv
import Derived.Test.YtofdhljgchefgaaDoorFo
import Derived.Test.YtofdhljgchefgaaDoorJt
import Derived.WalkKit
import Derived.ProofKit
import Derived.OpenShut
import Derived.Stop.Joined
import Derived.ShutString
import Derived.ChangeOld
import Derived.Below
import Derived.Carry
import Derived.LaidMore
import Derived.SevenTiedAt
import Derived.Test.YtofdhljgchefgaaDoorFs
import Derived.Deep.DeepCutAuto
import Derived.Deep.CutBlock
import Derived.Deep.RegionHeld3
namespace Go.Proofs.YtofdhljgchefgaaDoor.callPlays
open Go.ChangeShapes Go.WideShapes Go.ChangeAt Go.RowKit
open Mm Fm Sl Cm
set_option linter.unusedVariables false
set_option linter.unusedSimpArgs false

set_option maxRecDepth 100000 in
set_option maxHeartbeats 16000000 in
theorem walk (a0 : Int) (a1 : Option Addr) (len1 cap1 : Nat) (X1 : Nat → Nat → Int) (w : World) (w0 : (Lit.int .i64 a0).wf = true) (w1 : SRow w (.slice a1 len1 cap1) len1 [true, true, true, true] X1) (z1 : ∀ i, i < len1 → ∀ j, j < [true, true, true, true].length → [true, true, true, true].getD j true = true → (Lit.int .i64 (X1 i j)).wf = true) (ht : Tab w) (hs : 0 < w.heap.size) :
    Calls Tryd.prog 6 #[.int .i64 a0, .slice a1 len1 cap1] w fun e w' => e = .returned (.bool true) ∧ Below w.heap.size w w' := by
  have KN : Hid (∀ w1, Below w.heap.size w w1 → _) := fun w1 b => cknown_yes w1 (ht.keep hs (by simp) (Fr.of_below b)) (by have := b.size; omega)
  by_cases wrong : a0 < 1 ∨ 64 < a0
  · have C : Hid (∀ w, _) := fun w => cnew_bad a0 w wrong
    have D : Hid (∀ w, _) := fun w => rcnew_bad a0 w wrong
    clear wrong w0 w1 z1 ht hs
    go_enter Tryd.func6, Tryd.ntmps6
    go_wp2_with fail
    refine (C.out _).mono ?_
    rintro e u1 ⟨rfl, rfl⟩
    go_wp2_with fail
    refine (D.out _).mono ?_
    rintro e u2 ⟨rfl, rfl⟩
    go_wp2_with fail
    refine (KN.out _ (Below.refl _ _)).mono ?_
    rintro e u3 ⟨rfl, hb⟩
    go_wp2
    go_ret
    exact ⟨rfl, hb⟩
  · obtain ⟨p, rfl⟩ := Int.eq_ofNat_of_zero_le (show 0 ≤ a0 by omega)
    have m1 : (1 : Int) ≤ p := by omega
    have m2 : (p : Int) ≤ 64 := by omega
    have C : Hid (∀ _ : Unit, _) := fun _ => cnew_any p w m1 m2
    have D : Hid (∀ w1, _) := fun w1 => rcnew_any p w1 m1 m2
    have HR : Hid (SRow w (.slice a1 len1 cap1) len1 [true, true, true, true] X1) := w1
    have HT : Hid (Tab w ∧ 0 < w.heap.size) := ⟨ht, hs⟩
    obtain ⟨s, hsz⟩ : ∃ s, w.heap.size = s := ⟨_, rfl⟩
    have HS : Hid (w.heap.size = s) := hsz
    rw [hsz] at C KN HT ⊢
    clear wrong w0 w1 z1 hsz ht hs
    go_enter Tryd.func6, Tryd.ntmps6
    go_wp2_with fail
    refine (C.out ()).mono ?_
    rintro e u1 ⟨rfl, q1, f1⟩
    have Q1 : Hid (CX u1 s (List.replicate p [])) := q1
    have B1 : Hid (Below s w u1) := f1
    have D1 : Hid (∀ _ : Unit, _) := fun _ => D.out u1
    have hi1 : Hid (s + (4 + 2 * p) ≤ u1.heap.size) := by have := q1.hi; rw [List.length_replicate] at this; exact this
    clear q1 f1
    go_wp2_with fail
    refine (D1.out ()).mono ?_
    rintro e u2 ⟨rfl, r2, f2⟩
    have PP0 : Hid (CZ w u2 s (u1.heap.size + 1) u1.heap.size p (List.replicate p []) (List.replicate p [])) := ⟨Q1.out.below f2, ⟨_, r2, by have := hi1.out; omega, hi1.out, fun g hg => (bl_nil p g hg).elim⟩, al_nil p, ⟨by simp, by simp⟩, B1.out.trans (f2.mono (by have := hi1.out; omega)), HT.out.1, HT.out.2⟩
    clear r2 f2
    generalize u1.heap.size = lb at *
    generalize hb : lb + 1 = b at *
    clear Q1 B1 D1 hi1 hb
    go_wp2
    go_loopw [9] (fun i wr => ∃ (k : Nat) (K : Ks), (k : Int) ≤ 120 ∧ (k : Int) ≤ len1 ∧ CZ w wr s b lb p K K ∧ i = .int .i64 k) (fun i _ => 120 - (intOf i).toNat)
    case atStart => exact ⟨0, _, by omega, by omega, PP0.out, rfl⟩
    case round =>
      obtain ⟨k, K, hk, hk2, q, rfl⟩ := hrel
      clear PP0
      have HB : Hid (Below s w wr) := q.bel
      have hz : s ≤ wr.heap.size := by have := q.hi; omega
      have tail : (¬ (k : Int) < len1 ∧ decide ((k : Int) < len1) = false) ∨ ((k : Int) < len1 ∧ ¬ (k : Int) < 120) ∨ ((k : Int) < len1 ∧ (k : Int) < 120) := by
        by_cases h : (k : Int) < len1
        · by_cases h2 : (k : Int) < 120
          · exact Or.inr (Or.inr ⟨h, h2⟩)
          · exact Or.inr (Or.inl ⟨h, h2⟩)
        · exact Or.inl ⟨h, decide_eq_false h⟩
      rw [← or_assoc] at tail
      rcases tail with tail | ⟨h, h2⟩
      · clear q
        rcases tail with ⟨h, hd⟩ | ⟨h, h2⟩
        all_goals (
          go_wp2_with fail
          refine (KN.out _ HB.out).mono ?_
          rintro e w4 ⟨rfl, f4⟩
          go_wp2
          go_ret
          exact ⟨rfl, HB.out.trans (f4.mono hz)⟩)
      · obtain ⟨b0, off, rfl, hA⟩ := srow_cell (wr := wr) HR.out (by rw [HS.out]; exact q.bel) h
        have x0 : wr.cell? ⟨b0, off + k * 4, none⟩ = some (.int .i64 (X1 k 0)) := hA 0 (by simp)
        have x1 : wr.cell? ⟨b0, off + k * 4 + 1, none⟩ = some (.int .i64 (X1 k 1)) := hA 1 (by simp)
        have x2 : wr.cell? ⟨b0, off + k * 4 + 2, none⟩ = some (.int .i64 (X1 k 2)) := hA 2 (by simp)
        have x3 : wr.cell? ⟨b0, off + k * 4 + 3, none⟩ = some (.int .i64 (X1 k 3)) := hA 3 (by simp)
        clear hA
        generalize X1 k 0 = y0 at *
        generalize X1 k 1 = y1 at *
        generalize X1 k 2 = y2 at *
        generalize X1 k 3 = y3 at *
        have q0 : CZ w (wr.alloc (.cells #[.int .i64 y0, .int .i64 y1, .int .i64 y2, .int .i64 y3] 54)) s b lb p K K ∧ AC (wr.alloc (.cells #[.int .i64 y0, .int .i64 y1, .int .i64 y2, .int .i64 y3] 54)) s p wr.heap.size y0 y1 y2 y3 := ⟨q.keep ((Below.refl _ _).alloc (Nat.le_refl _) _), Blk.new wr [.int .i64 y0, .int .i64 y1, .int .i64 y2, .int .i64 y3] _, q.hi⟩
        obtain ⟨z, hzz⟩ : ∃ z, wr.heap.size = z := ⟨_, rfl⟩
        have HZZ : Hid (wr.heap.size = z) := hzz
        obtain ⟨u0, hu0⟩ : ∃ u0, wr.alloc (.cells #[.int .i64 y0, .int .i64 y1, .int .i64 y2, .int .i64 y3] 54) = u0 := ⟨_, rfl⟩
        have HU0 : Hid (wr.alloc (.cells #[.int .i64 y0, .int .i64 y1, .int .i64 y2, .int .i64 y3] 54) = u0) := hu0
        rw [hu0, hzz] at q0
        have Q0 : Hid (CZ w u0 s b lb p K K) := q0.1
        have A0 : Hid (AC u0 s p z y0 y1 y2 y3) := q0.2
        obtain ⟨i0, i1, i2, i3⟩ := q0.2.cells
        clear q q0 hu0 hzz
        go_upto_block 2 with (fail)
        rw [HU0.out, HZZ.out]
        go_cut [9, 10, 11, 12, 13, 14] (fun i pa vx vy vg vh wx => i = .int .i64 k ∧ pa = .pointer (some ⟨z, 0, none⟩) ∧ ∃ (K2 : Ks) (nn ee : Int), vx = .int .i64 nn ∧ vy = .int .i64 nn ∧ vg = .int .i64 ee ∧ vh = .int .i64 ee ∧ CZ w wx s b lb p K2 K2 ∧ AC wx s p z y0 y1 y2 y3)
        case first =>
          by_cases t0 : y0.tmod 3 = 0
          · have e0 : (y0.tmod 3 == 0) = true := by simpa using t0
            clear t0
            have C1 : Hid (∀ w1, Sm w1 u0 → _) := fun w1 e => cz_send y1 Q0.out A0.out e
            have C2 : Hid (∀ v1 w1, CZ w v1 s b lb p K (seK K y1) → AC v1 s p z y0 y1 y2 y3 → Sm w1 v1 → _) := fun v1 w1 h a e => cz_rsend y1 h a (w1 := w1) e
            generalize seN K y1 = nn at *
            generalize seE K y1 = ee at *
            generalize seK K y1 = K2 at *
            go_wp2_with fail
            refine (C1.out _ ⟨rfl, rfl, rfl, rfl⟩).mono ?_
            rintro e v1 ⟨rfl, q1, t1⟩
            obtain ⟨k0, k1, k2, k3⟩ := t1.cells
            have R1 : Hid _ := q1
            have T1 : Hid _ := t1
            clear q1 t1
            go_wp2_with fail
            refine (C2.out v1 _ R1.out T1.out ⟨rfl, rfl, rfl, rfl⟩).mono ?_
            rintro e v2 ⟨rfl, q2, t2⟩
            have R2 : Hid (CZ w v2 s b lb p K2 K2) := q2
            have T2 : Hid (AC v2 s p z y0 y1 y2 y3) := t2
            clear q2 t2 k0 k1 k2 k3
            go_wp2
            go_meet
            case rel => exact ⟨rfl, rfl, K2, nn, ee, rfl, rfl, rfl, rfl, R2.out, T2.out⟩
          · have e0 : (y0.tmod 3 == 0) = false := by simpa using t0
            by_cases t1 : y0.tmod 3 = 1
            · have e1 : (y0.tmod 3 == 1) = true := by simpa using t1
              clear t0 t1
              have C1 : Hid (∀ w1, Sm w1 u0 → _) := fun w1 e => cz_take y1 Q0.out A0.out e
              have C2 : Hid (∀ v1 w1, CZ w v1 s b lb p K (ckK K y1) → AC v1 s p z y0 y1 y2 y3 → Sm w1 v1 → _) := fun v1 w1 h a e => cz_rtake y1 h a (w1 := w1) e
              generalize ckN K y1 = nn at *
              generalize ckE K y1 = ee at *
              generalize ckK K y1 = K2 at *
              go_wp2_with fail
              refine (C1.out _ ⟨rfl, rfl, rfl, rfl⟩).mono ?_
              rintro e v1 ⟨rfl, q1, t1⟩
              obtain ⟨k0, k1, k2, k3⟩ := t1.cells
              have R1 : Hid _ := q1
              have T1 : Hid _ := t1
              clear q1 t1
              go_wp2_with fail
              refine (C2.out v1 _ R1.out T1.out ⟨rfl, rfl, rfl, rfl⟩).mono ?_
              rintro e v2 ⟨rfl, q2, t2⟩
              have R2 : Hid (CZ w v2 s b lb p K2 K2) := q2
              have T2 : Hid (AC v2 s p z y0 y1 y2 y3) := t2
              clear q2 t2 k0 k1 k2 k3
              go_wp2
              go_meet
              case rel => exact ⟨rfl, rfl, K2, nn, ee, rfl, rfl, rfl, rfl, R2.out, T2.out⟩
            · have e1 : (y0.tmod 3 == 1) = false := by simpa using t1
              clear t0 t1
              have C1 : Hid (∀ w1, Sm w1 u0 → _) := fun w1 e => cz_move y1 y2 Q0.out A0.out e
              have C2 : Hid (∀ v1 w1, CZ w v1 s b lb p K (moK K y1 y2) → AC v1 s p z y0 y1 y2 y3 → Sm w1 v1 → _) := fun v1 w1 h a e => cz_rmove y1 y2 h a (w1 := w1) e
              generalize moN K y1 y2 = nn at *
              generalize moE K y1 y2 = ee at *
              generalize moK K y1 y2 = K2 at *
              go_wp2_with fail
              refine (C1.out _ ⟨rfl, rfl, rfl, rfl⟩).mono ?_
              rintro e v1 ⟨rfl, q1, t1⟩
              obtain ⟨k0, k1, k2, k3⟩ := t1.cells
              have R1 : Hid _ := q1
              have T1 : Hid _ := t1
              clear q1 t1
              go_wp2_with fail
              refine (C2.out v1 _ R1.out T1.out ⟨rfl, rfl, rfl, rfl⟩).mono ?_
              rintro e v2 ⟨rfl, q2, t2⟩
              have R2 : Hid (CZ w v2 s b lb p K2 K2) := q2
              have T2 : Hid (AC v2 s p z y0 y1 y2 y3) := t2
              clear q2 t2 k0 k1 k2 k3
              go_wp2
              go_meet
              case rel => exact ⟨rfl, rfl, K2, nn, ee, rfl, rfl, rfl, rfl, R2.out, T2.out⟩
        case rest =>
          obtain ⟨rfl, rfl, K2, nn, ee, rfl, rfl, rfl, rfl, r2, t2⟩ := hcut
          obtain ⟨k0, k1, k2, k3⟩ := t2.cells
          have P2 : Hid (CZ w wc s b lb p K2 K2) := r2
          have A2 : Hid (AC wc s p z y0 y1 y2 y3) := t2
          have n1 : (nn != nn) = false := by simp
          have n2 : (ee != ee) = false := by simp
          obtain ⟨hb, hhb⟩ : ∃ hb, haB K2 y3 = hb := ⟨_, rfl⟩
          have HH : Hid (haB K2 y3 = hb) := hhb
          have n3 : (hb != hb) = false := by simp
          obtain ⟨l1, hl1⟩ : ∃ l1, (clL K2 y1).length = l1 := ⟨_, rfl⟩
          obtain ⟨l2, hl2⟩ : ∃ l2, (clL K2 y2).length = l2 := ⟨_, rfl⟩
          have H1 : Hid ((clL K2 y1).length = l1) := hl1
          have H2 : Hid ((clL K2 y2).length = l2) := hl2
          have n4 : ((l1 : Int) != (l1 : Int)) = false := by simp
          clear r2 t2 Q0 A0 x0 x1 x2 x3 i0 i1 i2 i3 HU0 HZZ hhb hl1 hl2
          go_wp2_with fail
          go_region_held3 (fun w' => w'.cell? ⟨z, 1, none⟩ = some (.int .i64 y1) ∧ w'.cell? ⟨z, 2, none⟩ = some (.int .i64 y2) ∧ w'.cell? ⟨z, 3, none⟩ = some (.int .i64 y3)) (go_keep)
            (first | (go_at_call 33; refine (cz_has y3 P2.out A2.out ?_).mono ?_; exact ⟨rfl, rfl, rfl, rfl⟩; rintro e v3 ⟨rfl, q3, t3⟩; rw [HH.out]; obtain ⟨r30, r31, r32, r33⟩ := t3.cells; have P3 : Hid (CZ w v3 s b lb p K2 K2) := q3; have A3 : Hid (AC v3 s p z y0 y1 y2 y3) := t3; clear q3 t3 P2 A2) | (go_at_call 34; refine (cz_rhas y3 P3.out A3.out ?_).mono ?_; exact ⟨rfl, rfl, rfl, rfl⟩; rintro e v4 ⟨rfl, q4, t4⟩; rw [HH.out]; obtain ⟨r40, r41, r42, r43⟩ := t4.cells; have P4 : Hid (CZ w v4 s b lb p K2 K2) := q4; have A4 : Hid (AC v4 s p z y0 y1 y2 y3) := t4; clear q4 t4 P3 A3) | (go_at_call 35; refine (cz_load y1 P4.out A4.out ?_).mono ?_; exact ⟨rfl, rfl, rfl, rfl⟩; rintro e v5 ⟨rfl, q5, t5⟩; rw [H1.out]; obtain ⟨r50, r51, r52, r53⟩ := t5.cells; have P5 : Hid (CZ w v5 s b lb p K2 K2) := q5; have A5 : Hid (AC v5 s p z y0 y1 y2 y3) := t5; clear q5 t5 P4 A4) | (go_at_call 36; refine (cz_rlist y1 P5.out A5.out ?_).mono ?_; exact ⟨rfl, rfl, rfl, rfl⟩; rintro e v6 ⟨xa6, xc6, rfl, q6, t6, -, -⟩; rw [H1.out]; obtain ⟨r60, r61, r62, r63⟩ := t6.cells; have P6 : Hid (CZ w v6 s b lb p K2 K2) := q6; have A6 : Hid (AC v6 s p z y0 y1 y2 y3) := t6; clear q6 t6 P5 A5) | (go_at_call 37; refine (cz_list y1 P6.out A6.out ?_).mono ?_; exact ⟨rfl, rfl, rfl, rfl⟩; rintro e v7 ⟨xa7, xc7, rfl, q7, t7, w7⟩; rw [H1.out] at w7 ⊢; have W7 : Hid (Row v7 (.slice xa7 l1 xc7) (clL K2 y1)) := w7; clear w7; obtain ⟨r70, r71, r72, r73⟩ := t7.cells; have P7 : Hid (CZ w v7 s b lb p K2 K2) := q7; have A7 : Hid (AC v7 s p z y0 y1 y2 y3) := t7; clear q7 t7 P6 A6) | (go_at_call 36; refine (cz_rlist y1 P7.out A7.out ?_).mono ?_; exact ⟨rfl, rfl, rfl, rfl⟩; rintro e v8 ⟨xa8, xc8, rfl, q8, t8, w8, o8⟩; rw [H1.out] at w8 ⊢; have W8 : Hid (Row v8 (.slice xa8 l1 xc8) (clL K2 y1)) := w8; have O8 : Hid (Row v8 (.slice xa7 l1 xc7) (clL K2 y1)) := o8 _ _ W7.out; clear w8 o8; obtain ⟨r80, r81, r82, r83⟩ := t8.cells; have P8 : Hid (CZ w v8 s b lb p K2 K2) := q8; have A8 : Hid (AC v8 s p z y0 y1 y2 y3) := t8; clear q8 t8 P7 A7) | (go_at_call 16; refine (cz_ints y1 P8.out A8.out O8.out W8.out ?_).mono ?_; exact ⟨rfl, rfl, rfl, rfl⟩; rintro e v9 ⟨rfl, q9, t9⟩; obtain ⟨r90, r91, r92, r93⟩ := t9.cells; have P9 : Hid (CZ w v9 s b lb p K2 K2) := q9; have A9 : Hid (AC v9 s p z y0 y1 y2 y3) := t9; clear q9 t9 P8 A8) | (go_at_call 37; refine (cz_list y2 P9.out A9.out ?_).mono ?_; exact ⟨rfl, rfl, rfl, rfl⟩; rintro e v10 ⟨xa10, xc10, rfl, q10, t10, w10⟩; rw [H2.out] at w10 ⊢; have W10 : Hid (Row v10 (.slice xa10 l2 xc10) (clL K2 y2)) := w10; clear w10; obtain ⟨r100, r101, r102, r103⟩ := t10.cells; have P10 : Hid (CZ w v10 s b lb p K2 K2) := q10; have A10 : Hid (AC v10 s p z y0 y1 y2 y3) := t10; clear q10 t10 P9 A9) | (go_at_call 36; refine (cz_rlist y2 P10.out A10.out ?_).mono ?_; exact ⟨rfl, rfl, rfl, rfl⟩; rintro e v11 ⟨xa11, xc11, rfl, q11, t11, w11, o11⟩; rw [H2.out] at w11 ⊢; have W11 : Hid (Row v11 (.slice xa11 l2 xc11) (clL K2 y2)) := w11; have O11 : Hid (Row v11 (.slice xa10 l2 xc10) (clL K2 y2)) := o11 _ _ W10.out; clear w11 o11; obtain ⟨r110, r111, r112, r113⟩ := t11.cells; have P11 : Hid (CZ w v11 s b lb p K2 K2) := q11; have A11 : Hid (AC v11 s p z y0 y1 y2 y3) := t11; clear q11 t11 P10 A10) | (go_at_call 16; refine (cz_ints y2 P11.out A11.out O11.out W11.out ?_).mono ?_; exact ⟨rfl, rfl, rfl, rfl⟩; rintro e v12 ⟨rfl, q12, t12⟩; obtain ⟨r120, r121, r122, r123⟩ := t12.cells; have P12 : Hid (CZ w v12 s b lb p K2 K2) := q12; have A12 : Hid (AC v12 s p z y0 y1 y2 y3) := t12; clear q12 t12 P11 A11))
          go_wp2
          go_roundw
          case rel => exact ⟨k + 1, K2, by omega, by omega, P12.out.sm ⟨rfl, rfl, rfl, rfl⟩, by go_num⟩
          case measure => simp [intOf]; omega

set_option maxRecDepth 100000 in
theorem lifted (os : Os) (started : os.Started) (H : Type) (enc : TypeId × Value → H) :
    ReturnsInHanded {} Tryd.checked os 6 .any (fun w args => (Rows.callPlaysSpec.pre enc Tryd.prog Tryd.f6 [] false w args ∧ laidMetH Tryd.prog laidTab w) ∧ sizedMet enc Tryd.prog Tryd.f6 (OpenSpec.ofChange Rows.callPlaysSpec) false w args)
      (Rows.callPlaysSpec.post enc Tryd.prog Tryd.f6 false true false false) := by
  refine returnsInHanded_of_change_and (C := Tryd.checked) (X := fun w _ => laidMetH Tryd.prog laidTab w) (fun _ _ _ hh h => h.of_heap hh) own started (by kernel_rfl) Tryd.func6
    (ChangeSpec.witness_shaped (enc := enc) (C := Tryd.checked) (os := os) (X := fun w _ => laidMetH Tryd.prog laidTab w) false (World.doorLaid Tryd.prog 400 os) #[.int .i64 0, .slice none 0 0] 8 rfl (World.shaped_of_RefB (by kernel_rfl) (by kernel_rfl)) (by kernel_rfl) (by kernel_rfl) (by kernel_rfl) (door_met os _)) ?_
  intro W base args ds gs before hval0 hW _ _ hL _
  have hval : ∀ (j : Nat) t v, Tryd.f6.params[j]? = some t → args[j]? = some v → Value.okWide Tryd.prog W .any base t v := hval0
  have hW' := hW
  obtain ⟨p, q, hA0, hV, rfl, hfz, hnd⟩ := hW
  have hA : DataW.TrodAll enc Tryd.prog W 0 (fun _ => true) true Tryd.f6.params.toList args.toList ds p := hA0
  rw [Tryd.params6] at hA hval
  obtain ⟨v0, vs0, d0, ds0, p0, q0, hargs, rfl, rfl, h0, r0⟩ := trodAll_cons hA
  obtain ⟨v1, vs1, d1, ds1, p1, q1, rfl, rfl, rfl, h1, r1⟩ := trodAll_cons r0
  obtain ⟨rfl, rfl, rfl⟩ := trodAll_nil r1
  obtain rfl : args = #[v0, v1] := by cases args; simp_all
  obtain ⟨rfl, rfl⟩ := trodVars_none hV
  obtain ⟨a0, rfl, rfl, rfl, w0⟩ := open_int Tryd.underlying3 (hval 0 3 v0 rfl rfl) h0
  obtain ⟨a1, len1, cap1, rfl⟩ := okWide_slice Tryd.underlying46 (hval 1 46 v1 rfl rfl)
  have k1 := h1
  have lt1 : ∀ x ∈ p1, x.block < W.heap.size := by obtain ⟨m, hm⟩ := k1; exact DataW.trod_lt m _ _ _ hm
  obtain ⟨X1, w1, z1⟩ : ∃ X : Nat → Nat → Int, SRow W (.slice a1 len1 cap1) len1 [true, true, true, true] X ∧ ∀ i, i < len1 → ∀ j, j < [true, true, true, true].length → [true, true, true, true].getD j true = true → (Lit.int .i64 (X i j)).wf = true := by
    obtain ⟨fuel, hf⟩ := h1
    exact open_recs [true, true, true, true] Tryd.underlying46 Tryd.underlying54 (by kernel_rfl) rfl (by decide) (fun | 0, _ => ⟨_, rfl, rfl, by kernel_rfl, Tryd.underlying3⟩ | 1, _ => ⟨_, rfl, rfl, by kernel_rfl, Tryd.underlying3⟩ | 2, _ => ⟨_, rfl, rfl, by kernel_rfl, Tryd.underlying3⟩ | 3, _ => ⟨_, rfl, rfl, by kernel_rfl, Tryd.underlying3⟩ | n + 4, h => absurd h (by simp only [List.length]; omega)) hf
  obtain ⟨hT, hS⟩ := of_laid hL
  clear hA0 hval0
  refine (walk a0 a1 len1 cap1 X1 W w0 w1 z1 hT hS).mono fun e W' ⟨he, bel⟩ => ?_
  subst he
  exact ⟨_, rfl, _, _, _, [], _, [], hW', trodAll_mk1 (shut_bool Tryd.underlying4 _), (trodAll_cons_mk (shut_int Tryd.underlying3 w0) (trodAll_cons_mk (Below.trod laidOut (by kernel_rfl) (of_decide_eq_true (by kernel_rfl)) k1 bel lt1) trodAll_mk0)), rfl, bel.frame _, fun h => by cases h⟩

theorem over : Rows.CallPlaysSaid :=
  OpenClaim.holds_of_wide 6 Tryd.f6 rfl rfl rfl rfl rfl rfl rfl ⟨rfl, rfl, rfl, rfl, rfl⟩ rfl rfl rfl rfl rfl (by kernel_rfl) Tryd.func6 (by kernel_rfl)
    (of_decide_eq_true (by kernel_rfl)) (by unfold Func.isWrapper; first | (rw [if_pos (by decide +kernel)]; kernel_rfl) | (rw [if_neg (by decide +kernel)]; exact ⟨rfl, rfl⟩))
    (fun os started H enc _ => lifted os started H enc)
end Go.Proofs.YtofdhljgchefgaaDoor.callPlays

namespace Go.Proofs.YtofdhljgchefgaaDoor
open Go
theorem callPlays_card : Rows.CallPlaysCardSaid :=
  Claim7.holds_tied_plain_at .later [] [.data] true (true, "c2ca43f4ea73c02762d5147dd1f7580f6374eb27a6182fd3484bba9f58af2859") false
    callPlays.over (fun _ h => by cases h) (by kernel_rfl) (fun _ h => by cases h) callPlays_row_tie rfl ⟨rfl, rfl⟩ (by kernel_rfl) rfl
    (fun f fn hf hfn => by
      obtain rfl : f = 6 := Option.some.inj ((show Tryd.prog.funcNamed "davit/davitlaw18.CallPlays" = some 6 by kernel_rfl).symm.trans hf) |>.symm
      obtain rfl : fn = Tryd.f6 := (Option.some.inj (Tryd.func6.symm.trans hfn)).symm
      exact ⟨by kernel_rfl, fun j t ht => by
        rw [Tryd.params6] at ht
        have hm : t ∈ [3, 46] := by simpa using Array.mem_of_getElem? ht
        have hall : ([3, 46].all fun u => !Tryd.prog.wantsStandIn u) = true := by kernel_rfl
        exact (show Tryd.prog.wantsStandIn t = false by simpa using List.all_eq_true.1 hall t hm)⟩)
    (by kernel_rfl)
#print axioms callPlays_card
end Go.Proofs.YtofdhljgchefgaaDoor
