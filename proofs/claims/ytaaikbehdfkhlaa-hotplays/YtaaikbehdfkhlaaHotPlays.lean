/- Proved: for every list acts, davitlaw22.HotPlays(acts) returns true: a desk that is played with answers what the document says: each answer, and what it has (200 acts at most, as the law itself says), and acts is left alone; no condition. -/
import Derived.Test.YtaaikbehdfkhlaaRows
import Derived.Test.YtaaikbehdfkhlaaFo
import Derived.Test.YtaaikbehdfkhlaaHz
import Derived.WalkKit
import Derived.ProofKit
import Derived.OpenShut
import Derived.Stop.Joined
import Derived.ShutString
import Derived.ChangeOld
import Derived.Below
import Derived.Carry
import Derived.Test.YtaaikbehdfkhlaaFs
import Derived.Deep.DeepCutAuto
import Derived.Deep.CutBlock
import Derived.Deep.RegionHeld3
namespace Go.Proofs.Ytaaikbehdfkhlaa.hotPlays
open Go.ChangeShapes Go.WideShapes Go.ChangeAt Go.RowKit
open Rm Hp
set_option linter.unusedVariables false
set_option linter.unusedSimpArgs false

theorem own : ownKnob Try.prog.godebug = none := by kernel_rfl
theorem laidOut : laidOutB Try.prog = true := by kernel_rfl

set_option maxRecDepth 100000 in
set_option maxHeartbeats 4000000 in
theorem walk (a0 : Option Addr) (len0 cap0 : Nat) (X0 : Nat → Nat → Int) (w : World) (w0 : SRow w (.slice a0 len0 cap0) len0 [true, true, false, true, true] X0) (z0 : ∀ i, i < len0 → ∀ j, j < [true, true, false, true, true].length → [true, true, false, true, true].getD j true = true → (Lit.int .i64 (X0 i j)).wf = true) :
    Calls Try.prog 6 #[.slice a0 len0 cap0] w fun e w' => e = .returned (.bool true) ∧ Below w.heap.size w w' := by
  have KN : Hid (∀ w1, _) := fun w1 => hknown_yes w1
  have HR : Hid (SRow w (.slice a0 len0 cap0) len0 [true, true, false, true, true] X0) := w0
  have HW : Hid (∀ i, i < len0 → (Lit.int .i64 (X0 i 1)).wf = true) := fun i hi => z0 i hi 1 (by decide) rfl
  have PP0 : Hid _ := hh_new w
  obtain ⟨s, hs⟩ : ∃ s, w.heap.size = s := ⟨_, rfl⟩
  have HS : Hid (w.heap.size = s) := hs
  rw [hs] at PP0 ⊢
  clear w0 z0 hs
  go_enter Try.func6, Try.ntmps6
  go_wp2
  rw [HS.out]
  go_loopw [5] (fun i wr => ∃ (k N : Nat) (R : Option Rq) (P : Int → Bool), (k : Int) ≤ 200 ∧ (k : Int) ≤ len0 ∧ Hid (N ≤ k) ∧ HH w wr s [] R P N R P N ∧ i = .int .i64 k) (fun i _ => 200 - (intOf i).toNat)
  case atStart => exact ⟨0, 0, none, _, by omega, by omega, Nat.le_refl 0, PP0.out, rfl⟩
  case round =>
    obtain ⟨k, N, R, P, hk, hk2, hN, q, rfl⟩ := hrel
    clear PP0
    have HB : Hid (Below s w wr) := q.bel
    have hz : s ≤ wr.heap.size := by have := q.hi; omega
    have tail : (¬ (k : Int) < len0 ∧ decide ((k : Int) < len0) = false) ∨ ((k : Int) < len0 ∧ ¬ (k : Int) < 200) ∨ ((k : Int) < len0 ∧ (k : Int) < 200) := by
      by_cases h : (k : Int) < len0
      · by_cases h2 : (k : Int) < 200
        · exact Or.inr (Or.inr ⟨h, h2⟩)
        · exact Or.inr (Or.inl ⟨h, h2⟩)
      · exact Or.inl ⟨h, decide_eq_false h⟩
    rw [← or_assoc] at tail
    rcases tail with tail | ⟨hq, hq2⟩
    · clear q
      rcases tail with ⟨h, hd⟩ | ⟨h, h2⟩
      all_goals (
        go_wp2_with fail
        refine (KN.out _).mono ?_
        rintro e w4 ⟨rfl, f4⟩
        go_wp2
        go_ret
        exact ⟨rfl, HB.out.trans (f4.mono hz)⟩)
    · obtain ⟨b0, off, rfl, hA⟩ := srow_cell (wr := wr) HR.out (by rw [HS.out]; exact q.bel) hq
      have x0 : wr.cell? ⟨b0, off + k * 5, none⟩ = some (.int .i64 (X0 k 0)) := hA 0 (by simp)
      have x1 : wr.cell? ⟨b0, off + k * 5 + 1, none⟩ = some (.int .i64 (X0 k 1)) := hA 1 (by simp)
      have x2 : wr.cell? ⟨b0, off + k * 5 + 2, none⟩ = some (.bool (X0 k 2 != 0)) := hA 2 (by simp)
      have x3 : wr.cell? ⟨b0, off + k * 5 + 3, none⟩ = some (.int .i64 (X0 k 3)) := hA 3 (by simp)
      have x4 : wr.cell? ⟨b0, off + k * 5 + 4, none⟩ = some (.int .i64 (X0 k 4)) := hA 4 (by simp)
      have hw1 := HW.out k (by omega)
      clear hA
      generalize X0 k 0 = y0 at *
      generalize X0 k 1 = y1 at *
      generalize (X0 k 2 != 0) = y2 at *
      generalize X0 k 3 = y3 at *
      generalize X0 k 4 = y4 at *
      have HW1 : Hid ((Lit.int .i64 y1).wf = true) := hw1
      have HN : Hid (N ≤ k ∧ k < 200) := ⟨hN.out, by omega⟩
      have q0 : HH w (wr.alloc (.cells #[.int .i64 y0, .int .i64 y1, .bool y2, .int .i64 y3, .int .i64 y4] 49)) s [(wr.heap.size, ac y0 y1 y2 y3 y4, 49)] R P N R P N := q.boxx (Blk.new wr (ac y0 y1 y2 y3 y4) _) ((Below.refl _ _).alloc (Nat.le_refl _) _)
      obtain ⟨z, hzz⟩ : ∃ z, wr.heap.size = z := ⟨_, rfl⟩
      have HZZ : Hid (wr.heap.size = z) := hzz
      obtain ⟨u0, hu0⟩ : ∃ u0, wr.alloc (.cells #[.int .i64 y0, .int .i64 y1, .bool y2, .int .i64 y3, .int .i64 y4] 49) = u0 := ⟨_, rfl⟩
      have HU0 : Hid (wr.alloc (.cells #[.int .i64 y0, .int .i64 y1, .bool y2, .int .i64 y3, .int .i64 y4] 49) = u0) := hu0
      rw [hu0, hzz] at q0
      have Q0 : Hid (HH w u0 s [(z, ac y0 y1 y2 y3 y4, 49)] R P N R P N) := q0
      obtain ⟨i0, i1, i2, i3, i4⟩ := q0.act
      clear q q0 hu0 hzz hw1 hN
      go_upto_block 2 with (fail)
      rw [HU0.out, HZZ.out]
      go_cut [5, 6] (fun i pa wx => i = .int .i64 k ∧ pa = .pointer (some ⟨z, 0, none⟩) ∧ ∃ (R2 : Option Rq) (P2 : Int → Bool) (N2 : Nat), Hid (N2 ≤ k + 1) ∧ HH w wx s [(z, ac y0 y1 y2 y3 y4, 49)] R2 P2 N2 R2 P2 N2)
      case first =>
        by_cases t0 : y0.tmod 5 = 0
        · have e0 : (y0.tmod 5 == 0) = true := by simpa using t0
          clear t0
          have C1 : Hid (∀ w1, Sm w1 u0 → _) := fun w1 e => hh_plan y1 HW1.out (by have := HN.out; omega) Q0.out (w1 := w1) e
          have C2 : Hid (∀ v1 w1, HH w v1 s [(z, ac y0 y1 y2 y3 y4, 49)] R P N R (plP P y1) (N + 1) → Sm w1 v1 → _) := fun v1 w1 t e => hh_rplan y1 (by have := HN.out; omega) t (w1 := w1) e
          generalize plE y1 = ee at *
          generalize plP P y1 = P3 at *
          have n1 : (ee != ee) = false := by simp
          go_wp2_with fail
          go_region_held3 (fun w' => w'.cell? ⟨z, 1, none⟩ = some (.int .i64 y1)) (go_keep)
            (first | (go_at_call 22; refine (C1.out _ ?_).mono ?_; exact ⟨rfl, rfl, rfl, rfl⟩; rintro e v2 ⟨rfl, q1⟩; obtain ⟨k0, k1, k2, k3, k4⟩ := q1.act; have R1 : Hid (HH w v2 s [(z, ac y0 y1 y2 y3 y4, 49)] R P N R P3 (N + 1)) := q1; clear q1) | (go_at_call 23; refine (C2.out v2 _ R1.out ?_).mono ?_; exact ⟨rfl, rfl, rfl, rfl⟩; rintro e v3 ⟨rfl, q2⟩; obtain ⟨m0, m1, m2, m3, m4⟩ := q2.act; have R2 : Hid (HH w v3 s [(z, ac y0 y1 y2 y3 y4, 49)] R P3 (N + 1) R P3 (N + 1)) := q2; clear q2))
          go_wp2
          go_meet
          case rel => exact ⟨rfl, rfl, R, P3, N + 1, by have := HN.out; show N + 1 ≤ k + 1; omega, R2.out.sm ⟨rfl, rfl, rfl, rfl⟩⟩
        · have e0 : (y0.tmod 5 == 0) = false := by simpa using t0
          by_cases t1 : y0.tmod 5 = 1
          · have e1 : (y0.tmod 5 == 1) = true := by simpa using t1
            clear t0 t1
            have C1 : Hid (∀ w1, Sm w1 u0 → _) := fun w1 e => hh_begin y2 y3 y4 Q0.out (w1 := w1) e
            have C2 : Hid (∀ v1 w1, HH w v1 s [(z, ac y0 y1 y2 y3 y4, 49)] R P N (beR R y2 y3 y4) P N → Sm w1 v1 → _) := fun v1 w1 t e => hh_rbegin y2 y3 y4 t (w1 := w1) e
            generalize beE R y3 y4 = ee at *
            generalize beR R y2 y3 y4 = R3 at *
            have n1 : (ee != ee) = false := by simp
            go_wp2_with fail
            go_region_held3 (fun w' => w'.cell? ⟨z, 2, none⟩ = some (.bool y2) ∧ w'.cell? ⟨z, 3, none⟩ = some (.int .i64 y3) ∧ w'.cell? ⟨z, 4, none⟩ = some (.int .i64 y4)) (go_keep)
              (first | (go_at_call 24; refine (C1.out _ ?_).mono ?_; exact ⟨rfl, rfl, rfl, rfl⟩; rintro e v2 ⟨rfl, q1⟩; obtain ⟨k0, k1, k2, k3, k4⟩ := q1.act; have R1 : Hid (HH w v2 s [(z, ac y0 y1 y2 y3 y4, 49)] R P N R3 P N) := q1; clear q1) | (go_at_call 25; refine (C2.out v2 _ R1.out ?_).mono ?_; exact ⟨rfl, rfl, rfl, rfl⟩; rintro e v3 ⟨rfl, q2⟩; obtain ⟨m0, m1, m2, m3, m4⟩ := q2.act; have R2 : Hid (HH w v3 s [(z, ac y0 y1 y2 y3 y4, 49)] R3 P N R3 P N) := q2; clear q2))
            go_wp2
            go_meet
            case rel => exact ⟨rfl, rfl, R3, P, N, by have := HN.out; show N ≤ k + 1; omega, R2.out.sm ⟨rfl, rfl, rfl, rfl⟩⟩
          · have e1 : (y0.tmod 5 == 1) = false := by simpa using t1
            by_cases t2 : y0.tmod 5 = 2
            · have e2 : (y0.tmod 5 == 2) = true := by simpa using t2
              clear t0 t1 t2
              have C1 : Hid (∀ w1, Sm w1 u0 → _) := fun w1 e => hh_next Q0.out (w1 := w1) e
              have C2 : Hid (∀ A v1 w1, HH w v1 s A R P N (nxR P R) (nxP P R) N → Sm w1 v1 → _) := fun A v1 w1 t e => hh_rnext (A := A) (by have := HN.out; omega) t (w1 := w1) e
              unfold stv at C1 C2
              generalize ((nxK R : Nat) : Int) = x1 at *
              generalize nxU R = x2 at *
              generalize nxF P R = x3 at *
              generalize nxE R = x4 at *
              generalize nxR P R = R3 at *
              generalize nxP P R = P3 at *
              have n1 : (x1 != x1) = false := by simp
              have n2 : (x2 != x2) = false := by simp
              have n3 : (x3 != x3) = false := by simp
              have n4 : (x4 != x4) = false := by simp
              go_wp2_with fail
              refine (C1.out _ ⟨rfl, rfl, rfl, rfl⟩).mono ?_
              rintro e v2 ⟨rfl, q1⟩
              have R1 : Hid _ := q1.box (t := 53) x1 x2 x3
              clear q1 C1
              go_wp2_with fail
              refine (C2.out _ _ _ R1.out ⟨rfl, rfl, rfl, rfl⟩).mono ?_
              rintro e v3 ⟨rfl, q2⟩
              have q3 := q2.box (t := 56) x1 x2 x3
              have g0 := q3.at (x := (v2.heap.size, sc x1 x2 x3, 53)) (by simp)
              have g00 : (bx 56 v3 x1 x2 x3).cell? ⟨v2.heap.size, 0, none⟩ = some (.int .i64 x1) := g0.cell 0
              have g01 : (bx 56 v3 x1 x2 x3).cell? ⟨v2.heap.size, 1, none⟩ = some (.bool x2) := g0.cell 1
              have g02 : (bx 56 v3 x1 x2 x3).cell? ⟨v2.heap.size, 2, none⟩ = some (.bool x3) := g0.cell 2
              have R2 : Hid (HH w (bx 56 v3 x1 x2 x3) s [(z, ac y0 y1 y2 y3 y4, 49)] R3 P3 N R3 P3 N) := q3.drop.drop
              unfold bx at g00 g01 g02
              clear q2 q3 g0 C2 R1
              go_wp2
              go_meet
              case rel => exact ⟨rfl, rfl, R3, P3, N, by have := HN.out; show N ≤ k + 1; omega, R2.out⟩
            · have e2 : (y0.tmod 5 == 2) = false := by simpa using t2
              by_cases t3 : y0.tmod 5 = 3
              · have e3 : (y0.tmod 5 == 3) = true := by simpa using t3
                clear t0 t1 t2 t3
                have C1 : Hid (∀ w1, Sm w1 u0 → _) := fun w1 e => hh_done Q0.out (w1 := w1) e
                have C2 : Hid (∀ v1 w1, HH w v1 s [(z, ac y0 y1 y2 y3 y4, 49)] R P N (doR R) P N → Sm w1 v1 → _) := fun v1 w1 t e => hh_rdone t (w1 := w1) e
                generalize doE R = ee at *
                generalize doR R = R3 at *
                have n1 : (ee != ee) = false := by simp
                go_wp2_with fail
                refine (C1.out _ ⟨rfl, rfl, rfl, rfl⟩).mono ?_
                rintro e v2 ⟨rfl, q1⟩
                have R1 : Hid _ := q1
                clear q1
                go_wp2_with fail
                refine (C2.out v2 _ R1.out ⟨rfl, rfl, rfl, rfl⟩).mono ?_
                rintro e v3 ⟨rfl, q2⟩
                have R2 : Hid (HH w v3 s [(z, ac y0 y1 y2 y3 y4, 49)] R3 P N R3 P N) := q2
                clear q2
                go_wp2
                go_meet
                case rel => exact ⟨rfl, rfl, R3, P, N, by have := HN.out; show N ≤ k + 1; omega, R2.out⟩
              · have e3 : (y0.tmod 5 == 3) = false := by simpa using t3
                clear t0 t1 t2 t3
                have C1 : Hid (∀ w1, Sm w1 u0 → _) := fun w1 e => hh_end Q0.out (w1 := w1) e
                have C2 : Hid (∀ v1 w1, HH w v1 s [(z, ac y0 y1 y2 y3 y4, 49)] R P N (enR R) P N → Sm w1 v1 → _) := fun v1 w1 t e => hh_rend t (w1 := w1) e
                generalize enW R = ee at *
                generalize enE R = ef at *
                generalize enR R = R3 at *
                have n1 : (ee != ee) = false := by simp
                have n2 : (ef != ef) = false := by simp
                go_wp2_with fail
                refine (C1.out _ ⟨rfl, rfl, rfl, rfl⟩).mono ?_
                rintro e v2 ⟨rfl, q1⟩
                have R1 : Hid _ := q1
                clear q1
                go_wp2_with fail
                refine (C2.out v2 _ R1.out ⟨rfl, rfl, rfl, rfl⟩).mono ?_
                rintro e v3 ⟨rfl, q2⟩
                have R2 : Hid (HH w v3 s [(z, ac y0 y1 y2 y3 y4, 49)] R3 P N R3 P N) := q2
                clear q2
                go_wp2
                go_meet
                case rel => exact ⟨rfl, rfl, R3, P, N, by have := HN.out; show N ≤ k + 1; omega, R2.out⟩
      case rest =>
        obtain ⟨rfl, rfl, R2, P2, N2, hN2, r2⟩ := hcut
        have P1 : Hid (HH w wc s [(z, ac y0 y1 y2 y3 y4, 49)] R2 P2 N2 R2 P2 N2) := r2
        obtain ⟨nv, hn1, hn2, hc⟩ := r2.cells
        have HC : Hid (∀ v, LK wc v → _) := hc
        have B1 : Hid (∀ v1 w1, LK wc v1 → Sm w1 v1 → _) := fun v1 w1 b e => lk_busy P1.out (v1 := v1) (w1 := w1) b e
        have B2 : Hid (∀ v1 w1, LK wc v1 → Sm w1 v1 → _) := fun v1 w1 b e => lk_up P1.out (v1 := v1) (w1 := w1) b e
        have B3 : Hid (∀ v1 w1, LK wc v1 → Sm w1 v1 → _) := fun v1 w1 b e => lk_cpu P1.out (v1 := v1) (w1 := w1) b e
        have B4 : Hid (∀ v1 w1, LK wc v1 → Sm w1 v1 → _) := fun v1 w1 b e => lk_by P1.out (v1 := v1) (w1 := w1) b e
        have B5 : Hid (∀ v1 w1, LK wc v1 → Sm w1 v1 → _) := fun v1 w1 b e => lk_over P1.out (v1 := v1) (w1 := w1) b e
        have B6 : Hid (∀ v1 w1, LK wc v1 → Sm w1 v1 → _) := fun v1 w1 b e => lk_rover P1.out (v1 := v1) (w1 := w1) b e
        have L1 : Hid (LK wc wc) := LK.refl wc
        obtain ⟨c0, c1, c2, c3⟩ := hc wc (LK.refl wc)
        clear r2 Q0 x0 x1 x2 x3 x4 i0 i1 i2 i3 i4 HU0 HZZ HW1 hc
        generalize ups R2 = b2 at *
        generalize cps R2 = b3 at *
        generalize cos R2 = b4 at *
        generalize rov R2 = b5 at *
        have nb2 : (b2 != b2) = false := by simp
        have nb3 : (b3 != b3) = false := by simp
        have nb4 : (b4 != b4) = false := by simp
        have nb5 : (b5 != b5) = false := by simp
        have HN2 : Hid (N2 ≤ k + 1) := hN2
        clear hN2
        cases hr : R2
        case none =>
          obtain rfl := hn1 hr
          have E1 : R2.isSome = false := by rw [hr]; rfl
          rw [E1] at B1
          clear hr hn1 hn2 E1
          go_wp2_with fail
          go_region_held3 (fun w' => w'.cell? ⟨s + 1, 0, none⟩ = some (.pointer none) ∧ w'.cell? ⟨s + 1, 1, none⟩ = some (.bool b2) ∧ w'.cell? ⟨s + 1, 2, none⟩ = some (.int .i64 b3) ∧ w'.cell? ⟨s + 1, 3, none⟩ = some (.int .i64 b4)) (go_keep)
            (first | (go_at_call 32; refine (B1.out _ _ L1.out ?_).mono ?_; exact ⟨rfl, rfl, rfl, rfl⟩; rintro e v2 ⟨rfl, b12⟩; obtain ⟨r20, r21, r22, r23⟩ := HC.out _ b12; have L2 : Hid (LK wc v2) := b12; clear b12 L1) | (go_at_call 33; refine (B2.out _ _ L2.out ?_).mono ?_; exact ⟨rfl, rfl, rfl, rfl⟩; rintro e v3 ⟨rfl, b13⟩; obtain ⟨r30, r31, r32, r33⟩ := HC.out _ b13; have L3 : Hid (LK wc v3) := b13; clear b13 L2) | (go_at_call 34; refine (B3.out _ _ L3.out ?_).mono ?_; exact ⟨rfl, rfl, rfl, rfl⟩; rintro e v4 ⟨rfl, b14⟩; obtain ⟨r40, r41, r42, r43⟩ := HC.out _ b14; have L4 : Hid (LK wc v4) := b14; clear b14 L3) | (go_at_call 35; refine (B4.out _ _ L4.out ?_).mono ?_; exact ⟨rfl, rfl, rfl, rfl⟩; rintro e v5 ⟨rfl, b15⟩; obtain ⟨r50, r51, r52, r53⟩ := HC.out _ b15; have L5 : Hid (LK wc v5) := b15; clear b15 L4) | (go_at_call 36; refine (B5.out _ _ L5.out ?_).mono ?_; exact ⟨rfl, rfl, rfl, rfl⟩; rintro e v6 ⟨rfl, b16⟩; obtain ⟨r60, r61, r62, r63⟩ := HC.out _ b16; have L6 : Hid (LK wc v6) := b16; clear b16 L5) | (go_at_call 37; refine (B6.out _ _ L6.out ?_).mono ?_; exact ⟨rfl, rfl, rfl, rfl⟩; rintro e v7 ⟨rfl, b17⟩; obtain ⟨r70, r71, r72, r73⟩ := HC.out _ b17; have L7 : Hid (LK wc v7) := b17; clear b17 L6))
          go_wp2
          go_roundw
          case rel => exact ⟨k + 1, N2, R2, P2, by omega, by omega, HN2.out, (P1.out.look L7.out ⟨rfl, rfl, rfl, rfl⟩).drop, by go_num⟩
          case measure => simp [intOf]; omega
        case some q =>
          obtain ⟨x, rfl⟩ := hn2 q hr
          have E1 : R2.isSome = true := by rw [hr]; rfl
          rw [E1] at B1
          clear hr hn1 hn2 E1
          go_wp2_with fail
          go_region_held3 (fun w' => w'.cell? ⟨s + 1, 0, none⟩ = some (.pointer (some ⟨x, 0, none⟩)) ∧ w'.cell? ⟨s + 1, 1, none⟩ = some (.bool b2) ∧ w'.cell? ⟨s + 1, 2, none⟩ = some (.int .i64 b3) ∧ w'.cell? ⟨s + 1, 3, none⟩ = some (.int .i64 b4)) (go_keep)
            (first | (go_at_call 32; refine (B1.out _ _ L1.out ?_).mono ?_; exact ⟨rfl, rfl, rfl, rfl⟩; rintro e v2 ⟨rfl, b12⟩; obtain ⟨r20, r21, r22, r23⟩ := HC.out _ b12; have L2 : Hid (LK wc v2) := b12; clear b12 L1) | (go_at_call 33; refine (B2.out _ _ L2.out ?_).mono ?_; exact ⟨rfl, rfl, rfl, rfl⟩; rintro e v3 ⟨rfl, b13⟩; obtain ⟨r30, r31, r32, r33⟩ := HC.out _ b13; have L3 : Hid (LK wc v3) := b13; clear b13 L2) | (go_at_call 34; refine (B3.out _ _ L3.out ?_).mono ?_; exact ⟨rfl, rfl, rfl, rfl⟩; rintro e v4 ⟨rfl, b14⟩; obtain ⟨r40, r41, r42, r43⟩ := HC.out _ b14; have L4 : Hid (LK wc v4) := b14; clear b14 L3) | (go_at_call 35; refine (B4.out _ _ L4.out ?_).mono ?_; exact ⟨rfl, rfl, rfl, rfl⟩; rintro e v5 ⟨rfl, b15⟩; obtain ⟨r50, r51, r52, r53⟩ := HC.out _ b15; have L5 : Hid (LK wc v5) := b15; clear b15 L4) | (go_at_call 36; refine (B5.out _ _ L5.out ?_).mono ?_; exact ⟨rfl, rfl, rfl, rfl⟩; rintro e v6 ⟨rfl, b16⟩; obtain ⟨r60, r61, r62, r63⟩ := HC.out _ b16; have L6 : Hid (LK wc v6) := b16; clear b16 L5) | (go_at_call 37; refine (B6.out _ _ L6.out ?_).mono ?_; exact ⟨rfl, rfl, rfl, rfl⟩; rintro e v7 ⟨rfl, b17⟩; obtain ⟨r70, r71, r72, r73⟩ := HC.out _ b17; have L7 : Hid (LK wc v7) := b17; clear b17 L6))
          go_wp2
          go_roundw
          case rel => exact ⟨k + 1, N2, R2, P2, by omega, by omega, HN2.out, (P1.out.look L7.out ⟨rfl, rfl, rfl, rfl⟩).drop, by go_num⟩
          case measure => simp [intOf]; omega

set_option maxRecDepth 100000 in
theorem lifted (os : Os) (started : os.Started) (H : Type) (enc : TypeId × Value → H) :
    ReturnsInHanded {} Try.checked os 6 .any (Rows.hotPlaysSpec.pre6 enc Try.prog Try.f6 Rows.hotPlaysRow.domain false) (Rows.hotPlaysSpec.post enc Try.prog Try.f6 false true false false) := by
  refine returnsInHanded_of_change (C := Try.checked) own started (by kernel_rfl) Try.func6
    (ChangeSpec.witness6 (enc := enc) (C := Try.checked) false ⟨#[], #[.slice none 0 0], []⟩ 8 (by kernel_rfl) (by kernel_rfl) (by kernel_rfl) (by kernel_rfl)) ?_
  intro W base args ds gs before hval0 hW hcnd _
  have hval : ∀ (j : Nat) t v, Try.f6.params[j]? = some t → args[j]? = some v → Value.okWide Try.prog W .any base t v := hval0
  have hW' := hW
  obtain ⟨p, q, hA0, hV, rfl, hfz, hnd⟩ := hW
  have hA : DataW.TrodAll enc Try.prog W 0 (fun _ => true) true Try.f6.params.toList args.toList ds p := hA0
  rw [Try.params6] at hA hval
  obtain ⟨v0, vs0, d0, ds0, p0, q0, hargs, rfl, rfl, h0, r0⟩ := trodAll_cons hA
  obtain ⟨rfl, rfl, rfl⟩ := trodAll_nil r0
  obtain rfl : args = #[v0] := by cases args; simp_all
  obtain ⟨rfl, rfl⟩ := trodVars_none hV
  obtain ⟨a0, len0, cap0, rfl⟩ := okWide_slice Try.underlying38 (hval 0 38 v0 rfl rfl)
  have k0 := h0
  have lt0 : ∀ x ∈ p0, x.block < W.heap.size := by obtain ⟨m, hm⟩ := k0; exact DataW.trod_lt m _ _ _ hm
  obtain ⟨X0, w0, z0⟩ : ∃ X : Nat → Nat → Int, SRow W (.slice a0 len0 cap0) len0 [true, true, false, true, true] X ∧ ∀ i, i < len0 → ∀ j, j < [true, true, false, true, true].length → [true, true, false, true, true].getD j true = true → (Lit.int .i64 (X i j)).wf = true := by
    obtain ⟨fuel, hf⟩ := h0
    exact open_recs [true, true, false, true, true] Try.underlying38 Try.underlying49 (by kernel_rfl) rfl (by decide) (fun | 0, _ => ⟨_, rfl, rfl, by kernel_rfl, Try.underlying3⟩ | 1, _ => ⟨_, rfl, rfl, by kernel_rfl, Try.underlying3⟩ | 2, _ => ⟨_, rfl, rfl, by kernel_rfl, Try.underlying4⟩ | 3, _ => ⟨_, rfl, rfl, by kernel_rfl, Try.underlying3⟩ | 4, _ => ⟨_, rfl, rfl, by kernel_rfl, Try.underlying3⟩ | n + 5, h => absurd h (by simp only [List.length]; omega)) hf
  clear hA0 hval0
  refine (walk a0 len0 cap0 X0 W w0 z0).mono fun e W' ⟨he, bel⟩ => ?_
  subst he
  exact ⟨_, rfl, _, _, _, [], _, [], hW', trodAll_mk1 (shut_bool Try.underlying4 _), (trodAll_cons_mk (Below.trod laidOut (by kernel_rfl) (of_decide_eq_true (by kernel_rfl)) k0 bel lt0) trodAll_mk0), rfl, bel.frame _, fun h => by cases h⟩

theorem over : Rows.HotPlaysSaid :=
  OpenClaim.holds_of_wide 6 Try.f6 rfl rfl rfl rfl rfl rfl rfl ⟨rfl, rfl, rfl, rfl, rfl⟩ rfl rfl rfl rfl rfl (by kernel_rfl) Try.func6 (by kernel_rfl)
    (of_decide_eq_true (by kernel_rfl)) (by unfold Func.isWrapper; first | (rw [if_pos (by decide +kernel)]; kernel_rfl) | (rw [if_neg (by decide +kernel)]; exact ⟨rfl, rfl⟩))
    (fun os started H enc _ => lifted os started H enc)
end Go.Proofs.Ytaaikbehdfkhlaa.hotPlays

namespace Go.Proofs.Ytaaikbehdfkhlaa
open Go
theorem hotPlays_holds : Rows.HotPlaysSaid := hotPlays.over
#print axioms hotPlays_holds
end Go.Proofs.Ytaaikbehdfkhlaa
