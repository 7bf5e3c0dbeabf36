/- Proved: for every number cpus and all lists l and moves, davitlaw10.RunqMoves(cpus, l, moves) returns true: what goes from core to core keeps its priority, and there are as many things as before, each on one core (30 things and 60 moves at most, as the law itself says), and l and moves are left alone, with no condition. -/
import Derived.Test.YtpmjojemcpgpiabRows
import Derived.Test.YtpmjojemcpgpiabFo
import Derived.Test.YtpmjojemcpgpiabUt
import Derived.WalkKit
import Derived.ProofKit
import Derived.OpenShut
import Derived.Stop.Joined
import Derived.ShutString
import Derived.ChangeOld
import Derived.Below
import Derived.Carry
import Derived.Test.YtpmjojemcpgpiabFs
import Derived.Deep.RegionHeld3
namespace Go.Proofs.Ytpmjojemcpgpiab.runqMoves
open Go.ChangeShapes Go.WideShapes Go.ChangeAt Go.RowKit
open Fm Qm
set_option linter.unusedVariables false
set_option linter.unusedSimpArgs false

theorem own : ownKnob Try.prog.godebug = none := by kernel_rfl
theorem laidOut : laidOutB Try.prog = true := by kernel_rfl

set_option maxRecDepth 100000 in
set_option maxHeartbeats 4000000 in
theorem walk (a0 : Int) (a1 : Option Addr) (len1 cap1 : Nat) (X1 : Nat → Nat → Int) (a2 : Option Addr) (len2 cap2 : Nat) (X2 : Nat → Nat → Int) (w : World) (w0 : (Lit.int .i64 a0).wf = true) (w1 : SRow w (.slice a1 len1 cap1) len1 [true, true, true, true, true] X1) (z1 : ∀ i, i < len1 → ∀ j, j < [true, true, true, true, true].length → [true, true, true, true, true].getD j true = true → (Lit.int .i64 (X1 i j)).wf = true) (w2 : SRow w (.slice a2 len2 cap2) len2 [true, true, true, true, true] X2) (z2 : ∀ i, i < len2 → ∀ j, j < [true, true, true, true, true].length → [true, true, true, true, true].getD j true = true → (Lit.int .i64 (X2 i j)).wf = true) :
    Calls Try.prog 3 #[.int .i64 a0, .slice a1 len1 cap1, .slice a2 len2 cap2] w fun e w' => e = .returned (.bool true) ∧ Below w.heap.size w w' := by
  have KN : Hid (∀ w, _) := fun w => rqknown_yes w
  by_cases wrong : a0 < 1 ∨ 64 < a0
  · have C : Hid (∀ w, _) := fun w => rqnew_bad a0 w wrong
    clear w0 w1 w2 z1 z2
    by_cases g1 : a0 < 1
    · clear wrong
      go_enter Try.func3, Try.ntmps3
      go_wp2_with fail
      refine (C.out _).mono ?_
      rintro e u1 ⟨rfl, rfl⟩
      go_wp2_with fail
      refine (KN.out _).mono ?_
      rintro e u2 ⟨rfl, hb⟩
      go_wp2
      go_ret
      exact ⟨rfl, hb⟩
    · have g2 : 64 < a0 := by omega
      clear wrong
      go_enter Try.func3, Try.ntmps3
      go_wp2_with fail
      refine (C.out _).mono ?_
      rintro e u1 ⟨rfl, rfl⟩
      go_wp2_with fail
      refine (KN.out _).mono ?_
      rintro e u2 ⟨rfl, hb⟩
      go_wp2
      go_ret
      exact ⟨rfl, hb⟩
  · obtain ⟨n, rfl⟩ := Int.eq_ofNat_of_zero_le (show 0 ≤ a0 by omega)
    have n1 : (1 : Int) ≤ n := by omega
    have n2 : (n : Int) ≤ 64 := by omega
    have C : Hid (∀ _ : Unit, _) := fun _ => rqnew_any n w n1 n2
    have HR : Hid (SRow w (.slice a1 len1 cap1) len1 [true, true, true, true, true] X1) := w1
    have HR2 : Hid (SRow w (.slice a2 len2 cap2) len2 [true, true, true, true, true] X2) := w2
    have HWF : Hid (∀ i, i < len1 → (Lit.int .i64 (X1 i 4)).wf = true) := fun i hi => z1 i hi 4 (by decide) rfl
    have hP : Hid (∀ k ∈ rz w.heap.size n, w.heap.size ≤ k) := rz_ge _ _
    obtain ⟨i0, hi, hz0, hz1, hz2⟩ := info_parts Try.infoAct
    obtain ⟨s, hs⟩ : ∃ s, w.heap.size = s := ⟨_, rfl⟩
    have HS : Hid (w.heap.size = s) := hs
    rw [hs] at C hP ⊢
    clear wrong w0 w1 w2 z1 z2 hs
    go_enter Try.func3, Try.ntmps3
    go_wp2_with fail
    refine (C.out ()).mono ?_
    rintro e u1 ⟨rfl, q1, f1⟩
    have Q1 : Hid (RR u1 s n 0 fun _ => []) := q1
    have H1 : Hid (Below s w u1) := f1
    clear f1 q1 C
    obtain ⟨base, hbase⟩ : ∃ base, s + (3 + 17 * n) = base := ⟨_, rfl⟩
    have HBS : Hid (s + (3 + 17 * n) = base) := hbase
    clear hbase
    go_wp2
    go_loopw [9, 10] (fun v i wr => ∃ (k : Nat) (K : Ks) (I : List Nat), (k : Int) ≤ len1 ∧ (k : Int) ≤ 30 ∧ RR wr s n k K ∧ Below s w wr ∧ SI n K (tt X1 I) ∧ wr.ownsRow base 30 5 v I.length (f5 X1 I) ∧ (I.length : Int) ≤ k ∧ i = .int .i64 k) (fun _ i _ => 30 - (intOf i).toNat)
    case atStart => exact ⟨0, _, [], by omega, by omega, Q1.out, H1.out, si_nil n, World.ownsRow_nil _ _ _ _, by simp, rfl⟩
    case round =>
      obtain ⟨k, K, I, hk, hk2, q, hb, si, own, hil, rfl⟩ := hrel
      clear Q1 H1
      have hz : s ≤ wr.heap.size := by have := hb.size; have := HS.out; omega
      have hbz : base ≤ wr.heap.size := by have := q.rb.hi; have := HBS.out; omega
      have HB : Hid (Below s w wr) := hb
      have HQ : Hid (RR wr s n k K) := q
      have HSI : Hid (SI n K (tt X1 I)) := si
      have HO : Hid (wr.ownsRow base 30 5 u9 I.length (f5 X1 I)) := own
      have tail : (¬ (k : Int) < len1 ∧ decide ((k : Int) < len1) = false) ∨ ((k : Int) < len1 ∧ ¬ (k : Int) < 30) ∨ ((k : Int) < len1 ∧ (k : Int) < 30) := by
        by_cases h : (k : Int) < len1
        · by_cases h2 : (k : Int) < 30
          · exact Or.inr (Or.inr ⟨h, h2⟩)
          · exact Or.inr (Or.inl ⟨h, h2⟩)
        · exact Or.inl ⟨h, decide_eq_false h⟩
      rw [← or_assoc] at tail
      rcases tail with tail | ⟨h, h2⟩
      · obtain ⟨a9, c9, rfl⟩ := own5_shape own
        obtain ⟨il, hIL⟩ : ∃ il, I.length = il := ⟨_, rfl⟩
        have IL : Hid (I.length = il) := hIL
        rw [hIL] at hil
        rw [hIL] at HO ⊢
        clear q hb si own hIL
        rcases tail with ⟨h, hd⟩ | ⟨h, h2⟩
        all_goals (
          go_wp2
          go_loopw [11] (fun i wq => ∃ (j : Nat) (K2 : Ks), (j : Int) ≤ len2 ∧ (j : Int) ≤ 60 ∧ RR wq s n (30 + j) K2 ∧ Below s w wq ∧ SI n K2 (tt X1 I) ∧ wq.ownsRow base 30 5 (.slice a9 il c9) il (f5 X1 I) ∧ i = .int .i64 j) (fun i _ => 60 - (intOf i).toNat)
          case atStart => exact ⟨0, K, by omega, by omega, HQ.out.more (by omega), HB.out, HSI.out, HO.out, rfl⟩
          case round =>
            obtain ⟨j, K2, hj, hj2, q, hb, si, own, rfl⟩ := hrel
            have hzj : s ≤ wr.heap.size := by have := hb.size; have := HS.out; omega
            have HBj : Hid (Below s w wr) := hb
            have HQj : Hid (RR wr s n (30 + j) K2) := q
            have HSj : Hid (SI n K2 (tt X1 I)) := si
            have HOj : Hid (wr.ownsRow base 30 5 (.slice a9 il c9) il (f5 X1 I)) := own
            have tail2 : (¬ (j : Int) < len2 ∧ decide ((j : Int) < len2) = false) ∨ ((j : Int) < len2 ∧ ¬ (j : Int) < 60) ∨ ((j : Int) < len2 ∧ (j : Int) < 60) := by
              by_cases h : (j : Int) < len2
              · by_cases h2 : (j : Int) < 60
                · exact Or.inr (Or.inr ⟨h, h2⟩)
                · exact Or.inr (Or.inl ⟨h, h2⟩)
              · exact Or.inl ⟨h, decide_eq_false h⟩
            rw [← or_assoc] at tail2
            rcases tail2 with tail2 | ⟨h5, h6⟩
            · have SUM : sumK K2 n = il := by rw [si.sum]; unfold tt; rw [List.length_map]; exact IL.out
              have SL : Hid (∀ c, c ≤ n → sumK K2 c ≤ 30) := fun c hc => by have := sum_le (K := K2) hc; omega
              have LD : Hid (∀ c : Nat, c < n → Calls Try.prog 8 #[.pointer (some ⟨s + 2, 0, none⟩), .int .i64 (c : Int)] wr fun e w' => e = .returned (.int .i64 ((K2 c).length : Int)) ∧ w' = wr) := fun c hc => by
                have := load_any (c : Int) q
                rwa [show loN n K2 c = ((K2 c).length : Int) by unfold loN; rw [if_pos (show isC n c from ⟨by omega, by omega⟩), Int.toNat_natCast]] at this
              have HSUM : Hid (sumK K2 n = il) := SUM
              clear q hb si own SUM
              rcases tail2 with ⟨h5, hd5⟩ | ⟨h5, h6⟩
              all_goals (
                go_wp2
                go_loop [12, 13] (fun m i => ∃ c : Nat, (c : Int) ≤ n ∧ m = .int .i64 (sumK K2 c : Nat) ∧ i = .int .i64 (c : Int)) (fun _ i => n - (intOf i).toNat)
                case atStart => exact ⟨0, by omega, rfl, rfl⟩
                case round =>
                  obtain ⟨c, hc, rfl, rfl⟩ := hrel
                  by_cases h7 : (c : Int) < n
                  · have D : Hid (∀ _ : Unit, _) := fun _ => LD.out c (by omega)
                    have b1 := SL.out (c + 1) (by omega)
                    have b0 := SL.out c (by omega)
                    have ec : sumK K2 (c + 1) = sumK K2 c + (K2 c).length := rfl
                    obtain ⟨x, hx⟩ : ∃ x, sumK K2 c = x := ⟨_, rfl⟩
                    obtain ⟨y, hy⟩ : ∃ y, (K2 c).length = y := ⟨_, rfl⟩
                    rw [hx, hy] at ec
                    rw [ec] at b1
                    rw [hy] at D
                    rw [hx]
                    have E : Hid (sumK K2 (c + 1) = x + y) := ec
                    have gx : (x : Int) + y ≤ 30 := by omega
                    clear ec hx hy b1 b0
                    go_wp2_with fail
                    refine (D.out ()).mono ?_
                    rintro e w' ⟨rfl, rfl⟩
                    go_wp2
                    go_round
                    case rel => exact ⟨c + 1, by omega, by rw [E.out]; go_num, by go_num⟩
                    case measure => simp [intOf]; omega
                  · obtain rfl : c = n := by omega
                    rw [HSUM.out]
                    go_wp2
                    go_loopw [14] (fun i wq => ∃ (t : Nat), (t : Int) ≤ il ∧ RR wq s c (30 + j) K2 ∧ Below s w wq ∧ wq.ownsRow base 30 5 (.slice a9 il c9) il (f5 X1 I) ∧ i = .int .i64 t) (fun i _ => il - (intOf i).toNat)
                    case atStart => exact ⟨0, by omega, HQj.out, HBj.out, HOj.out, rfl⟩
                    case round =>
                      obtain ⟨t, ht, q, hb, own, rfl⟩ := hrel
                      have HBt : Hid (Below s w wr) := hb
                      have hzt : s ≤ wr.heap.size := by have := hb.size; have := HS.out; omega
                      by_cases h8 : (t : Int) < il
                      · obtain ⟨gb, rfl, d3, d4⟩ := own5_cell own IL.out (k := t) (by omega)
                        obtain ⟨r1, r2, r3⟩ := si_prio HSj.out q.al (tt_mem X1 I t (by have := IL.out; omega))
                        have PJ : Hid (∀ _ : Unit, _) := fun _ => rqprio_any (X1 (I.getD t 0) 4) r3 q
                        rw [r1, r2] at PJ
                        have HQt : Hid (RR wr s c (30 + j) K2) := q
                        have HOt : Hid (wr.ownsRow base 30 5 (.slice (some ⟨gb, 0, none⟩) il c9) il (f5 X1 I)) := own
                        have K3 : Hid (∀ w5 : World, Below wr.heap.size wr w5 → w5.cell? ⟨gb, t * 5 + 3, none⟩ = some (.int .i64 (X1 (I.getD t 0) 3))) := fun w5 b => (b.cell (p := ⟨gb, t * 5 + 3, none⟩) (World.block_lt_of_cell? wr _ d3)).trans d3
                        generalize X1 (I.getD t 0) 3 = x3 at *
                        generalize X1 (I.getD t 0) 4 = x4 at *
                        have nx : (x3 != x3) = false := by simp
                        clear q hb own r1 r2 r3 d3
                        go_wp2_with fail
                        refine (PJ.out ()).mono ?_
                        rintro e w5 ⟨rfl, f5⟩
                        have k5 := K3.out w5 f5
                        have Q5 : Hid (RR w5 s c (30 + j) K2) := HQt.out.below f5
                        have B5 : Hid (Below s w w5) := HBt.out.trans (f5.mono hzt)
                        have O5 : Hid (w5.ownsRow base 30 5 (.slice (some ⟨gb, 0, none⟩) il c9) il (_root_.Go.Proofs.Ytpmjojemcpgpiab.f5 X1 I)) := owns5_keep HOt.out (Fr.of_below f5) (Nat.le_refl _) (by simp)
                        clear f5 d4
                        go_wp2
                        go_roundw
                        case rel => exact ⟨t + 1, by omega, Q5.out, B5.out, O5.out, by go_num⟩
                        case measure => simp [intOf]; omega
                      · clear q hb own
                        go_wp2_with fail
                        refine (KN.out _).mono ?_
                        rintro e w6 ⟨rfl, b6⟩
                        go_wp2
                        go_ret
                        exact ⟨rfl, HBt.out.trans (b6.mono hzt)⟩)
            · obtain ⟨b0, off, rfl, hA⟩ := srow_cell (wr := wr) HR2.out (by rw [HS.out]; exact hb) h5
              have Y1 : Hid (∀ w2 : World, Below s w w2 → w2.cell? ⟨b0, off + j * 5 + 1, none⟩ = some (.int .i64 (X2 j 1)) ∧ w2.cell? ⟨b0, off + j * 5 + 2, none⟩ = some (.int .i64 (X2 j 2))) := fun w2 b2 => by
                obtain ⟨ab3, off3, e3, hc3⟩ := srow_cell (wr := w2) HR2.out (by rw [HS.out]; exact b2) h5
                cases e3
                exact ⟨hc3 1 (by decide), hc3 2 (by decide)⟩
              obtain ⟨x1, x2⟩ := Y1.out wr hb
              have P : Hid (∀ w1 : World, w1.heap = wr.heap → _) := fun w1 e => move_any (X2 j 1) (X2 j 2) (by omega) (q.heap e)
              have S2 : Hid (SI n (mvK n K2 (X2 j 1) (X2 j 2)) (tt X1 I)) := si_move si q.al _ _
              generalize X2 j 1 = y1 at *
              generalize X2 j 2 = y2 at *
              generalize mvN n K2 y1 y2 = nn at *
              generalize mvE n K2 y1 y2 = e2 at *
              generalize mvK n K2 y1 y2 = K3 at *
              clear q hb si own hA
              go_wp2
              go_region_held3 (fun w' => w'.cell? ⟨b0, off + j * 5 + 1, none⟩ = some (.int .i64 y1) ∧ w'.cell? ⟨b0, off + j * 5 + 2, none⟩ = some (.int .i64 y2)) (go_keep)
                (first | (go_at_call 7; refine (P.out _ ?_).mono ?_; rfl; rintro e w2 ⟨rfl, q2, f2⟩; have B2 : Below s w w2 := fr_own (w := wr.drew) ⟨HBj.out.os, HBj.out.tape, HBj.out.output, HBj.out.size, HBj.out.block⟩ f2 hzj hP.out; obtain ⟨k1, k2⟩ := Y1.out w2 B2))
              all_goals go_wp2
              have O2 : w2.ownsRow base 30 5 (.slice a9 il c9) il (f5 X1 I) := owns5_keep (w := wr.drew) HOj.out f2 (Nat.le_refl _) (fun i hi => by have := ((mem_rz s n i).1 hi).2; have := HBS.out; omega)
              clear f2
              go_roundw
              case rel => exact ⟨j + 1, K3, by omega, by omega, q2, B2, S2.out, O2, by go_num⟩
              case measure => simp [intOf]; omega)
      · obtain ⟨b0, off, rfl, hA⟩ := srow_cell (wr := wr) HR.out (by rw [HS.out]; exact hb) h
        have Y1 : Hid (∀ w2 : World, Below s w w2 → w2.cell? ⟨b0, off + k * 5, none⟩ = some (.int .i64 (X1 k 0)) ∧ w2.cell? ⟨b0, off + k * 5 + 1, none⟩ = some (.int .i64 (X1 k 1)) ∧ w2.cell? ⟨b0, off + k * 5 + 2, none⟩ = some (.int .i64 (X1 k 2)) ∧ w2.cell? ⟨b0, off + k * 5 + 3, none⟩ = some (.int .i64 (X1 k 3)) ∧ w2.cell? ⟨b0, off + k * 5 + 4, none⟩ = some (.int .i64 (X1 k 4))) := fun w2 b2 => by
          obtain ⟨ab3, off3, e3, hc3⟩ := srow_cell (wr := w2) HR.out (by rw [HS.out]; exact b2) h
          cases e3
          exact ⟨hc3 0 (by decide), hc3 1 (by decide), hc3 2 (by decide), hc3 3 (by decide), hc3 4 (by decide)⟩
        obtain ⟨-, x1, -, x3, x4⟩ := Y1.out wr hb
        have P : Hid (∀ w1 : World, w1.heap = wr.heap → _) := fun w1 e => put_any (X1 k 1) (X1 k 3) (X1 k 4) (HWF.out k (by omega)) (by omega) (q.heap e)
        have OKP : Hid (∀ w2 : World, Fr wr.heap.size (rz s n) wr w2 → w2.ownsRow base 30 5 u9 I.length (f5 X1 I)) := fun w2 f => owns5_keep own f (Nat.le_refl _) (fun i hi => by have := ((mem_rz s n i).1 hi).2; have := HBS.out; omega)
        obtain ⟨a9, c9, rfl⟩ := own5_shape own
        by_cases hok : puE n K (X1 k 1) (X1 k 3) (X1 k 4) = 0
        · have S2 : Hid (SI n (puK n K (X1 k 1) (X1 k 3) (X1 k 4)) (tt X1 (I ++ [k]))) := by
            have := si_put si hok
            unfold tt at this ⊢
            rw [List.map_append]
            exact this
          have F2 : Hid (f5 X1 (I ++ [k]) = f5 X1 I ++ [.int .i64 (X1 k 0), .int .i64 (X1 k 1), .int .i64 (X1 k 2), .int .i64 (X1 k 3), .int .i64 (X1 k 4)]) := by rw [f5_app]; exact rfl
          rw [hok] at P
          generalize puK n K (X1 k 1) (X1 k 3) (X1 k 4) = K2 at *
          generalize X1 k 0 = y0 at *
          generalize X1 k 1 = y1 at *
          generalize X1 k 2 = y2 at *
          generalize X1 k 3 = y3 at *
          generalize X1 k 4 = y4 at *
          clear q hb si own hA hok
          go_wp2
          go_region_held3 (fun w' => w'.cell? ⟨b0, off + k * 5 + 1, none⟩ = some (.int .i64 y1) ∧ w'.cell? ⟨b0, off + k * 5 + 3, none⟩ = some (.int .i64 y3) ∧ w'.cell? ⟨b0, off + k * 5 + 4, none⟩ = some (.int .i64 y4)) (go_keep)
            (first | (go_at_call 6; refine (P.out _ ?_).mono ?_; rfl; rintro e w2 ⟨rfl, q2, f2⟩; have B2 : Below s w w2 := fr_own (w := wr.drew) ⟨HB.out.os, HB.out.tape, HB.out.output, HB.out.size, HB.out.block⟩ f2 hz hP.out; obtain ⟨k0, k1, k2, k3, k4⟩ := Y1.out w2 B2))
          have O2 : w2.ownsRow base 30 5 (.slice a9 I.length c9) I.length (f5 X1 I) := OKP.out w2 ⟨f2.os, f2.tape, f2.output, f2.size, f2.block⟩
          have z2 : base ≤ w2.heap.size := by have := f2.size; have : wr.drew.heap.size = wr.heap.size := rfl; omega
          have HQ2 : Hid (RR w2 s n (k + 1) K2) := q2
          have HB2 : Hid (Below s w w2) := B2
          have z3 : s ≤ w2.heap.size := by have := B2.size; have := HS.out; omega
          clear f2 q2 B2
          go_wp2_with (at_builtin; refine wpList_append_own _ rfl _ _ 22 rfl base 30 i0 _ 5 40 Try.underlying22 hi hz0 hz1 hz2 rfl (by decide) _ _ _ rfl (O2.alloc _) ⟨_, 0, none⟩ 1 1 [.int .i64 y0, .int .i64 y1, .int .i64 y2, .int .i64 y3, .int .i64 y4] rfl rfl ?c1 ?c2 ?c3 ?c4 ?c5 ?_)
          case c1 =>
            intro j u hj
            match j, hj with
            | 0, hj => simp at hj; subst hj; simp [Addr.add]
            | 1, hj => simp at hj; subst hj; simp [Addr.add]
            | 2, hj => simp at hj; subst hj; simp [Addr.add]
            | 3, hj => simp at hj; subst hj; simp [Addr.add]
            | 4, hj => simp at hj; subst hj; simp [Addr.add]
          case c2 => intro u hu; simp at hu; rcases hu with rfl | rfl | rfl | rfl | rfl <;> rfl
          case c3 => unfold maxLen; omega
          case c4 => omega
          case c5 => simp; omega
          intro v' w3 hown' hgrow _
          have hlt := O2.lt
          have b3 : Below base w2 w3 := ((Below.refl base w2).alloc z2 _).grown hgrow (by simp; omega) (fun j hj => (hlt j hj).1)
          have Q3 : Hid (RR w3 s n (k + 1) K2) := HQ2.out.zone (by rw [HBS.out]; exact b3)
          have B3 : Hid (Below s w w3) := HB2.out.trans (b3.mono (by have := HBS.out; omega))
          have O3 : Hid (w3.ownsRow base 30 5 v' (I ++ [k]).length (f5 X1 (I ++ [k]))) := by rw [F2.out, List.length_append]; exact hown'
          clear hown' hgrow b3 hlt O2
          go_wp2
          go_roundw
          case rel => exact ⟨k + 1, K2, I ++ [k], by omega, by omega, Q3.out, B3.out, S2.out, O3.out, by simp; omega, by go_num⟩
          case measure => simp [intOf]; omega
        · have S2 : Hid (SI n (puK n K (X1 k 1) (X1 k 3) (X1 k 4)) (tt X1 I)) := by rw [pu_bad hok]; exact si
          generalize puK n K (X1 k 1) (X1 k 3) (X1 k 4) = K2 at *
          generalize puE n K (X1 k 1) (X1 k 3) (X1 k 4) = e2 at *
          generalize X1 k 1 = y1 at *
          generalize X1 k 3 = y3 at *
          generalize X1 k 4 = y4 at *
          have hno : (e2 == 0) = false := by simpa using hok
          clear q hb si own hA hok
          go_wp2
          go_region_held3 (fun w' => w'.cell? ⟨b0, off + k * 5 + 1, none⟩ = some (.int .i64 y1) ∧ w'.cell? ⟨b0, off + k * 5 + 3, none⟩ = some (.int .i64 y3) ∧ w'.cell? ⟨b0, off + k * 5 + 4, none⟩ = some (.int .i64 y4)) (go_keep)
            (first | (go_at_call 6; refine (P.out _ ?_).mono ?_; rfl; rintro e w2 ⟨rfl, q2, f2⟩; have B2 : Below s w w2 := fr_own (w := wr.drew) ⟨HB.out.os, HB.out.tape, HB.out.output, HB.out.size, HB.out.block⟩ f2 hz hP.out; obtain ⟨k0, k1, k2, k3, k4⟩ := Y1.out w2 B2))
          all_goals go_wp2
          have O2 : w2.ownsRow base 30 5 (.slice a9 I.length c9) I.length (f5 X1 I) := OKP.out w2 ⟨f2.os, f2.tape, f2.output, f2.size, f2.block⟩
          clear f2
          go_roundw
          case rel => exact ⟨k + 1, K2, I, by omega, by omega, q2, B2, S2.out, O2, by omega, by go_num⟩
          case measure => simp [intOf]; omega

set_option maxRecDepth 100000 in
theorem lifted (os : Os) (started : os.Started) (H : Type) (enc : TypeId × Value → H) :
    ReturnsInHanded {} Try.checked os 3 .any (Rows.runqMovesSpec.pre6 enc Try.prog Try.f3 Rows.runqMovesRow.domain false) (Rows.runqMovesSpec.post enc Try.prog Try.f3 false true false false) := by
  refine returnsInHanded_of_change (C := Try.checked) own started (by kernel_rfl) Try.func3
    (ChangeSpec.witness6 (enc := enc) (C := Try.checked) false ⟨#[], #[.int .i64 0, .slice none 0 0, .slice none 0 0], []⟩ 8 (by kernel_rfl) (by kernel_rfl) (by kernel_rfl) (by kernel_rfl)) ?_
  intro W base args ds gs before hval0 hW hcnd _
  have hval : ∀ (j : Nat) t v, Try.f3.params[j]? = some t → args[j]? = some v → Value.okWide Try.prog W .any base t v := hval0
  have hW' := hW
  obtain ⟨p, q, hA0, hV, rfl, hfz, hnd⟩ := hW
  have hA : DataW.TrodAll enc Try.prog W 0 (fun _ => true) true Try.f3.params.toList args.toList ds p := hA0
  rw [Try.params3] at hA hval
  obtain ⟨v0, vs0, d0, ds0, p0, q0, hargs, rfl, rfl, h0, r0⟩ := trodAll_cons hA
  obtain ⟨v1, vs1, d1, ds1, p1, q1, rfl, rfl, rfl, h1, r1⟩ := trodAll_cons r0
  obtain ⟨v2, vs2, d2, ds2, p2, q2, rfl, rfl, rfl, h2, r2⟩ := trodAll_cons r1
  obtain ⟨rfl, rfl, rfl⟩ := trodAll_nil r2
  obtain rfl : args = #[v0, v1, v2] := by cases args; simp_all
  obtain ⟨rfl, rfl⟩ := trodVars_none hV
  obtain ⟨a0, rfl, rfl, rfl, w0⟩ := open_int Try.underlying3 (hval 0 3 v0 rfl rfl) h0
  obtain ⟨a1, len1, cap1, rfl⟩ := okWide_slice Try.underlying22 (hval 1 22 v1 rfl rfl)
  have k1 := h1
  have lt1 : ∀ x ∈ p1, x.block < W.heap.size := by obtain ⟨m, hm⟩ := k1; exact DataW.trod_lt m _ _ _ hm
  obtain ⟨X1, w1, z1⟩ : ∃ X : Nat → Nat → Int, SRow W (.slice a1 len1 cap1) len1 [true, true, true, true, true] X ∧ ∀ i, i < len1 → ∀ j, j < [true, true, true, true, true].length → [true, true, true, true, true].getD j true = true → (Lit.int .i64 (X i j)).wf = true := by
    obtain ⟨fuel, hf⟩ := h1
    exact open_recs [true, true, true, true, true] Try.underlying22 Try.underlying30 (by kernel_rfl) rfl (by decide) (fun | 0, _ => ⟨_, rfl, rfl, by kernel_rfl, Try.underlying3⟩ | 1, _ => ⟨_, rfl, rfl, by kernel_rfl, Try.underlying3⟩ | 2, _ => ⟨_, rfl, rfl, by kernel_rfl, Try.underlying3⟩ | 3, _ => ⟨_, rfl, rfl, by kernel_rfl, Try.underlying3⟩ | 4, _ => ⟨_, rfl, rfl, by kernel_rfl, Try.underlying3⟩ | n + 5, h => absurd h (by simp only [List.length]; omega)) hf
  obtain ⟨a2, len2, cap2, rfl⟩ := okWide_slice Try.underlying22 (hval 2 22 v2 rfl rfl)
  have k2 := h2
  have lt2 : ∀ x ∈ p2, x.block < W.heap.size := by obtain ⟨m, hm⟩ := k2; exact DataW.trod_lt m _ _ _ hm
  obtain ⟨X2, w2, z2⟩ : ∃ X : Nat → Nat → Int, SRow W (.slice a2 len2 cap2) len2 [true, true, true, true, true] X ∧ ∀ i, i < len2 → ∀ j, j < [true, true, true, true, true].length → [true, true, true, true, true].getD j true = true → (Lit.int .i64 (X i j)).wf = true := by
    obtain ⟨fuel, hf⟩ := h2
    exact open_recs [true, true, true, true, true] Try.underlying22 Try.underlying30 (by kernel_rfl) rfl (by decide) (fun | 0, _ => ⟨_, rfl, rfl, by kernel_rfl, Try.underlying3⟩ | 1, _ => ⟨_, rfl, rfl, by kernel_rfl, Try.underlying3⟩ | 2, _ => ⟨_, rfl, rfl, by kernel_rfl, Try.underlying3⟩ | 3, _ => ⟨_, rfl, rfl, by kernel_rfl, Try.underlying3⟩ | 4, _ => ⟨_, rfl, rfl, by kernel_rfl, Try.underlying3⟩ | n + 5, h => absurd h (by simp only [List.length]; omega)) hf
  clear hA0 hval0
  refine (walk a0 a1 len1 cap1 X1 a2 len2 cap2 X2 W w0 w1 z1 w2 z2).mono fun e W' ⟨he, bel⟩ => ?_
  subst he
  exact ⟨_, rfl, _, _, _, [], _, [], hW', trodAll_mk1 (shut_bool Try.underlying4 _), (trodAll_cons_mk (shut_int Try.underlying3 w0) (trodAll_cons_mk (Below.trod laidOut (by kernel_rfl) (of_decide_eq_true (by kernel_rfl)) k1 bel lt1) (trodAll_cons_mk (Below.trod laidOut (by kernel_rfl) (of_decide_eq_true (by kernel_rfl)) k2 bel lt2) trodAll_mk0))), rfl, bel.frame _, fun h => by cases h⟩

theorem over : Rows.RunqMovesSaid :=
  OpenClaim.holds_of_wide 3 Try.f3 rfl rfl rfl rfl rfl rfl rfl ⟨rfl, rfl, rfl, rfl, rfl⟩ rfl rfl rfl rfl rfl (by kernel_rfl) Try.func3 (by kernel_rfl)
    (of_decide_eq_true (by kernel_rfl)) (by unfold Func.isWrapper; first | (rw [if_pos (by decide +kernel)]; kernel_rfl) | (rw [if_neg (by decide +kernel)]; exact ⟨rfl, rfl⟩))
    (fun os started H enc _ => lifted os started H enc)
end Go.Proofs.Ytpmjojemcpgpiab.runqMoves

namespace Go.Proofs.Ytpmjojemcpgpiab
open Go
theorem runqMoves_holds : Rows.RunqMovesSaid := runqMoves.over
#print axioms runqMoves_holds
end Go.Proofs.Ytpmjojemcpgpiab
