/- Proved: for every truth up and every list plan, davitlaw22.HotFails(up, plan) returns true: a request of which a stage is planned ends with a failure, and its stages ahead of that one are undone, the last one first; one of which none is ends well; undoing is never failed (50 are planned at most, as the law itself says), and plan is left alone; no condition. -/
import Derived.Test.YtaaikbehdfkhlaaRows
import Derived.Test.YtaaikbehdfkhlaaFo
import Derived.Test.YtaaikbehdfkhlaaHx
import Derived.WalkKit
import Derived.ProofKit
import Derived.OpenShut
import Derived.Stop.Joined
import Derived.ShutString
import Derived.ChangeOld
import Derived.Below
import Derived.Carry
namespace Go.Proofs.Ytaaikbehdfkhlaa.hotFails
open Go.ChangeShapes Go.WideShapes Go.ChangeAt Go.RowKit
open Rm Hp
set_option linter.unusedVariables false
set_option linter.unusedSimpArgs false

theorem own : ownKnob Try.prog.godebug = none := by kernel_rfl
theorem laidOut : laidOutB Try.prog = true := by kernel_rfl

set_option maxRecDepth 100000 in
set_option maxHeartbeats 4000000 in
theorem walk (a0 : Bool) (a1 : Option Addr) (len1 cap1 : Nat) (xs1 : List Int) (w : World) (w1 : Row w (.slice a1 len1 cap1) xs1) (l1 : xs1.length = len1) (z1 : ∀ n ∈ xs1, (Lit.int .i64 n).wf = true) :
    Calls Try.prog 7 #[.bool a0, .slice a1 len1 cap1] w fun e w' => e = .returned (.bool true) ∧ Below w.heap.size w w' := by
  have KN : Hid (∀ w1, _) := fun w1 => hknown_yes w1
  have HR : Hid (Row w (.slice a1 len1 cap1) xs1 ∧ xs1.length = len1) := ⟨w1, l1⟩
  have HW : Hid (∀ k, k < len1 → (Lit.int .i64 (xs1.getD k 0)).wf = true) := fun k hk => z1 _ (by
    rw [← l1] at hk
    rw [List.getD_eq_getElem?_getD, List.getElem?_eq_getElem hk]
    exact List.getElem_mem hk)
  have t0 := da_new w
  obtain ⟨u0, hu0⟩ : ∃ u0, w.alloc (.cells #[.pointer none, .map none] 43) = u0 := ⟨_, rfl⟩
  have HU0 : Hid (w.alloc (.cells #[.pointer none, .map none] 43) = u0) := hu0
  rw [hu0] at t0
  obtain ⟨s, hs⟩ : ∃ s, w.heap.size = s := ⟨_, rfl⟩
  have HS : Hid (w.heap.size = s) := hs
  rw [hs] at t0 ⊢
  have T0 : Hid (DA w u0 s [] none (fun _ => false) 0) := t0
  clear hu0 hs t0 w1 l1 z1
  cases a0
  · go_enter Try.func7, Try.ntmps7
    go_wp2
    rw [HU0.out, HS.out]
    go_loopw [7, 8] (fun v i wr => ∃ (k f : Nat) (P : Int → Bool), (k : Int) ≤ 50 ∧ (k : Int) ≤ len1 ∧ (f : Int) ≤ 10 ∧ Fst 10 f P ∧ DA w wr s [] none P k ∧ v = .int .i64 (f : Int) ∧ i = .int .i64 k) (fun _ i _ => 50 - (intOf i).toNat)
    case atStart => exact ⟨0, 10, _, by omega, by omega, by omega, fst_start 10, T0.out, rfl, rfl⟩
    case round =>
      obtain ⟨k, f, P, hk, hk2, hf, fs, q, rfl, rfl⟩ := hrel
      clear T0
      have tail : (¬ (k : Int) < len1 ∧ decide ((k : Int) < len1) = false) ∨ ((k : Int) < len1 ∧ ¬ (k : Int) < 50) ∨ ((k : Int) < len1 ∧ (k : Int) < 50) := by
        by_cases h : (k : Int) < len1
        · by_cases h2 : (k : Int) < 50
          · exact Or.inr (Or.inr ⟨h, h2⟩)
          · exact Or.inr (Or.inl ⟨h, h2⟩)
        · exact Or.inl ⟨h, decide_eq_false h⟩
      rw [← or_assoc] at tail
      rcases tail with tail | ⟨h, h2⟩
      · have P1 : Hid (∀ _ : Unit, _) := fun _ => da_begin false 1 0 q
        rw [show beE none 1 0 = 0 by decide, show beR none false 1 0 = some ⟨false, 1, 0, 0, false, false⟩ from rfl] at P1
        have FS : Hid (Fst 10 f P) := fs
        have HK : Hid (k ≤ 50) := by show k ≤ 50; omega
        clear q fs
        rcases tail with ⟨h, hd⟩ | ⟨h, h2⟩
        all_goals (
          go_wp2_with fail
          refine (P1.out ()).mono ?_
          rintro e u1 ⟨rfl, t1⟩
          have T1 : Hid (DA w u1 s [] (some ⟨false, 1, 0, 0, false, false⟩) P k) := t1
          clear t1 P1
          go_wp2
          go_loopw [9] (fun i wr => ∃ (j : Nat), (j : Int) ≤ f ∧ DA w wr s [] (some ⟨false, 1, 0, j, false, false⟩) P k ∧ i = .int .i64 j) (fun i _ => f - (intOf i).toNat)
          case atStart => exact ⟨0, by omega, T1.out, rfl⟩
          case round =>
            obtain ⟨j, hj, q, rfl⟩ := hrel
            clear T1
            by_cases hjf : (j : Int) < f
            · have hn : j < nn false := by show j < 10; omega
              have hp : P j = false := FS.out.no j (by omega)
              have HN : Hid (j < nn false ∧ P j = false) := ⟨hn, hp⟩
              obtain ⟨r1, r2, r3, r4, r5, r6⟩ := fw_no (up := false) (c := 1) (y := 0) (t := false) hn hp
              obtain ⟨v1, v2, v3, v4, v5, v6⟩ := fw_no (up := false) (c := 1) (y := 0) (t := true) hn hp
              obtain ⟨g1, g2⟩ := fw_done (up := false) (c := 1) (y := 0) (t := true) hn
              have P2 : Hid (∀ _ : Unit, _) := fun _ => da_next q
              rw [r1, r2, r3, r4, r5, r6, show stv (j : Int) false false = .agg #[.int .i64 (j : Int), .bool false, .bool false] from rfl] at P2
              have P3 : Hid (∀ u A, DA w u s A (some ⟨false, 1, 0, j, false, true⟩) P k → _) := fun u A t => da_next (A := A) (wr := u) t
              rw [v1, v2, v3, v4, v5, v6, show stv (j : Int) false false = .agg #[.int .i64 (j : Int), .bool false, .bool false] from rfl] at P3
              have P4 : Hid (∀ u A, DA w u s A (some ⟨false, 1, 0, j, false, true⟩) P k → _) := fun u A t => da_done (A := A) (wr := u) t
              rw [g1, g2] at P4
              have nj : ((j : Int) != (j : Int)) = false := by simp
              clear q hn hp r1 r2 r3 r4 r5 r6 v1 v2 v3 v4 v5 v6 g1 g2
              go_wp2_with fail
              refine (P2.out ()).mono ?_
              rintro e u2 ⟨rfl, t2⟩
              have T2 : Hid _ := t2.box (t := 53) (j : Int) false false
              clear t2 P2
              go_wp2_with fail
              refine (P3.out _ _ T2.out).mono ?_
              rintro e u3 ⟨rfl, t3⟩
              have t4 := t3.box (t := 53) (j : Int) false false
              have x0 := t4.at (x := (u2.heap.size, sc (j : Int) false false, 53)) (by simp)
              have y00 : (bx 53 u3 (j : Int) false false).cell? ⟨u2.heap.size, 0, none⟩ = some (.int .i64 (j : Int)) := x0.cell 0
              have y01 : (bx 53 u3 (j : Int) false false).cell? ⟨u2.heap.size, 1, none⟩ = some (.bool false) := x0.cell 1
              have y02 : (bx 53 u3 (j : Int) false false).cell? ⟨u2.heap.size, 2, none⟩ = some (.bool false) := x0.cell 2
              have x1 := t4.at (x := (u3.heap.size, sc (j : Int) false false, 53)) (by simp)
              have y10 : (bx 53 u3 (j : Int) false false).cell? ⟨u3.heap.size, 0, none⟩ = some (.int .i64 (j : Int)) := x1.cell 0
              have y11 : (bx 53 u3 (j : Int) false false).cell? ⟨u3.heap.size, 1, none⟩ = some (.bool false) := x1.cell 1
              have y12 : (bx 53 u3 (j : Int) false false).cell? ⟨u3.heap.size, 2, none⟩ = some (.bool false) := x1.cell 2
              have T4 : Hid _ := t4
              unfold bx at y00 y01 y02 y10 y11 y12
              clear t3 t4 x0 x1 P3 T2
              go_wp2_with fail
              refine (P4.out _ _ T4.out).mono ?_
              rintro e u5 ⟨rfl, t5⟩
              have T5 : Hid (DA w u5 s [] (some ⟨false, 1, 0, j + 1, false, false⟩) P k) := t5.drop.drop
              clear t5 P4 T4 y00 y01 y02 y10 y11 y12
              go_wp2
              go_roundw
              case rel => exact ⟨j + 1, by omega, T5.out, by go_num⟩
              case measure => simp [intOf]; omega
            · obtain rfl : f = j := by omega
              clear hjf hj
              by_cases hfn : f = 10
              · subst hfn
                have P2 : Hid (∀ _ : Unit, _) := fun _ => da_end q
                rw [show enW (some ⟨false, 1, 0, 10, false, false⟩) = 0 by decide, show enE (some ⟨false, 1, 0, 10, false, false⟩) = 0 by decide] at P2
                clear q FS
                go_wp2_with fail
                refine (P2.out ()).mono ?_
                rintro e u2 ⟨rfl, t2⟩
                have M2 : Hid (Below s w u2 ∧ s ≤ u2.heap.size) := ⟨t2.bel, by have := t2.hi; omega⟩
                clear t2 P2
                go_wp2_with fail
                refine (KN.out _).mono ?_
                rintro e u3 ⟨rfl, b3⟩
                go_wp2
                go_ret
                exact ⟨rfl, M2.out.1.trans (b3.mono M2.out.2)⟩
              · have hn : f < nn false := by show f < 10; omega
                have hp : P f = true := FS.out.yes (by omega)
                have en : ((f : Int) == 10) = false := by simp; omega
                obtain ⟨r1, r2, r3, r4, r5⟩ := fw_yes (up := false) (c := 1) (y := 0) hn hp
                have P2 : Hid (∀ _ : Unit, _) := fun _ => da_next q
                rw [r1, r2, r3, r4, r5, show stv (f : Int) false true = .agg #[.int .i64 (f : Int), .bool false, .bool true] from rfl] at P2
                generalize nxP P (some ⟨false, 1, 0, f, false, false⟩) = P9 at *
                have nf : ((f : Int) != (f : Int)) = false := by simp
                clear q hn hp r1 r2 r3 r4 r5 FS hfn
                go_wp2_with fail
                refine (P2.out ()).mono ?_
                rintro e u2 ⟨rfl, t2⟩
                have t3 := t2.box (t := 53) (f : Int) false true
                have T3 : Hid (DA w (bx 53 u2 (f : Int) false true) s [] (some ⟨false, 1, 0, f, true, true⟩) P9 k) := t3.drop
                clear t2 t3 P2
                go_wp2
                go_loopw [18] (fun i wr => ∃ (j : Nat) (t : Bool) (P : Int → Bool) (N : Nat), (j : Int) ≤ f ∧ Hid (N + j ≤ 100) ∧ DA w wr s [] (some ⟨false, 1, 0, j, true, t⟩) P N ∧ i = .int .i64 ((j : Int) - 1)) (fun i _ => (intOf i + 1).toNat)
                case atStart => exact ⟨f, true, P9, k, by omega, by have := HK.out; show k + f ≤ 100; omega, T3.out, by go_num⟩
                case round =>
                  obtain ⟨j, t, P, N, hj, hN, q, rfl⟩ := hrel
                  clear T3
                  by_cases h0 : j = 0
                  · subst h0
                    have P2 : Hid (∀ _ : Unit, _) := fun _ => da_end q
                    rw [(bw_end (up := false) (c := 1) (y := 0) (t := t)).1, (bw_end (up := false) (c := 1) (y := 0) (t := t)).2] at P2
                    clear q
                    go_wp2_with fail
                    refine (P2.out ()).mono ?_
                    rintro e u3 ⟨rfl, t3⟩
                    have M3 : Hid (Below s w u3 ∧ s ≤ u3.heap.size) := ⟨t3.bel, by have := t3.hi; omega⟩
                    clear t3 P2
                    go_wp2_with fail
                    refine (KN.out _).mono ?_
                    rintro e u4 ⟨rfl, b4⟩
                    go_wp2
                    go_ret
                    exact ⟨rfl, M3.out.1.trans (b4.mono M3.out.2)⟩
                  · have hp : 0 < j := by omega
                    obtain ⟨p, hpj⟩ : ∃ p, j - 1 = p := ⟨_, rfl⟩
                    have hp1 : (j : Int) - 1 = (p : Int) := by omega
                    have hwf : (Lit.int .i64 (p : Int)).wf = true := by
                      simp [Lit.wf, IntKind.min, IntKind.max, IntKind.signed, IntKind.bits]
                      omega
                    obtain ⟨r1, r2, r3, r4, r5, r6⟩ := bw_next (up := false) (c := 1) (y := 0) (t := t) (P := plP P p) hp
                    obtain ⟨g1, g2⟩ := bw_done (up := false) (c := 1) (y := 0) (t := t) hp
                    have P2 : Hid (∀ _ : Unit, _) := fun _ => da_plan (p : Int) hwf (by have := hN.out; omega) q
                    rw [plE_yes (by omega) (by omega)] at P2
                    have P3 : Hid (∀ u A, DA w u s A (some ⟨false, 1, 0, j, true, t⟩) (plP P p) (N + 1) → _) := fun u A t => da_next (A := A) (wr := u) t
                    rw [r1, r2, r3, r4, r5, r6, hpj, show stv (p : Int) true false = .agg #[.int .i64 (p : Int), .bool true, .bool false] from rfl] at P3
                    have P4 : Hid (∀ u A, DA w u s A (some ⟨false, 1, 0, j, true, t⟩) (plP P p) (N + 1) → _) := fun u A t => da_done (A := A) (wr := u) t
                    rw [g1, g2, hpj] at P4
                    generalize plP P p = P8 at *
                    have HP : Hid (N + 1 + p ≤ 100) := by have := hN.out; show N + 1 + p ≤ 100; omega
                    have hpm : (p : Int) ≤ f := by omega
                    have hmu : (intOf (.int .i64 ((p : Int) - 1)) + 1).toNat < (intOf (.int .i64 (p : Int)) + 1).toNat := by simp [intOf]
                    have np : ((p : Int) != (p : Int)) = false := by simp
                    clear q h0 hp hpj hj hwf hN r1 r2 r3 r4 r5 r6 g1 g2
                    rw [hp1]
                    clear hp1
                    go_wp2_with fail
                    refine (P2.out ()).mono ?_
                    rintro e u3 ⟨rfl, t3⟩
                    have T3 : Hid _ := t3
                    clear t3 P2
                    go_wp2_with fail
                    refine (P3.out _ _ T3.out).mono ?_
                    rintro e u4 ⟨rfl, t4⟩
                    have t5 := t4.box (t := 53) (p : Int) true false
                    have T5 : Hid _ := t5
                    clear t4 t5 P3 T3
                    go_wp2_with fail
                    refine (P4.out _ _ T5.out).mono ?_
                    rintro e u6 ⟨rfl, t6⟩
                    have T6 : Hid (DA w u6 s [] (some ⟨false, 1, 0, p, true, false⟩) P8 (N + 1)) := t6.drop
                    clear t6 P4 T5
                    go_wp2
                    go_roundw
                    case rel => exact ⟨p, false, P8, N + 1, by omega, HP, T6.out, by go_num⟩
                    case measure => exact hmu)
      · obtain ⟨b0, off, rfl, x0⟩ := row_cell (wr := wr) HR.out.1 HR.out.2 (by rw [HS.out]; exact q.bel) h
        have hw := HW.out k (by omega)
        have HC : Hid (∀ v P, DA w v s [] none P (k + 1) → v.cell? ⟨b0, off + k, none⟩ = some (.int .i64 (xs1.getD k 0))) := fun v P q => by
          obtain ⟨b1, o1, e1, x1⟩ := row_cell (wr := v) HR.out.1 HR.out.2 (by rw [HS.out]; exact q.bel) h
          simp only [Option.some.injEq, Addr.mk.injEq, and_true] at e1
          obtain ⟨rfl, rfl⟩ := e1
          exact x1
        generalize xs1.getD k 0 = x at *
        have P1 : Hid (∀ _ : Unit, _) := fun _ => da_plan x hw (by omega) q
        by_cases c : x < 0 ∨ 10 ≤ x
        · rw [plE_no c, plP_no c] at P1
          have FS : Hid (Fst 10 f P) := fs
          clear q fs hw c
          go_wp2_with fail
          refine (P1.out ()).mono ?_
          rintro e u1 ⟨rfl, t1⟩
          have T1 : Hid _ := t1
          clear t1 P1 HC
          go_wp2
          go_roundw
          case rel => exact ⟨k + 1, f, P, by omega, by omega, by omega, FS.out, T1.out, rfl, by go_num⟩
          case measure => simp [intOf]; omega
        · obtain ⟨y, rfl⟩ : ∃ y : Nat, x = y := ⟨x.toNat, by omega⟩
          have hy : y < 10 := by omega
          rw [plE_yes (by omega) (by omega)] at P1
          by_cases hl : (y : Int) < f
          · have FS : Hid (Fst 10 y (plP P y)) := fst_less fs (by omega) hy
            generalize plP P y = P8 at *
            have hyn : (y : Int) ≤ 10 := by omega
            clear q fs hw c hy
            go_wp2_with fail
            refine (P1.out ()).mono ?_
            rintro e u1 ⟨rfl, t1⟩
            have x1 := HC.out u1 _ t1
            have T1 : Hid _ := t1
            clear t1 P1 HC
            go_wp2
            go_roundw
            case rel => exact ⟨k + 1, y, P8, by omega, by omega, by omega, FS.out, T1.out, rfl, by go_num⟩
            case measure => simp [intOf]; omega
          · have FS : Hid (Fst 10 f (plP P y)) := fst_more fs (by omega) hy
            generalize plP P y = P8 at *
            clear q fs hw c hy
            go_wp2_with fail
            refine (P1.out ()).mono ?_
            rintro e u1 ⟨rfl, t1⟩
            have x1 := HC.out u1 _ t1
            have T1 : Hid _ := t1
            clear t1 P1 HC
            go_wp2
            go_roundw
            case rel => exact ⟨k + 1, f, P8, by omega, by omega, by omega, FS.out, T1.out, rfl, by go_num⟩
            case measure => simp [intOf]; omega
  · go_enter Try.func7, Try.ntmps7
    go_wp2
    rw [HU0.out, HS.out]
    go_loopw [7, 8] (fun v i wr => ∃ (k f : Nat) (P : Int → Bool), (k : Int) ≤ 50 ∧ (k : Int) ≤ len1 ∧ (f : Int) ≤ 4 ∧ Fst 4 f P ∧ DA w wr s [] none P k ∧ v = .int .i64 (f : Int) ∧ i = .int .i64 k) (fun _ i _ => 50 - (intOf i).toNat)
    case atStart => exact ⟨0, 4, _, by omega, by omega, by omega, fst_start 4, T0.out, rfl, rfl⟩
    case round =>
      obtain ⟨k, f, P, hk, hk2, hf, fs, q, rfl, rfl⟩ := hrel
      clear T0
      have tail : (¬ (k : Int) < len1 ∧ decide ((k : Int) < len1) = false) ∨ ((k : Int) < len1 ∧ ¬ (k : Int) < 50) ∨ ((k : Int) < len1 ∧ (k : Int) < 50) := by
        by_cases h : (k : Int) < len1
        · by_cases h2 : (k : Int) < 50
          · exact Or.inr (Or.inr ⟨h, h2⟩)
          · exact Or.inr (Or.inl ⟨h, h2⟩)
        · exact Or.inl ⟨h, decide_eq_false h⟩
      rw [← or_assoc] at tail
      rcases tail with tail | ⟨h, h2⟩
      · have P1 : Hid (∀ _ : Unit, _) := fun _ => da_begin true 1 0 q
        rw [show beE none 1 0 = 0 by decide, show beR none true 1 0 = some ⟨true, 1, 0, 0, false, false⟩ from rfl] at P1
        have FS : Hid (Fst 4 f P) := fs
        have HK : Hid (k ≤ 50) := by show k ≤ 50; omega
        clear q fs
        rcases tail with ⟨h, hd⟩ | ⟨h, h2⟩
        all_goals (
          go_wp2_with fail
          refine (P1.out ()).mono ?_
          rintro e u1 ⟨rfl, t1⟩
          have T1 : Hid (DA w u1 s [] (some ⟨true, 1, 0, 0, false, false⟩) P k) := t1
          clear t1 P1
          go_wp2
          go_loopw [9] (fun i wr => ∃ (j : Nat), (j : Int) ≤ f ∧ DA w wr s [] (some ⟨true, 1, 0, j, false, false⟩) P k ∧ i = .int .i64 j) (fun i _ => f - (intOf i).toNat)
          case atStart => exact ⟨0, by omega, T1.out, rfl⟩
          case round =>
            obtain ⟨j, hj, q, rfl⟩ := hrel
            clear T1
            by_cases hjf : (j : Int) < f
            · have hn : j < nn true := by show j < 4; omega
              have hp : P j = false := FS.out.no j (by omega)
              have HN : Hid (j < nn true ∧ P j = false) := ⟨hn, hp⟩
              obtain ⟨r1, r2, r3, r4, r5, r6⟩ := fw_no (up := true) (c := 1) (y := 0) (t := false) hn hp
              obtain ⟨v1, v2, v3, v4, v5, v6⟩ := fw_no (up := true) (c := 1) (y := 0) (t := true) hn hp
              obtain ⟨g1, g2⟩ := fw_done (up := true) (c := 1) (y := 0) (t := true) hn
              have P2 : Hid (∀ _ : Unit, _) := fun _ => da_next q
              rw [r1, r2, r3, r4, r5, r6, show stv (j : Int) false false = .agg #[.int .i64 (j : Int), .bool false, .bool false] from rfl] at P2
              have P3 : Hid (∀ u A, DA w u s A (some ⟨true, 1, 0, j, false, true⟩) P k → _) := fun u A t => da_next (A := A) (wr := u) t
              rw [v1, v2, v3, v4, v5, v6, show stv (j : Int) false false = .agg #[.int .i64 (j : Int), .bool false, .bool false] from rfl] at P3
              have P4 : Hid (∀ u A, DA w u s A (some ⟨true, 1, 0, j, false, true⟩) P k → _) := fun u A t => da_done (A := A) (wr := u) t
              rw [g1, g2] at P4
              have nj : ((j : Int) != (j : Int)) = false := by simp
              clear q hn hp r1 r2 r3 r4 r5 r6 v1 v2 v3 v4 v5 v6 g1 g2
              go_wp2_with fail
              refine (P2.out ()).mono ?_
              rintro e u2 ⟨rfl, t2⟩
              have T2 : Hid _ := t2.box (t := 53) (j : Int) false false
              clear t2 P2
              go_wp2_with fail
              refine (P3.out _ _ T2.out).mono ?_
              rintro e u3 ⟨rfl, t3⟩
              have t4 := t3.box (t := 53) (j : Int) false false
              have x0 := t4.at (x := (u2.heap.size, sc (j : Int) false false, 53)) (by simp)
              have y00 : (bx 53 u3 (j : Int) false false).cell? ⟨u2.heap.size, 0, none⟩ = some (.int .i64 (j : Int)) := x0.cell 0
              have y01 : (bx 53 u3 (j : Int) false false).cell? ⟨u2.heap.size, 1, none⟩ = some (.bool false) := x0.cell 1
              have y02 : (bx 53 u3 (j : Int) false false).cell? ⟨u2.heap.size, 2, none⟩ = some (.bool false) := x0.cell 2
              have x1 := t4.at (x := (u3.heap.size, sc (j : Int) false false, 53)) (by simp)
              have y10 : (bx 53 u3 (j : Int) false false).cell? ⟨u3.heap.size, 0, none⟩ = some (.int .i64 (j : Int)) := x1.cell 0
              have y11 : (bx 53 u3 (j : Int) false false).cell? ⟨u3.heap.size, 1, none⟩ = some (.bool false) := x1.cell 1
              have y12 : (bx 53 u3 (j : Int) false false).cell? ⟨u3.heap.size, 2, none⟩ = some (.bool false) := x1.cell 2
              have T4 : Hid _ := t4
              unfold bx at y00 y01 y02 y10 y11 y12
              clear t3 t4 x0 x1 P3 T2
              go_wp2_with fail
              refine (P4.out _ _ T4.out).mono ?_
              rintro e u5 ⟨rfl, t5⟩
              have T5 : Hid (DA w u5 s [] (some ⟨true, 1, 0, j + 1, false, false⟩) P k) := t5.drop.drop
              clear t5 P4 T4 y00 y01 y02 y10 y11 y12
              go_wp2
              go_roundw
              case rel => exact ⟨j + 1, by omega, T5.out, by go_num⟩
              case measure => simp [intOf]; omega
            · obtain rfl : f = j := by omega
              clear hjf hj
              by_cases hfn : f = 4
              · subst hfn
                have P2 : Hid (∀ _ : Unit, _) := fun _ => da_end q
                rw [show enW (some ⟨true, 1, 0, 4, false, false⟩) = 0 by decide, show enE (some ⟨true, 1, 0, 4, false, false⟩) = 0 by decide] at P2
                clear q FS
                go_wp2_with fail
                refine (P2.out ()).mono ?_
                rintro e u2 ⟨rfl, t2⟩
                have M2 : Hid (Below s w u2 ∧ s ≤ u2.heap.size) := ⟨t2.bel, by have := t2.hi; omega⟩
                clear t2 P2
                go_wp2_with fail
                refine (KN.out _).mono ?_
                rintro e u3 ⟨rfl, b3⟩
                go_wp2
                go_ret
                exact ⟨rfl, M2.out.1.trans (b3.mono M2.out.2)⟩
              · have hn : f < nn true := by show f < 4; omega
                have hp : P f = true := FS.out.yes (by omega)
                have en : ((f : Int) == 4) = false := by simp; omega
                obtain ⟨r1, r2, r3, r4, r5⟩ := fw_yes (up := true) (c := 1) (y := 0) hn hp
                have P2 : Hid (∀ _ : Unit, _) := fun _ => da_next q
                rw [r1, r2, r3, r4, r5, show stv (f : Int) false true = .agg #[.int .i64 (f : Int), .bool false, .bool true] from rfl] at P2
                generalize nxP P (some ⟨true, 1, 0, f, false, false⟩) = P9 at *
                have nf : ((f : Int) != (f : Int)) = false := by simp
                clear q hn hp r1 r2 r3 r4 r5 FS hfn
                go_wp2_with fail
                refine (P2.out ()).mono ?_
                rintro e u2 ⟨rfl, t2⟩
                have t3 := t2.box (t := 53) (f : Int) false true
                have T3 : Hid (DA w (bx 53 u2 (f : Int) false true) s [] (some ⟨true, 1, 0, f, true, true⟩) P9 k) := t3.drop
                clear t2 t3 P2
                go_wp2
                go_loopw [18] (fun i wr => ∃ (j : Nat) (t : Bool) (P : Int → Bool) (N : Nat), (j : Int) ≤ f ∧ Hid (N + j ≤ 100) ∧ DA w wr s [] (some ⟨true, 1, 0, j, true, t⟩) P N ∧ i = .int .i64 ((j : Int) - 1)) (fun i _ => (intOf i + 1).toNat)
                case atStart => exact ⟨f, true, P9, k, by omega, by have := HK.out; show k + f ≤ 100; omega, T3.out, by go_num⟩
                case round =>
                  obtain ⟨j, t, P, N, hj, hN, q, rfl⟩ := hrel
                  clear T3
                  by_cases h0 : j = 0
                  · subst h0
                    have P2 : Hid (∀ _ : Unit, _) := fun _ => da_end q
                    rw [(bw_end (up := true) (c := 1) (y := 0) (t := t)).1, (bw_end (up := true) (c := 1) (y := 0) (t := t)).2] at P2
                    clear q
                    go_wp2_with fail
                    refine (P2.out ()).mono ?_
                    rintro e u3 ⟨rfl, t3⟩
                    have M3 : Hid (Below s w u3 ∧ s ≤ u3.heap.size) := ⟨t3.bel, by have := t3.hi; omega⟩
                    clear t3 P2
                    go_wp2_with fail
                    refine (KN.out _).mono ?_
                    rintro e u4 ⟨rfl, b4⟩
                    go_wp2
                    go_ret
                    exact ⟨rfl, M3.out.1.trans (b4.mono M3.out.2)⟩
                  · have hp : 0 < j := by omega
                    obtain ⟨p, hpj⟩ : ∃ p, j - 1 = p := ⟨_, rfl⟩
                    have hp1 : (j : Int) - 1 = (p : Int) := by omega
                    have hwf : (Lit.int .i64 (p : Int)).wf = true := by
                      simp [Lit.wf, IntKind.min, IntKind.max, IntKind.signed, IntKind.bits]
                      omega
                    obtain ⟨r1, r2, r3, r4, r5, r6⟩ := bw_next (up := true) (c := 1) (y := 0) (t := t) (P := plP P p) hp
                    obtain ⟨g1, g2⟩ := bw_done (up := true) (c := 1) (y := 0) (t := t) hp
                    have P2 : Hid (∀ _ : Unit, _) := fun _ => da_plan (p : Int) hwf (by have := hN.out; omega) q
                    rw [plE_yes (by omega) (by omega)] at P2
                    have P3 : Hid (∀ u A, DA w u s A (some ⟨true, 1, 0, j, true, t⟩) (plP P p) (N + 1) → _) := fun u A t => da_next (A := A) (wr := u) t
                    rw [r1, r2, r3, r4, r5, r6, hpj, show stv (p : Int) true false = .agg #[.int .i64 (p : Int), .bool true, .bool false] from rfl] at P3
                    have P4 : Hid (∀ u A, DA w u s A (some ⟨true, 1, 0, j, true, t⟩) (plP P p) (N + 1) → _) := fun u A t => da_done (A := A) (wr := u) t
                    rw [g1, g2, hpj] at P4
                    generalize plP P p = P8 at *
                    have HP : Hid (N + 1 + p ≤ 100) := by have := hN.out; show N + 1 + p ≤ 100; omega
                    have hpm : (p : Int) ≤ f := by omega
                    have hmu : (intOf (.int .i64 ((p : Int) - 1)) + 1).toNat < (intOf (.int .i64 (p : Int)) + 1).toNat := by simp [intOf]
                    have np : ((p : Int) != (p : Int)) = false := by simp
                    clear q h0 hp hpj hj hwf hN r1 r2 r3 r4 r5 r6 g1 g2
                    rw [hp1]
                    clear hp1
                    go_wp2_with fail
                    refine (P2.out ()).mono ?_
                    rintro e u3 ⟨rfl, t3⟩
                    have T3 : Hid _ := t3
                    clear t3 P2
                    go_wp2_with fail
                    refine (P3.out _ _ T3.out).mono ?_
                    rintro e u4 ⟨rfl, t4⟩
                    have t5 := t4.box (t := 53) (p : Int) true false
                    have T5 : Hid _ := t5
                    clear t4 t5 P3 T3
                    go_wp2_with fail
                    refine (P4.out _ _ T5.out).mono ?_
                    rintro e u6 ⟨rfl, t6⟩
                    have T6 : Hid (DA w u6 s [] (some ⟨true, 1, 0, p, true, false⟩) P8 (N + 1)) := t6.drop
                    clear t6 P4 T5
                    go_wp2
                    go_roundw
                    case rel => exact ⟨p, false, P8, N + 1, by omega, HP, T6.out, by go_num⟩
                    case measure => exact hmu)
      · obtain ⟨b0, off, rfl, x0⟩ := row_cell (wr := wr) HR.out.1 HR.out.2 (by rw [HS.out]; exact q.bel) h
        have hw := HW.out k (by omega)
        have HC : Hid (∀ v P, DA w v s [] none P (k + 1) → v.cell? ⟨b0, off + k, none⟩ = some (.int .i64 (xs1.getD k 0))) := fun v P q => by
          obtain ⟨b1, o1, e1, x1⟩ := row_cell (wr := v) HR.out.1 HR.out.2 (by rw [HS.out]; exact q.bel) h
          simp only [Option.some.injEq, Addr.mk.injEq, and_true] at e1
          obtain ⟨rfl, rfl⟩ := e1
          exact x1
        generalize xs1.getD k 0 = x at *
        have P1 : Hid (∀ _ : Unit, _) := fun _ => da_plan x hw (by omega) q
        by_cases c : x < 0 ∨ 10 ≤ x
        · rw [plE_no c, plP_no c] at P1
          have FS : Hid (Fst 4 f P) := fs
          clear q fs hw c
          go_wp2_with fail
          refine (P1.out ()).mono ?_
          rintro e u1 ⟨rfl, t1⟩
          have T1 : Hid _ := t1
          clear t1 P1 HC
          go_wp2
          go_roundw
          case rel => exact ⟨k + 1, f, P, by omega, by omega, by omega, FS.out, T1.out, rfl, by go_num⟩
          case measure => simp [intOf]; omega
        · obtain ⟨y, rfl⟩ : ∃ y : Nat, x = y := ⟨x.toNat, by omega⟩
          have hy : y < 10 := by omega
          rw [plE_yes (by omega) (by omega)] at P1
          by_cases hl : (y : Int) < f
          · have FS : Hid (Fst 4 y (plP P y)) := fst_less fs (by omega) hy
            generalize plP P y = P8 at *
            have hyn : (y : Int) ≤ 4 := by omega
            clear q fs hw c hy
            go_wp2_with fail
            refine (P1.out ()).mono ?_
            rintro e u1 ⟨rfl, t1⟩
            have x1 := HC.out u1 _ t1
            have T1 : Hid _ := t1
            clear t1 P1 HC
            go_wp2
            go_roundw
            case rel => exact ⟨k + 1, y, P8, by omega, by omega, by omega, FS.out, T1.out, rfl, by go_num⟩
            case measure => simp [intOf]; omega
          · have FS : Hid (Fst 4 f (plP P y)) := fst_more fs (by omega) hy
            generalize plP P y = P8 at *
            clear q fs hw c hy
            go_wp2_with fail
            refine (P1.out ()).mono ?_
            rintro e u1 ⟨rfl, t1⟩
            have x1 := HC.out u1 _ t1
            have T1 : Hid _ := t1
            clear t1 P1 HC
            go_wp2
            go_roundw
            case rel => exact ⟨k + 1, f, P8, by omega, by omega, by omega, FS.out, T1.out, rfl, by go_num⟩
            case measure => simp [intOf]; omega

set_option maxRecDepth 100000 in
theorem lifted (os : Os) (started : os.Started) (H : Type) (enc : TypeId × Value → H) :
    ReturnsInHanded {} Try.checked os 7 .any (Rows.hotFailsSpec.pre6 enc Try.prog Try.f7 Rows.hotFailsRow.domain false) (Rows.hotFailsSpec.post enc Try.prog Try.f7 false true false false) := by
  refine returnsInHanded_of_change (C := Try.checked) own started (by kernel_rfl) Try.func7
    (ChangeSpec.witness6 (enc := enc) (C := Try.checked) false ⟨#[], #[.bool false, .slice none 0 0], []⟩ 8 (by kernel_rfl) (by kernel_rfl) (by kernel_rfl) (by kernel_rfl)) ?_
  intro W base args ds gs before hval0 hW hcnd _
  have hval : ∀ (j : Nat) t v, Try.f7.params[j]? = some t → args[j]? = some v → Value.okWide Try.prog W .any base t v := hval0
  have hW' := hW
  obtain ⟨p, q, hA0, hV, rfl, hfz, hnd⟩ := hW
  have hA : DataW.TrodAll enc Try.prog W 0 (fun _ => true) true Try.f7.params.toList args.toList ds p := hA0
  rw [Try.params7] at hA hval
  obtain ⟨v0, vs0, d0, ds0, p0, q0, hargs, rfl, rfl, h0, r0⟩ := trodAll_cons hA
  obtain ⟨v1, vs1, d1, ds1, p1, q1, rfl, rfl, rfl, h1, r1⟩ := trodAll_cons r0
  obtain ⟨rfl, rfl, rfl⟩ := trodAll_nil r1
  obtain rfl : args = #[v0, v1] := by cases args; simp_all
  obtain ⟨rfl, rfl⟩ := trodVars_none hV
  obtain ⟨a0, rfl, rfl, rfl⟩ := open_bool Try.underlying4 (hval 0 4 v0 rfl rfl) h0
  obtain ⟨a1, len1, cap1, rfl⟩ := okWide_slice Try.underlying45 (hval 1 45 v1 rfl rfl)
  have k1 := h1
  have lt1 : ∀ x ∈ p1, x.block < W.heap.size := by obtain ⟨m, hm⟩ := k1; exact DataW.trod_lt m _ _ _ hm
  obtain ⟨xs1, w1, l1, z1⟩ : ∃ xs, Row W (.slice a1 len1 cap1) xs ∧ xs.length = len1 ∧ ∀ n ∈ xs, (Lit.int .i64 n).wf = true := by
    obtain ⟨fuel, hf⟩ := h1
    rcases open_ints Try.underlying45 Try.underlying3 (by kernel_rfl) hf with ⟨hcs, _⟩ | ⟨x, l, c, zs, hcs, _, hl, hm, hz, _, hcell, hwz⟩
    · simp [Value.cells] at hcs
      obtain ⟨rfl, rfl, rfl⟩ := hcs
      exact ⟨[], Or.inl ⟨rfl, none, 0, rfl⟩, rfl, fun n hn => by simp at hn⟩
    · simp [Value.cells] at hcs
      obtain ⟨rfl, rfl, rfl⟩ := hcs
      obtain ⟨xs, r1, r2, r3⟩ := row_of_cells (zs := zs) (Or.inr ⟨_, rfl, hl, by simpa using hz, hcell⟩)
      exact ⟨xs, r1, r2, fun n hn => hwz n (r3 n hn)⟩
  clear hA0 hval0
  refine (walk a0 a1 len1 cap1 xs1 W w1 l1 z1).mono fun e W' ⟨he, bel⟩ => ?_
  subst he
  exact ⟨_, rfl, _, _, _, [], _, [], hW', trodAll_mk1 (shut_bool Try.underlying4 _), (trodAll_cons_mk (shut_bool Try.underlying4 a0) (trodAll_cons_mk (Below.trod laidOut (by kernel_rfl) (of_decide_eq_true (by kernel_rfl)) k1 bel lt1) trodAll_mk0)), rfl, bel.frame _, fun h => by cases h⟩

theorem over : Rows.HotFailsSaid :=
  OpenClaim.holds_of_wide 7 Try.f7 rfl rfl rfl rfl rfl rfl rfl ⟨rfl, rfl, rfl, rfl, rfl⟩ rfl rfl rfl rfl rfl (by kernel_rfl) Try.func7 (by kernel_rfl)
    (of_decide_eq_true (by kernel_rfl)) (by unfold Func.isWrapper; first | (rw [if_pos (by decide +kernel)]; kernel_rfl) | (rw [if_neg (by decide +kernel)]; exact ⟨rfl, rfl⟩))
    (fun os started H enc _ => lifted os started H enc)
end Go.Proofs.Ytaaikbehdfkhlaa.hotFails

namespace Go.Proofs.Ytaaikbehdfkhlaa
open Go
theorem hotFails_holds : Rows.HotFailsSaid := hotFails.over
#print axioms hotFails_holds
end Go.Proofs.Ytaaikbehdfkhlaa
