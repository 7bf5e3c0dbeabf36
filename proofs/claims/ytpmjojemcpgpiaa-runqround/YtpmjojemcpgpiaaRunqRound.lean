/- Proved: for every list l, davitlaw10.RunqRound(l) returns true: picks of a core, as many as the greatest priority has things, tell each of these once, and leave all as it was (60 things at most, as the law itself says), and l is left alone, with no condition. -/
import Derived.Test.YtpmjojemcpgpiaaRows
import Derived.Test.YtpmjojemcpgpiaaFo
import Derived.Test.YtpmjojemcpgpiaaUr
import Derived.WalkKit
import Derived.ProofKit
import Derived.OpenShut
import Derived.Stop.Joined
import Derived.ShutString
import Derived.ChangeOld
import Derived.Below
import Derived.Carry
import Derived.Test.YtpmjojemcpgpiaaFs
import Derived.Deep.RegionHeld3
namespace Go.Proofs.Ytpmjojemcpgpiaa.runqRound
open Go.ChangeShapes Go.WideShapes Go.ChangeAt Go.RowKit
open Fm Qm
set_option linter.unusedVariables false
set_option linter.unusedSimpArgs false

theorem own : ownKnob Try.prog.godebug = none := by kernel_rfl
theorem laidOut : laidOutB Try.prog = true := by kernel_rfl

set_option maxRecDepth 100000 in
set_option maxHeartbeats 4000000 in
theorem walk (a0 : Option Addr) (len0 cap0 : Nat) (X0 : Nat → Nat → Int) (w : World) (w0 : SRow w (.slice a0 len0 cap0) len0 [true, true, true, true, true] X0) (z0 : ∀ i, i < len0 → ∀ j, j < [true, true, true, true, true].length → [true, true, true, true, true].getD j true = true → (Lit.int .i64 (X0 i j)).wf = true) :
    Calls Try.prog 7 #[.slice a0 len0 cap0] w fun e w' => e = .returned (.bool true) ∧ Below w.heap.size w w' := by
  have C : Hid (∀ _ : Unit, _) := fun _ => rqnew_any 1 w (by decide) (by decide)
  have KN : Hid (∀ w, _) := fun w => rqknown_yes w
  have HR : Hid (SRow w (.slice a0 len0 cap0) len0 [true, true, true, true, true] X0) := w0
  have HWF : Hid (∀ i, i < len0 → (Lit.int .i64 (X0 i 4)).wf = true) := fun i hi => z0 i hi 4 (by decide) rfl
  have hP : Hid (∀ k ∈ rz w.heap.size 1, w.heap.size ≤ k) := rz_ge _ _
  obtain ⟨s, hs⟩ : ∃ s, w.heap.size = s := ⟨_, rfl⟩
  have HS : Hid (w.heap.size = s) := hs
  rw [hs] at C hP ⊢
  clear w0 z0 hs
  go_enter Try.func7, Try.ntmps7
  go_wp2_with fail
  refine (C.out ()).mono ?_
  rintro e w1 ⟨rfl, q1, f1⟩
  have Q1 : Hid (RR w1 s 1 0 fun _ => []) := q1
  have H1 : Hid (Below s w w1) := f1
  clear f1 q1 C
  go_wp2
  go_loopw [5] (fun i wr => ∃ (k : Nat) (K : Ks), (k : Int) ≤ len0 ∧ (k : Int) ≤ 60 ∧ RR wr s 1 k K ∧ Below s w wr ∧ i = .int .i64 k) (fun i _ => 60 - (intOf i).toNat)
  case atStart => exact ⟨0, _, by omega, by omega, Q1.out, H1.out, rfl⟩
  case round =>
    obtain ⟨k, K, hk, hk2, q, hb, rfl⟩ := hrel
    clear Q1 H1
    have tail : (¬ (k : Int) < len0 ∧ decide ((k : Int) < len0) = false) ∨ ((k : Int) < len0 ∧ ¬ (k : Int) < 60) ∨ ((k : Int) < len0 ∧ (k : Int) < 60) := by
      by_cases h : (k : Int) < len0
      · by_cases h2 : (k : Int) < 60
        · exact Or.inr (Or.inr ⟨h, h2⟩)
        · exact Or.inr (Or.inl ⟨h, h2⟩)
      · exact Or.inl ⟨h, decide_eq_false h⟩
    rw [← or_assoc] at tail
    have hz : s ≤ wr.heap.size := by have := hb.size; have := HS.out; omega
    have HB : Hid (Below s w wr) := hb
    have HQ : Hid (RR wr s 1 k K) := q
    rcases tail with tail | ⟨h, h2⟩
    · have P : Hid (∀ _ : Unit, _) := fun _ => rqlist_any 0 q
      rw [show liL 1 K 0 = cat (K 0) from rfl] at P
      have hlt : s + 20 ≤ wr.heap.size := q.rb.hi
      have OK0 : Hid (Ok 32 (K 0)) := q.al.ok 0 (by decide)
      obtain ⟨X, hXK⟩ : ∃ X, K 0 = X := ⟨_, rfl⟩
      have EX : Hid (K 0 = X) := hXK
      rw [hXK] at P OK0
      have LC : (cat X).length ≤ 32 := by rw [len_cat OK0.out.rg]; exact OK0.out.le
      by_cases hX : X = []
      · have e0 : cat X = [] := by rw [hX]; rfl
        rw [e0] at P
        have P9 : Hid (∀ w5 : World, Below wr.heap.size wr w5 → _) := fun w5 b => rqlist_any 0 (HQ.out.below b)
        rw [show liL 1 K 0 = [] by show cat (K 0) = []; rw [hXK, e0]] at P9
        clear q hb hX e0 LC hXK
        rcases tail with ⟨h, hd⟩ | ⟨h, h2⟩
        all_goals (
          go_wp2_with fail
          refine (P.out ()).mono ?_
          rintro e w2 ⟨v, rfl, own, f2⟩
          obtain ⟨a2, c2, rfl⟩ := own_shape own
          have F2 : Hid (Below wr.heap.size wr w2) := f2
          have O2 : Hid (w2.ownsRow wr.heap.size 3 1 (.slice a2 0 c2) 0 []) := own
          clear own f2
          go_wp2
          go_loopw [7] (fun i wq => wq = w2 ∧ i = .int .i64 0) (fun i _ => 0)
          case atStart => exact ⟨rfl, rfl⟩
          case round =>
            obtain ⟨rfl, rfl⟩ := hrel
            have P3 : Hid (∀ _ : Unit, _) := fun _ => P9.out wr F2.out
            go_wp2_with fail
            refine (P3.out ()).mono ?_
            rintro e w6 ⟨v6, rfl, o6, f6⟩
            have F6 := F2.out.trans (f6.mono F2.out.size)
            have R1 := row_of_owns (xs := []) o6
            have R2 : Row w6 (.slice a2 0 c2) [] := Or.inl ⟨rfl, a2, c2, rfl⟩
            have I : Hid (∀ _ : Unit, _) := fun _ => ints_any [] v6 _ w6 (by decide) R1 R2
            have B6 : Hid (Below s w w6) := HB.out.trans (F6.mono hz)
            have z6 : s ≤ w6.heap.size := by have := B6.out.size; have := HS.out; omega
            clear o6 f6 R1 R2 F6
            go_wp2_with fail
            refine (I.out ()).mono ?_
            rintro e w7 ⟨rfl, d, rfl⟩
            go_wp2_with fail
            refine (KN.out _).mono ?_
            rintro e w8 ⟨rfl, b8⟩
            go_wp2
            go_ret
            have B7 : Below s w (w6.drewN d) := ⟨B6.out.os, B6.out.tape, B6.out.output, B6.out.size, B6.out.block⟩
            exact ⟨rfl, B7.trans (b8.mono z6)⟩)
      · obtain ⟨g, hG⟩ := gr_some OK0.out hX
        have HG : Hid (Gr X g) := hG
        have LG0 : (lv X g).length ≤ (cat X).length := lv_cat_le hG
        have LG1 : 0 < (lv X g).length := List.length_pos_iff.2 hG.2.1
        clear q hb hX
        rcases tail with ⟨h, hd⟩ | ⟨h, h2⟩
        all_goals (
          go_wp2_with fail
          refine (P.out ()).mono ?_
          rintro e w2 ⟨v, rfl, own, f2⟩
          obtain ⟨a2, c2, rfl⟩ := own_shape own
          have B4 : Hid (Below s w w2) := HB.out.trans (f2.mono hz)
          have Q4 : Hid (RR w2 s 1 k K) := HQ.out.below f2
          have O4 : Hid (w2.ownsRow wr.heap.size 3 1 (.slice a2 (cat X).length c2) (cat X).length ((cat X).map (Value.int .i64))) := own
          have ZB : Hid (s + 20 ≤ wr.heap.size) := hlt
          clear own f2 P HQ hlt hXK
          generalize wr.heap.size = base at *
          obtain ⟨n, hnl⟩ : ∃ n, (cat X).length = n := ⟨_, rfl⟩
          have NL : Hid ((cat X).length = n) := hnl
          obtain ⟨ga, hga⟩ : ∃ ga, (lv X g).length = ga := ⟨_, rfl⟩
          have GA : Hid ((lv X g).length = ga) := hga
          rw [hnl] at LC LG0 ⊢
          rw [hga] at LG0 LG1
          clear hnl hga
          go_wp2
          go_loopw [7] (fun i wq => ∃ (j : Nat) (K2 : Ks), (j : Int) ≤ ga ∧ RR wq s 1 k K2 ∧ Tn 32 X (K2 0) g j ∧ wq.ownsRow base 3 1 (.slice a2 (cat X).length c2) (cat X).length ((cat X).map (Value.int .i64)) ∧ Below s w wq ∧ i = .int .i64 j) (fun i _ => ga - (intOf i).toNat)
          case atStart => exact ⟨0, K, by omega, Q4.out, by rw [EX.out]; exact tn_zero OK0.out g, O4.out, B4.out, rfl⟩
          case round =>
            obtain ⟨j, K2, hj, q, tn2, own, hb, rfl⟩ := hrel
            have HO : Hid (wr.ownsRow base 3 1 (.slice a2 (cat X).length c2) (cat X).length ((cat X).map (Value.int .i64))) := own
            have HB2 : Hid (Below s w wr) := hb
            have hz2 : s ≤ wr.heap.size := by have := hb.size; have := HS.out; omega
            have FIN : Hid (j = ga → ∀ w5 : World, Below wr.heap.size wr w5 → Calls Try.prog 26 #[.pointer (some ⟨s + 2, 0, none⟩), .int .i64 0] w5 fun e w' => ∃ v, e = .returned v ∧ w'.ownsRow w5.heap.size 3 1 v (cat X).length ((cat X).map (Value.int .i64)) ∧ Below w5.heap.size w5 w') := fun e w5 b => by
              have := rqlist_any 0 (q.below b)
              rwa [show liL 1 K2 0 = cat X by show cat (K2 0) = cat X; exact tn_all tn2 (by rw [GA.out]; exact e)] at this
            have PRI : Hid (∀ i, i < n → ∀ w5 : World, Below wr.heap.size wr w5 → ∃ bb, Calls Try.prog 27 #[.pointer (some ⟨s + 2, 0, none⟩), .int .i64 ((cat X).getD i 0)] w5 fun e w' => e = .returned (.tuple #[.int .i64 (prP (K2 0) ((cat X).getD i 0)), .bool bb]) ∧ Below w5.heap.size w5 w') := fun i hi w5 b => by
              have hin := tn_ids tn2 OK0.out.rg (cat_in (X := X) (i := i) (by have := NL.out; omega))
              obtain ⟨r1, r2⟩ := one_pr q.al hin
              have := rqprio_any ((cat X).getD i 0) r2 (q.below b)
              rw [r1] at this
              exact ⟨_, this⟩
            by_cases h5 : (j : Int) < n
            · obtain ⟨b5, rfl, hc⟩ := own_cell (by rw [NL.out] at own; exact own) h5
              obtain ⟨b6, e6, hc0⟩ := own_cell (k := 0) (by rw [NL.out] at own; exact own) (by omega : ((0 : Nat) : Int) < n)
              cases e6
              have T0 : prP (K2 0) ((cat X).getD 0 0) = g := tn_in HG.out tn2 (by have := GA.out; omega)
              obtain ⟨bb1, PJ0⟩ := PRI.out j (by omega) wr (Below.refl _ _)
              have KC : Hid (∀ w5 : World, Below wr.heap.size wr w5 → w5.cell? ⟨b5, j, none⟩ = some (.int .i64 ((cat X).getD j 0)) ∧ w5.cell? ⟨b5, 0, none⟩ = some (.int .i64 ((cat X).getD 0 0))) := fun w5 b => ⟨(b.cell (p := ⟨b5, j, none⟩) (World.block_lt_of_cell? wr _ hc)).trans hc, (b.cell (p := ⟨b5, 0, none⟩) (World.block_lt_of_cell? wr _ hc0)).trans hc0⟩
              have PZ : Hid (∀ w5 : World, Below wr.heap.size wr w5 → ∃ bb, Calls Try.prog 27 #[.pointer (some ⟨s + 2, 0, none⟩), .int .i64 ((cat X).getD 0 0)] w5 fun e w' => e = .returned (.tuple #[.int .i64 (g : Int), .bool bb]) ∧ Below w5.heap.size w5 w') := fun w5 b => by
                have := PRI.out 0 (by omega) w5 b
                rwa [T0] at this
              by_cases h6 : (j : Int) < ga
              · obtain ⟨t1, t2⟩ := tn_top HG.out tn2 (by have := GA.out; omega)
                rw [show prP (K2 0) ((cat X).getD j 0) = g from tn_in HG.out tn2 (by have := GA.out; omega)] at PJ0
                have PJ : Hid (∀ _ : Unit, _) := fun _ => PJ0
                have UJ : Hid (∀ w5 : World, Below wr.heap.size wr w5 → Calls Try.prog 28 #[.pointer (some ⟨s + 2, 0, none⟩), .int .i64 0] w5 fun e w' => e = .returned (.tuple #[.int .i64 ((cat X).getD j 0), .int .i64 0]) ∧ RR w' s 1 k (pkK 1 K2 0) ∧ Fr w5.heap.size (rz s 1) w5 w') := fun w5 b => by
                  have := pick_any 0 (q.below b)
                  rwa [show pkN 1 K2 0 = tpN (K2 0) from rfl, show pkE 1 K2 0 = tpE (K2 0) from rfl, t1, t2] at this
                have TN3 : Hid (Tn 32 X (pkK 1 K2 0 0) g (j + 1)) := tn_step HG.out tn2 (by have := GA.out; omega)
                generalize (cat X).getD j 0 = x at *
                generalize (cat X).getD 0 0 = x9 at *
                clear q tn2 own hb t1 t2 FIN PRI PJ0 T0
                go_wp2_with fail
                refine (PJ.out ()).mono ?_
                rintro e w5 ⟨rfl, f5⟩
                have F5 : Hid (Below wr.heap.size wr w5) := f5
                obtain ⟨k5, k50⟩ := KC.out w5 f5
                obtain ⟨bb2, T50⟩ := PZ.out w5 f5
                have T5 : Hid (∀ _ : Unit, _) := fun _ => T50
                clear f5 T50
                go_wp2_with fail
                refine (T5.out ()).mono ?_
                rintro e w6 ⟨rfl, f6⟩
                have F6 : Hid (Below wr.heap.size wr w6) := F5.out.trans (f6.mono F5.out.size)
                have U6 : Hid (∀ _ : Unit, _) := fun _ => UJ.out w6 F6.out
                have HO6 : Hid (w6.ownsRow base 3 1 (.slice (some ⟨b5, 0, none⟩) (cat X).length c2) (cat X).length ((cat X).map (Value.int .i64))) := owns_keep HO.out (Fr.of_below F6.out) (Nat.le_refl _) (by simp)
                obtain ⟨k6, k60⟩ := KC.out w6 F6.out
                have HK6 : Hid (w6.cell? ⟨b5, j, none⟩ = some (.int .i64 x)) := k6
                have Z5 : Hid (b5 < w6.heap.size) := World.block_lt_of_cell? w6 _ k6
                clear f6 k5 k50 hc hc0 k6 k60
                go_wp2_with fail
                refine (U6.out ()).mono ?_
                rintro e w7 ⟨rfl, q7, f7⟩
                have B6 : Below s w w6 := HB2.out.trans (F6.out.mono hz2)
                have B7 : Below s w w7 := fr_own B6 f7 (by have := F6.out.size; omega) hP.out
                have O7 := owns_keep HO6.out f7 (Nat.le_refl _) (fun i hi => by have := ((mem_rz s 1 i).1 hi).2; have := ZB.out; omega)
                have k7 : w7.cell? ⟨b5, j, none⟩ = some (.int .i64 x) := by
                  have nz : b5 ∉ rz s 1 := fun hm => by
                    have h1 := ((mem_rz s 1 b5).1 hm).2
                    rcases HO6.out.2 with ⟨e, _⟩ | ⟨g', c', cur, e, hge, _⟩
                    · cases e
                    · simp only [Value.slice.injEq, Option.some.injEq, Addr.mk.injEq] at e
                      have := ZB.out
                      omega
                  exact (f7.cell (p := ⟨b5, j, none⟩) Z5.out nz).trans HK6.out
                clear B6 f7
                go_wp2
                go_roundw
                case rel => exact ⟨j + 1, _, by omega, q7, TN3.out, O7, B7, by go_num⟩
                case measure => simp [intOf]; omega
              · have hjg : j = ga := by omega
                have hne : prP (K2 0) ((cat X).getD j 0) ≠ g := tn_out HG.out tn2 (by have := GA.out; omega) (by have := NL.out; omega)
                have P5 : Hid (∀ w5 : World, Below wr.heap.size wr w5 → _) := fun w5 b => FIN.out hjg w5 b
                have PJ : Hid (∀ _ : Unit, _) := fun _ => PJ0
                generalize prP (K2 0) ((cat X).getD j 0) = pp at *
                generalize (cat X).getD j 0 = x at *
                generalize (cat X).getD 0 0 = x9 at *
                have hne2 : (pp == (g : Int)) = false := by simpa using hne
                clear q tn2 own hb FIN hjg hne PRI PJ0
                go_wp2_with fail
                refine (PJ.out ()).mono ?_
                rintro e w5 ⟨rfl, f5⟩
                have F5 : Hid (Below wr.heap.size wr w5) := f5
                obtain ⟨k5, k50⟩ := KC.out w5 f5
                obtain ⟨bb2, T50⟩ := PZ.out w5 f5
                have T5 : Hid (∀ _ : Unit, _) := fun _ => T50
                clear f5 T50
                go_wp2_with fail
                refine (T5.out ()).mono ?_
                rintro e w6 ⟨rfl, f6⟩
                have F6 : Hid (Below wr.heap.size wr w6) := F5.out.trans (f6.mono F5.out.size)
                have L6 : Hid (∀ _ : Unit, _) := fun _ => P5.out w6 F6.out
                clear f6 k5 k50 hc hc0
                go_wp2_with fail
                refine (L6.out ()).mono ?_
                rintro e w7 ⟨v7, rfl, o7, f7⟩
                have F7 : Hid (Below wr.heap.size wr w7) := F6.out.trans (f7.mono F6.out.size)
                have R1 := row_of_owns o7
                have R2 := row_of_owns (owns_keep HO.out (Fr.of_below F7.out) (Nat.le_refl _) (by simp))
                have I : Hid (∀ _ : Unit, _) := fun _ => ints_any (cat X) v7 _ w7 (by have := NL.out; omega) R1 R2
                rw [NL.out] at I
                clear o7 f7 R1 R2
                go_wp2_with fail
                refine (I.out ()).mono ?_
                rintro e w8 ⟨rfl, d, rfl⟩
                go_wp2_with fail
                refine (KN.out _).mono ?_
                rintro e w9 ⟨rfl, b9⟩
                go_wp2
                go_ret
                have B7 : Below s w w7 := HB2.out.trans (F7.out.mono hz2)
                have B8 : Below s w (w7.drewN d) := ⟨B7.os, B7.tape, B7.output, B7.size, B7.block⟩
                exact ⟨rfl, B8.trans (b9.mono (by have := F7.out.size; show s ≤ w7.heap.size; omega))⟩
            · have hjg : j = ga := by omega
              have L6 : Hid (∀ _ : Unit, _) := fun _ => FIN.out hjg wr (Below.refl _ _)
              clear q tn2 own hb FIN hjg PRI
              go_wp2_with fail
              refine (L6.out ()).mono ?_
              rintro e w7 ⟨v7, rfl, o7, f7⟩
              have F7 : Hid (Below wr.heap.size wr w7) := f7
              have R1 := row_of_owns o7
              have R2 := row_of_owns (owns_keep HO.out (Fr.of_below F7.out) (Nat.le_refl _) (by simp))
              have I : Hid (∀ _ : Unit, _) := fun _ => ints_any (cat X) v7 _ w7 (by have := NL.out; omega) R1 R2
              rw [NL.out] at I
              clear o7 f7 R1 R2
              go_wp2_with fail
              refine (I.out ()).mono ?_
              rintro e w8 ⟨rfl, d, rfl⟩
              go_wp2_with fail
              refine (KN.out _).mono ?_
              rintro e w9 ⟨rfl, b9⟩
              go_wp2
              go_ret
              have B7 : Below s w w7 := HB2.out.trans (F7.out.mono hz2)
              have B8 : Below s w (w7.drewN d) := ⟨B7.os, B7.tape, B7.output, B7.size, B7.block⟩
              exact ⟨rfl, B8.trans (b9.mono (by have := F7.out.size; show s ≤ w7.heap.size; omega))⟩)
    · obtain ⟨b0, off, rfl, hA⟩ := srow_cell (wr := wr) HR.out (by rw [HS.out]; exact hb) h
      have Y1 : Hid (∀ w2 : World, Below s w w2 → w2.cell? ⟨b0, off + k * 5 + 3, none⟩ = some (.int .i64 (X0 k 3)) ∧ w2.cell? ⟨b0, off + k * 5 + 4, none⟩ = some (.int .i64 (X0 k 4))) := fun w2 b2 => by
        obtain ⟨ab3, off3, e3, hc3⟩ := srow_cell (wr := w2) HR.out (by rw [HS.out]; exact b2) h
        cases e3
        exact ⟨hc3 3 (by decide), hc3 4 (by decide)⟩
      obtain ⟨x3, x4⟩ := Y1.out wr hb
      have P : Hid (∀ w1 : World, w1.heap = wr.heap → _) := fun w1 e => put_any 0 (X0 k 3) (X0 k 4) (HWF.out k (by omega)) (by omega) (q.heap e)
      generalize X0 k 3 = y3 at *
      generalize X0 k 4 = y4 at *
      generalize puE 1 K 0 y3 y4 = e2 at *
      generalize puK 1 K 0 y3 y4 = K2 at *
      clear q hb hA
      go_wp2
      go_region_held3 (fun w' => w'.cell? ⟨b0, off + k * 5 + 3, none⟩ = some (.int .i64 y3) ∧ w'.cell? ⟨b0, off + k * 5 + 4, none⟩ = some (.int .i64 y4)) (go_keep)
        (first | (go_at_call 25; refine (P.out _ ?_).mono ?_; rfl; rintro e w2 ⟨rfl, q2, f2⟩; have B2 : Below s w w2 := fr_own (w := wr.drew) ⟨HB.out.os, HB.out.tape, HB.out.output, HB.out.size, HB.out.block⟩ f2 hz hP.out; obtain ⟨k1, k2⟩ := Y1.out w2 B2))
      all_goals go_wp2
      clear f2
      go_roundw
      case rel => exact ⟨k + 1, K2, by omega, by omega, q2, B2, by go_num⟩
      case measure => simp [intOf]; omega

set_option maxRecDepth 100000 in
theorem lifted (os : Os) (started : os.Started) (H : Type) (enc : TypeId × Value → H) :
    ReturnsInHanded {} Try.checked os 7 .any (Rows.runqRoundSpec.pre6 enc Try.prog Try.f7 Rows.runqRoundRow.domain false) (Rows.runqRoundSpec.post enc Try.prog Try.f7 false true false false) := by
  refine returnsInHanded_of_change (C := Try.checked) own started (by kernel_rfl) Try.func7
    (ChangeSpec.witness6 (enc := enc) (C := Try.checked) false ⟨#[], #[.slice none 0 0], []⟩ 8 (by kernel_rfl) (by kernel_rfl) (by kernel_rfl) (by kernel_rfl)) ?_
  intro W base args ds gs before hval0 hW hcnd _
  have hval : ∀ (j : Nat) t v, Try.f7.params[j]? = some t → args[j]? = some v → Value.okWide Try.prog W .any base t v := hval0
  have hW' := hW
  obtain ⟨p, q, hA0, hV, rfl, hfz, hnd⟩ := hW
  have hA : DataW.TrodAll enc Try.prog W 0 (fun _ => true) true Try.f7.params.toList args.toList ds p := hA0
  rw [Try.params7] at hA hval
  obtain ⟨v0, vs0, d0, ds0, p0, q0, hargs, rfl, rfl, h0, r0⟩ := trodAll_cons hA
  obtain ⟨rfl, rfl, rfl⟩ := trodAll_nil r0
  obtain rfl : args = #[v0] := by cases args; simp_all
  obtain ⟨rfl, rfl⟩ := trodVars_none hV
  obtain ⟨a0, len0, cap0, rfl⟩ := okWide_slice Try.underlying51 (hval 0 51 v0 rfl rfl)
  have k0 := h0
  have lt0 : ∀ x ∈ p0, x.block < W.heap.size := by obtain ⟨m, hm⟩ := k0; exact DataW.trod_lt m _ _ _ hm
  obtain ⟨X0, w0, z0⟩ : ∃ X : Nat → Nat → Int, SRow W (.slice a0 len0 cap0) len0 [true, true, true, true, true] X ∧ ∀ i, i < len0 → ∀ j, j < [true, true, true, true, true].length → [true, true, true, true, true].getD j true = true → (Lit.int .i64 (X i j)).wf = true := by
    obtain ⟨fuel, hf⟩ := h0
    exact open_recs [true, true, true, true, true] Try.underlying51 Try.underlying57 (by kernel_rfl) rfl (by decide) (fun | 0, _ => ⟨_, rfl, rfl, by kernel_rfl, Try.underlying3⟩ | 1, _ => ⟨_, rfl, rfl, by kernel_rfl, Try.underlying3⟩ | 2, _ => ⟨_, rfl, rfl, by kernel_rfl, Try.underlying3⟩ | 3, _ => ⟨_, rfl, rfl, by kernel_rfl, Try.underlying3⟩ | 4, _ => ⟨_, rfl, rfl, by kernel_rfl, Try.underlying3⟩ | n + 5, h => absurd h (by simp only [List.length]; omega)) hf
  clear hA0 hval0
  refine (walk a0 len0 cap0 X0 W w0 z0).mono fun e W' ⟨he, bel⟩ => ?_
  subst he
  exact ⟨_, rfl, _, _, _, [], _, [], hW', trodAll_mk1 (shut_bool Try.underlying4 _), (trodAll_cons_mk (Below.trod laidOut (by kernel_rfl) (of_decide_eq_true (by kernel_rfl)) k0 bel lt0) trodAll_mk0), rfl, bel.frame _, fun h => by cases h⟩

theorem over : Rows.RunqRoundSaid :=
  OpenClaim.holds_of_wide 7 Try.f7 rfl rfl rfl rfl rfl rfl rfl ⟨rfl, rfl, rfl, rfl, rfl⟩ rfl rfl rfl rfl rfl (by kernel_rfl) Try.func7 (by kernel_rfl)
    (of_decide_eq_true (by kernel_rfl)) (by unfold Func.isWrapper; first | (rw [if_pos (by decide +kernel)]; kernel_rfl) | (rw [if_neg (by decide +kernel)]; exact ⟨rfl, rfl⟩))
    (fun os started H enc _ => lifted os started H enc)
end Go.Proofs.Ytpmjojemcpgpiaa.runqRound

namespace Go.Proofs.Ytpmjojemcpgpiaa
open Go
theorem runqRound_holds : Rows.RunqRoundSaid := runqRound.over
#print axioms runqRound_holds
end Go.Proofs.Ytpmjojemcpgpiaa
