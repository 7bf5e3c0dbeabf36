/- Proved: for every list acts, davitlaw09.PrioRound(acts) returns true: as many turns as the greatest priority has things leave all as it was, and each of these goes ahead once (100 pushes at most, as the law itself says), and acts is left alone, with no condition. -/
import Derived.Test.YtpmjojemcpgpiaaRows
import Derived.Test.YtpmjojemcpgpiaaFo
import Derived.Test.YtpmjojemcpgpiaaQr
import Derived.WalkKit
import Derived.ProofKit
import Derived.OpenShut
import Derived.Stop.Joined
import Derived.ShutString
import Derived.ChangeOld
import Derived.Below
import Derived.Carry
import Derived.Test.YtpmjojemcpgpiaaFs
import Derived.Deep.RegionHeld3
namespace Go.Proofs.Ytpmjojemcpgpiaa.prioRound
open Go.ChangeShapes Go.WideShapes Go.ChangeAt Go.RowKit
open Fm Qm
set_option linter.unusedVariables false
set_option linter.unusedSimpArgs false

theorem own : ownKnob Try.prog.godebug = none := by kernel_rfl
theorem laidOut : laidOutB Try.prog = true := by kernel_rfl

set_option maxRecDepth 100000 in
set_option maxHeartbeats 4000000 in
theorem walk (a0 : Option Addr) (len0 cap0 : Nat) (X0 : Nat → Nat → Int) (w : World) (w0 : SRow w (.slice a0 len0 cap0) len0 [true, true, true] X0) (z0 : ∀ i, i < len0 → ∀ j, j < [true, true, true].length → [true, true, true].getD j true = true → (Lit.int .i64 (X0 i j)).wf = true) :
    Calls Try.prog 5 #[.slice a0 len0 cap0] w fun e w' => e = .returned (.bool true) ∧ Below w.heap.size w w' := by
  have C : Hid (∀ _ : Unit, _) := fun _ => pnew_any 1024 w (by decide) (by decide)
  have KN : Hid (∀ w, _) := fun w => known_yes w
  have HR : Hid (SRow w (.slice a0 len0 cap0) len0 [true, true, true] X0) := w0
  have hP : Hid (∀ k ∈ zn w.heap.size, w.heap.size ≤ k) := zn_ge _
  obtain ⟨s, hs⟩ : ∃ s, w.heap.size = s := ⟨_, rfl⟩
  have HS : Hid (w.heap.size = s) := hs
  rw [hs] at C hP ⊢
  clear w0 z0 hs
  go_enter Try.func5, Try.ntmps5
  go_wp2_with fail
  refine (C.out ()).mono ?_
  rintro e w1 ⟨rfl, q1, f1, _⟩
  have Q1 : Hid (PQ w1 s 1024 []) := q1
  have H1 : Hid (Below s w w1) := f1
  clear f1 q1 C
  go_wp2
  go_loopw [5] (fun i wr => ∃ (k : Nat) (X : Its), (k : Int) ≤ len0 ∧ (k : Int) ≤ 100 ∧ PQ wr s 1024 X ∧ Below s w wr ∧ i = .int .i64 k) (fun i _ => 100 - (intOf i).toNat)
  case atStart => exact ⟨0, [], by omega, by omega, Q1.out, H1.out, rfl⟩
  case round =>
    obtain ⟨k, X, hk, hk2, q, hb, rfl⟩ := hrel
    clear Q1 H1
    have tail : (¬ (k : Int) < len0 ∧ decide ((k : Int) < len0) = false) ∨ ((k : Int) < len0 ∧ ¬ (k : Int) < 100) ∨ ((k : Int) < len0 ∧ (k : Int) < 100) := by
      by_cases h : (k : Int) < len0
      · by_cases h2 : (k : Int) < 100
        · exact Or.inr (Or.inr ⟨h, h2⟩)
        · exact Or.inr (Or.inl ⟨h, h2⟩)
      · exact Or.inl ⟨h, decide_eq_false h⟩
    rw [← or_assoc] at tail
    rcases tail with tail | ⟨h, h2⟩
    · have P : Hid (∀ _ : Unit, _) := fun _ => plist_any wr q
      have T : Hid (∀ w1 : World, Below wr.heap.size wr w1 → _) := fun w1 b => top_any w1 (q.below b)
      have hz : s ≤ wr.heap.size := by have := hb.size; have := HS.out; omega
      have HB : Hid (Below s w wr) := hb
      have HQ : Hid (PQ wr s 1024 X) := q
      have hlt : s + 17 ≤ wr.heap.size := q.hi
      by_cases hX : X = []
      · rw [show tpE X = 12 from if_pos hX] at T
        have e0 : cat X = [] := by rw [hX]; rfl
        rw [e0] at P
        generalize tpN X = tn at *
        clear q hb hX e0
        rcases tail with ⟨h, hd⟩ | ⟨h, h2⟩
        all_goals (
          go_wp2_with fail
          refine (P.out ()).mono ?_
          rintro e w2 ⟨v, rfl, own, f2⟩
          obtain ⟨a2, c2, rfl⟩ := own_shape own
          have B2 : Hid (Below s w w2) := HB.out.trans (f2.mono hz)
          have T2 : Hid (∀ _ : Unit, _) := fun _ => T.out w2 f2
          have z2 : s ≤ w2.heap.size := by have := B2.out.size; have := HS.out; omega
          clear own f2
          go_wp2_with fail
          refine (T2.out ()).mono ?_
          rintro e w3 ⟨rfl, f3⟩
          have B3 : Hid (Below s w w3) := B2.out.trans (f3.mono z2)
          have z3 : s ≤ w3.heap.size := by have := B3.out.size; have := HS.out; omega
          clear f3
          go_wp2_with fail
          refine (KN.out _).mono ?_
          rintro e w4 ⟨rfl, f4⟩
          go_wp2
          go_ret
          exact ⟨rfl, B3.out.trans (f4.mono z3)⟩)
      · obtain ⟨g, hG⟩ := gr_some q.ok hX
        rw [show tpE X = 0 from if_neg hX] at T
        have HG : Hid (Gr X g) := hG
        have PR : Hid (∀ w1 : World, Below wr.heap.size wr w1 → _) := fun w1 b => prio_any (tpN X) w1 (q.below b)
        rw [show prP X (tpN X) = g from prP_hit q.ok.nd ((mem_lv _ _ _).1 (tp_mem hG))] at PR
        have LG0 : (lv X g).length ≤ (cat X).length := lv_cat_le hG
        have LC : (cat X).length ≤ 1024 := by rw [len_cat q.ok.rg]; exact q.ok.le
        have OK0 : Hid (Ok 1024 X) := q.ok
        generalize tpN X = tn at *
        generalize decide (tn ∈ ids X) = bb at *
        clear q hb hX
        rcases tail with ⟨h, hd⟩ | ⟨h, h2⟩
        all_goals (
          go_wp2_with fail
          refine (P.out ()).mono ?_
          rintro e w2 ⟨v, rfl, own, f2⟩
          obtain ⟨a2, c2, rfl⟩ := own_shape own
          have B2 : Hid (Below s w w2) := HB.out.trans (f2.mono hz)
          have T2 : Hid (∀ _ : Unit, _) := fun _ => T.out w2 f2
          have z2 : s ≤ w2.heap.size := by have := B2.out.size; have := HS.out; omega
          have O2 : Hid (w2.ownsRow wr.heap.size 3 1 (.slice a2 (cat X).length c2) (cat X).length ((cat X).map (Value.int .i64))) := own
          have F2 : Hid (Below wr.heap.size wr w2) := f2
          clear own f2
          go_wp2_with fail
          refine (T2.out ()).mono ?_
          rintro e w3 ⟨rfl, f3⟩
          have B3 : Hid (Below s w w3) := B2.out.trans (f3.mono z2)
          have z3 : s ≤ w3.heap.size := by have := B3.out.size; have := HS.out; omega
          have F3 : Hid (Below wr.heap.size wr w3) := F2.out.trans (f3.mono F2.out.size)
          have O3 : Hid (w3.ownsRow wr.heap.size 3 1 (.slice a2 (cat X).length c2) (cat X).length ((cat X).map (Value.int .i64))) := owns_keep O2.out (Fr.of_below f3) (Nat.le_refl _) (by simp)
          have P3 : Hid (∀ _ : Unit, _) := fun _ => PR.out w3 F3.out
          clear f3 O2 F2
          go_wp2_with fail
          refine (P3.out ()).mono ?_
          rintro e w4 ⟨rfl, f4⟩
          have B4 : Hid (Below s w w4) := B3.out.trans (f4.mono z3)
          have F4 : Hid (Below wr.heap.size wr w4) := F3.out.trans (f4.mono F3.out.size)
          have O4 : Hid (w4.ownsRow wr.heap.size 3 1 (.slice a2 (cat X).length c2) (cat X).length ((cat X).map (Value.int .i64))) := owns_keep O3.out (Fr.of_below f4) (Nat.le_refl _) (by simp)
          have Q4 : Hid (PQ w4 s 1024 X) := HQ.out.below F4.out
          have ZB : Hid (s + 17 ≤ wr.heap.size) := hlt
          clear f4 O3 F3 F4 P T PR T2 P3 HQ hlt
          generalize wr.heap.size = base at *
          obtain ⟨n, hnl⟩ : ∃ n, (cat X).length = n := ⟨_, rfl⟩
          have NL : Hid ((cat X).length = n) := hnl
          obtain ⟨ga, hga⟩ : ∃ ga, (lv X g).length = ga := ⟨_, rfl⟩
          have GA : Hid ((lv X g).length = ga) := hga
          rw [hnl] at LC LG0 ⊢
          rw [hga] at LG0
          clear hnl hga
          go_wp2
          go_loopw [11] (fun i wq => ∃ (j : Nat) (Y : Its), (j : Int) ≤ ga ∧ PQ wq s 1024 Y ∧ Tn 1024 X Y g j ∧ wq.ownsRow base 3 1 (.slice a2 (cat X).length c2) (cat X).length ((cat X).map (Value.int .i64)) ∧ Below s w wq ∧ i = .int .i64 j) (fun i _ => ga - (intOf i).toNat)
          case atStart => exact ⟨0, X, by omega, Q4.out, tn_zero OK0.out g, O4.out, B4.out, rfl⟩
          case round =>
            obtain ⟨j, Y, hj, q, tn2, own, hb, rfl⟩ := hrel
            have HO : Hid (wr.ownsRow base 3 1 (.slice a2 (cat X).length c2) (cat X).length ((cat X).map (Value.int .i64))) := own
            have HB2 : Hid (Below s w wr) := hb
            have HQ2 : Hid (PQ wr s 1024 Y) := q
            have hz2 : s ≤ wr.heap.size := by have := hb.size; have := HS.out; omega
            have FIN : Hid (j = ga → ∀ w5 : World, Below wr.heap.size wr w5 → _) := fun e w5 b => plist_any w5 (q.below b)
            have CS : Hid (j = ga → cat Y = cat X) := fun e => tn_all tn2 (by rw [GA.out]; exact e)
            by_cases h5 : (j : Int) < n
            · obtain ⟨b5, rfl, hc⟩ := own_cell (by rw [NL.out] at own; exact own) h5
              have PJ : Hid (∀ _ : Unit, _) := fun _ => prio_any ((cat X).getD j 0) wr q
              by_cases h6 : (j : Int) < ga
              · obtain ⟨t1, t2⟩ := tn_top HG.out tn2 (by have := GA.out; omega)
                rw [show prP Y ((cat X).getD j 0) = g from tn_in HG.out tn2 (by have := GA.out; omega)] at PJ
                have TJ : Hid (∀ w5 : World, Below wr.heap.size wr w5 → _) := fun w5 b => top_any w5 (q.below b)
                rw [t1, t2] at TJ
                have UJ : Hid (∀ w5 : World, Below wr.heap.size wr w5 → _) := fun w5 b => pturn_any w5 (q.below b)
                rw [t2] at UJ
                have TN3 : Hid (Tn 1024 X (tnX Y) g (j + 1)) := tn_step HG.out tn2 (by have := GA.out; omega)
                have KC : Hid (∀ w5 : World, Below wr.heap.size wr w5 → w5.cell? ⟨b5, j, none⟩ = some (.int .i64 ((cat X).getD j 0))) := fun w5 b => (b.cell (p := ⟨b5, j, none⟩) (World.block_lt_of_cell? wr _ hc)).trans hc
                generalize (cat X).getD j 0 = x at *
                generalize decide (x ∈ ids Y) = bb2 at *
                clear q tn2 own hb t1 t2 FIN CS
                go_wp2_with fail
                refine (PJ.out ()).mono ?_
                rintro e w5 ⟨rfl, f5⟩
                have F5 : Hid (Below wr.heap.size wr w5) := f5
                have k5 := KC.out w5 f5
                have T5 : Hid (∀ _ : Unit, _) := fun _ => TJ.out w5 f5
                clear f5
                go_wp2_with fail
                refine (T5.out ()).mono ?_
                rintro e w6 ⟨rfl, f6⟩
                have F6 : Hid (Below wr.heap.size wr w6) := F5.out.trans (f6.mono F5.out.size)
                have k6 := KC.out w6 F6.out
                have U6 : Hid (∀ _ : Unit, _) := fun _ => UJ.out w6 F6.out
                clear f6 k5 hc
                go_wp2_with fail
                refine (U6.out ()).mono ?_
                rintro e w7 ⟨rfl, q7, f7⟩
                have B6 : Below s w w6 := HB2.out.trans (F6.out.mono hz2)
                have B7 : Below s w w7 := fr_own B6 f7 (by have := F6.out.size; omega) hP.out
                have O7 := owns_keep (owns_keep HO.out (Fr.of_below F6.out) (Nat.le_refl _) (by simp)) f7 (Nat.le_refl _) (fun i hi => by have := ((mem_zn s i).1 hi).2; have := ZB.out; omega)
                clear B6 f7 k6
                go_wp2
                go_roundw
                case rel => exact ⟨j + 1, _, by omega, q7, TN3.out, O7, B7, by go_num⟩
                case measure => simp [intOf]; omega
              · have hjg : j = ga := by omega
                have hne : prP Y ((cat X).getD j 0) ≠ g := tn_out HG.out tn2 (by have := GA.out; omega) (by have := NL.out; omega)
                have P5 : Hid (∀ w5 : World, Below wr.heap.size wr w5 → _) := fun w5 b => FIN.out hjg w5 b
                rw [CS.out hjg] at P5
                generalize prP Y ((cat X).getD j 0) = pp at *
                generalize decide ((cat X).getD j 0 ∈ ids Y) = bb2 at *
                generalize (cat X).getD j 0 = x at *
                have hne2 : (pp == (g : Int)) = false := by simpa using hne
                clear q tn2 own hb FIN CS hjg hne
                go_wp2_with fail
                refine (PJ.out ()).mono ?_
                rintro e w5 ⟨rfl, f5⟩
                have F5 : Hid (Below wr.heap.size wr w5) := f5
                have L5 : Hid (∀ _ : Unit, _) := fun _ => P5.out w5 f5
                clear f5 hc
                go_wp2_with fail
                refine (L5.out ()).mono ?_
                rintro e w6 ⟨v6, rfl, o6, f6⟩
                have F6 : Hid (Below wr.heap.size wr w6) := F5.out.trans (f6.mono F5.out.size)
                have R1 := row_of_owns o6
                have R2 := row_of_owns (owns_keep HO.out (Fr.of_below F6.out) (Nat.le_refl _) (by simp))
                have I : Hid (∀ _ : Unit, _) := fun _ => ints_any (cat X) v6 _ w6 (by have := NL.out; omega) R1 R2
                rw [NL.out] at I
                clear o6 f6 R1 R2
                go_wp2_with fail
                refine (I.out ()).mono ?_
                rintro e w7 ⟨rfl, d, rfl⟩
                go_wp2_with fail
                refine (KN.out _).mono ?_
                rintro e w8 ⟨rfl, b8⟩
                go_wp2
                go_ret
                have B6 : Below s w w6 := HB2.out.trans (F6.out.mono hz2)
                have B7 : Below s w (w6.drewN d) := ⟨B6.os, B6.tape, B6.output, B6.size, B6.block⟩
                exact ⟨rfl, B7.trans (b8.mono (by have := F6.out.size; show s ≤ w6.heap.size; omega))⟩
            · have hjg : j = ga := by omega
              have P5 : Hid (∀ w5 : World, Below wr.heap.size wr w5 → _) := fun w5 b => FIN.out hjg w5 b
              rw [CS.out hjg] at P5
              have L5 : Hid (∀ _ : Unit, _) := fun _ => P5.out wr (Below.refl _ _)
              clear q tn2 own hb FIN CS hjg
              go_wp2_with fail
              refine (L5.out ()).mono ?_
              rintro e w6 ⟨v6, rfl, o6, f6⟩
              have F6 : Hid (Below wr.heap.size wr w6) := f6
              have R1 := row_of_owns o6
              have R2 := row_of_owns (owns_keep HO.out (Fr.of_below F6.out) (Nat.le_refl _) (by simp))
              have I : Hid (∀ _ : Unit, _) := fun _ => ints_any (cat X) v6 _ w6 (by have := NL.out; omega) R1 R2
              rw [NL.out] at I
              clear o6 f6 R1 R2
              go_wp2_with fail
              refine (I.out ()).mono ?_
              rintro e w7 ⟨rfl, d, rfl⟩
              go_wp2_with fail
              refine (KN.out _).mono ?_
              rintro e w8 ⟨rfl, b8⟩
              go_wp2
              go_ret
              have B6 : Below s w w6 := HB2.out.trans (F6.out.mono hz2)
              have B7 : Below s w (w6.drewN d) := ⟨B6.os, B6.tape, B6.output, B6.size, B6.block⟩
              exact ⟨rfl, B7.trans (b8.mono (by have := F6.out.size; show s ≤ w6.heap.size; omega))⟩)
    · obtain ⟨b0, off, rfl, hc⟩ := srow_cell (wr := wr) HR.out (by rw [HS.out]; exact hb) h
      have c1 : wr.cell? ⟨b0, off + k * 3 + 1, none⟩ = some (.int .i64 (X0 k 1)) := hc 1 (by decide)
      have c2 : wr.cell? ⟨b0, off + k * 3 + 2, none⟩ = some (.int .i64 (X0 k 2)) := hc 2 (by decide)
      have P : Hid (∀ w1 : World, w1.heap = wr.heap → _) := fun w1 e => ppush_any (X0 k 1) (X0 k 2) w1 (q.heap e)
      have hz : s ≤ wr.heap.size := by have := hb.size; have := HS.out; omega
      have HB : Hid (Below s w wr) := hb
      have hb0 : b0 < s := by
        rcases HR.out with ⟨e, _⟩ | ⟨b, o, c, e, hlt, _⟩
        · omega
        · simp only [Value.slice.injEq, Option.some.injEq, Addr.mk.injEq] at e
          obtain ⟨⟨rfl, _⟩, _⟩ := e
          rw [← HS.out]
          exact hlt
      have KC : Hid (∀ w2 w3 : World, w2.heap = wr.heap → Fr w2.heap.size (zn s) w2 w3 → w3.cell? ⟨b0, off + k * 3 + 1, none⟩ = some (.int .i64 (X0 k 1)) ∧ w3.cell? ⟨b0, off + k * 3 + 2, none⟩ = some (.int .i64 (X0 k 2))) := fun w2 w3 e f => by
        have nz : b0 ∉ zn s := fun hm => by have := ((mem_zn s b0).1 hm).1; omega
        have lt2 : b0 < w2.heap.size := by rw [e]; omega
        refine ⟨(f.cell (p := ⟨b0, off + k * 3 + 1, none⟩) lt2 nz).trans ?_, (f.cell (p := ⟨b0, off + k * 3 + 2, none⟩) lt2 nz).trans ?_⟩
        · exact (World.cell?_of_block (w := wr) (by rw [e])).trans c1
        · exact (World.cell?_of_block (w := wr) (by rw [e])).trans c2
      generalize X0 k 1 = x1 at *
      generalize X0 k 2 = x2 at *
      generalize psE 1024 X x1 x2 = e2 at *
      generalize psX 1024 X x1 x2 = X2 at *
      clear q hb hc
      go_wp2
      go_region_held3 (fun w' => w'.cell? ⟨b0, off + k * 3 + 1, none⟩ = some (.int .i64 x1) ∧ w'.cell? ⟨b0, off + k * 3 + 2, none⟩ = some (.int .i64 x2)) (go_keep)
        (first | (go_at_call 20; refine (P.out _ ?_).mono ?_; rfl; rintro e w2 ⟨rfl, q2, f2⟩; obtain ⟨k1, k2⟩ := KC.out wr.drew w2 rfl f2))
      all_goals go_wp2
      have B2 : Below s w w2 := fr_own (w := wr.drew) ⟨HB.out.os, HB.out.tape, HB.out.output, HB.out.size, HB.out.block⟩ f2 hz hP.out
      clear f2
      go_roundw
      case rel => exact ⟨k + 1, X2, by omega, by omega, q2, B2, by go_num⟩
      case measure => simp [intOf]; omega

set_option maxRecDepth 100000 in
theorem lifted (os : Os) (started : os.Started) (H : Type) (enc : TypeId × Value → H) :
    ReturnsInHanded {} Try.checked os 5 .any (Rows.prioRoundSpec.pre6 enc Try.prog Try.f5 Rows.prioRoundRow.domain false) (Rows.prioRoundSpec.post enc Try.prog Try.f5 false true false false) := by
  refine returnsInHanded_of_change (C := Try.checked) own started (by kernel_rfl) Try.func5
    (ChangeSpec.witness6 (enc := enc) (C := Try.checked) false ⟨#[], #[.slice none 0 0], []⟩ 8 (by kernel_rfl) (by kernel_rfl) (by kernel_rfl) (by kernel_rfl)) ?_
  intro W base args ds gs before hval0 hW hcnd _
  have hval : ∀ (j : Nat) t v, Try.f5.params[j]? = some t → args[j]? = some v → Value.okWide Try.prog W .any base t v := hval0
  have hW' := hW
  obtain ⟨p, q, hA0, hV, rfl, hfz, hnd⟩ := hW
  have hA : DataW.TrodAll enc Try.prog W 0 (fun _ => true) true Try.f5.params.toList args.toList ds p := hA0
  rw [Try.params5] at hA hval
  obtain ⟨v0, vs0, d0, ds0, p0, q0, hargs, rfl, rfl, h0, r0⟩ := trodAll_cons hA
  obtain ⟨rfl, rfl, rfl⟩ := trodAll_nil r0
  obtain rfl : args = #[v0] := by cases args; simp_all
  obtain ⟨rfl, rfl⟩ := trodVars_none hV
  obtain ⟨a0, len0, cap0, rfl⟩ := okWide_slice Try.underlying22 (hval 0 22 v0 rfl rfl)
  have k0 := h0
  have lt0 : ∀ x ∈ p0, x.block < W.heap.size := by obtain ⟨m, hm⟩ := k0; exact DataW.trod_lt m _ _ _ hm
  obtain ⟨X0, w0, z0⟩ : ∃ X : Nat → Nat → Int, SRow W (.slice a0 len0 cap0) len0 [true, true, true] X ∧ ∀ i, i < len0 → ∀ j, j < [true, true, true].length → [true, true, true].getD j true = true → (Lit.int .i64 (X i j)).wf = true := by
    obtain ⟨fuel, hf⟩ := h0
    exact open_recs [true, true, true] Try.underlying22 Try.underlying33 (by kernel_rfl) rfl (by decide) (fun | 0, _ => ⟨_, rfl, rfl, by kernel_rfl, Try.underlying3⟩ | 1, _ => ⟨_, rfl, rfl, by kernel_rfl, Try.underlying3⟩ | 2, _ => ⟨_, rfl, rfl, by kernel_rfl, Try.underlying3⟩ | n + 3, h => absurd h (by simp only [List.length]; omega)) hf
  clear hA0 hval0
  refine (walk a0 len0 cap0 X0 W w0 z0).mono fun e W' ⟨he, bel⟩ => ?_
  subst he
  exact ⟨_, rfl, _, _, _, [], _, [], hW', trodAll_mk1 (shut_bool Try.underlying4 _), (trodAll_cons_mk (Below.trod laidOut (by kernel_rfl) (of_decide_eq_true (by kernel_rfl)) k0 bel lt0) trodAll_mk0), rfl, bel.frame _, fun h => by cases h⟩

theorem over : Rows.PrioRoundSaid :=
  OpenClaim.holds_of_wide 5 Try.f5 rfl rfl rfl rfl rfl rfl rfl ⟨rfl, rfl, rfl, rfl, rfl⟩ rfl rfl rfl rfl rfl (by kernel_rfl) Try.func5 (by kernel_rfl)
    (of_decide_eq_true (by kernel_rfl)) (by unfold Func.isWrapper; first | (rw [if_pos (by decide +kernel)]; kernel_rfl) | (rw [if_neg (by decide +kernel)]; exact ⟨rfl, rfl⟩))
    (fun os started H enc _ => lifted os started H enc)
end Go.Proofs.Ytpmjojemcpgpiaa.prioRound

namespace Go.Proofs.Ytpmjojemcpgpiaa
open Go
theorem prioRound_holds : Rows.PrioRoundSaid := prioRound.over
#print axioms prioRound_holds
end Go.Proofs.Ytpmjojemcpgpiaa
