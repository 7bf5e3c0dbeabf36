/- Proved: for every list acts, davitlaw09.PrioFirst(acts) returns true: what goes ahead is the first of all that wait, and none that waits has a greater priority (150 acts at most, as the law itself says), and acts is left alone, with no condition. -/
import Derived.Test.YtpmjojemcpgpiaaRows
import Derived.Test.YtpmjojemcpgpiaaFo
import Derived.Test.YtpmjojemcpgpiaaQr
import Derived.WalkKit
import Derived.ProofKit
import Derived.OpenShut
import Derived.Stop.Joined
import Derived.ShutString
import Derived.ChangeOld
import Derived.Below
import Derived.Carry
import Derived.Test.YtpmjojemcpgpiaaFs
import Derived.Deep.DeepCutAuto
import Derived.Deep.CutBlock
import Derived.Deep.RegionHeld3
namespace Go.Proofs.Ytpmjojemcpgpiaa.prioFirst
open Go.ChangeShapes Go.WideShapes Go.ChangeAt Go.RowKit
open Fm Qm
set_option linter.unusedVariables false
set_option linter.unusedSimpArgs false

theorem own : ownKnob Try.prog.godebug = none := by kernel_rfl
theorem laidOut : laidOutB Try.prog = true := by kernel_rfl

set_option maxRecDepth 100000 in
set_option maxHeartbeats 4000000 in
theorem walk (a0 : Option Addr) (len0 cap0 : Nat) (X0 : Nat → Nat → Int) (w : World) (w0 : SRow w (.slice a0 len0 cap0) len0 [true, true, true] X0) (z0 : ∀ i, i < len0 → ∀ j, j < [true, true, true].length → [true, true, true].getD j true = true → (Lit.int .i64 (X0 i j)).wf = true) :
    Calls Try.prog 4 #[.slice a0 len0 cap0] w fun e w' => e = .returned (.bool true) ∧ Below w.heap.size w w' := by
  have C : Hid (∀ _ : Unit, _) := fun _ => pnew_any 1024 w (by decide) (by decide)
  have KN : Hid (∀ w, _) := fun w => known_yes w
  have HR : Hid (SRow w (.slice a0 len0 cap0) len0 [true, true, true] X0) := w0
  have hP : Hid (∀ k ∈ zn w.heap.size, w.heap.size ≤ k) := zn_ge _
  obtain ⟨s, hs⟩ : ∃ s, w.heap.size = s := ⟨_, rfl⟩
  have HS : Hid (w.heap.size = s) := hs
  rw [hs] at C hP ⊢
  clear w0 z0 hs
  go_enter Try.func4, Try.ntmps4
  go_wp2_with fail
  refine (C.out ()).mono ?_
  rintro e w1 ⟨rfl, q1, f1, _⟩
  have Q1 : Hid (PQ w1 s 1024 []) := q1
  have H1 : Hid (Below s w w1) := f1
  clear f1 q1 C
  go_wp2
  go_loopw [5] (fun i wr => ∃ (k : Nat) (X : Its), (k : Int) ≤ len0 ∧ (k : Int) ≤ 150 ∧ PQ wr s 1024 X ∧ Below s w wr ∧ i = .int .i64 k) (fun i _ => 150 - (intOf i).toNat)
  case atStart => exact ⟨0, [], by omega, by omega, Q1.out, H1.out, rfl⟩
  case round =>
    obtain ⟨k, X, hk, hk2, q, hb, rfl⟩ := hrel
    clear Q1 H1
    have tail : (¬ (k : Int) < len0 ∧ decide ((k : Int) < len0) = false) ∨ ((k : Int) < len0 ∧ ¬ (k : Int) < 150) ∨ ((k : Int) < len0 ∧ (k : Int) < 150) := by
      by_cases h : (k : Int) < len0
      · by_cases h2 : (k : Int) < 150
        · exact Or.inr (Or.inr ⟨h, h2⟩)
        · exact Or.inr (Or.inl ⟨h, h2⟩)
      · exact Or.inl ⟨h, decide_eq_false h⟩
    rw [← or_assoc] at tail
    have hz : s ≤ wr.heap.size := by have := hb.size; have := HS.out; omega
    have HB : Hid (Below s w wr) := hb
    rcases tail with tail | ⟨h, h2⟩
    · clear q hb
      rcases tail with ⟨h, hd⟩ | ⟨h, h2⟩
      all_goals (
        go_wp2_with fail
        refine (KN.out _).mono ?_
        rintro e w4 ⟨rfl, f4⟩
        go_wp2
        go_ret
        exact ⟨rfl, HB.out.trans (f4.mono hz)⟩)
    · obtain ⟨b0, off, rfl, hA⟩ := srow_cell (wr := wr) HR.out (by rw [HS.out]; exact hb) h
      have HX : Hid (∀ w2 : World, Below s w w2 → ∀ j, j < 3 → w2.cell? ⟨b0, off + k * 3 + j, none⟩ = some (.int .i64 (X0 k j))) := fun w2 b2 j hj => by
        obtain ⟨ab3, off3, e3, hc3⟩ := srow_cell (wr := w2) HR.out (by rw [HS.out]; exact b2) h
        cases e3
        have := hc3 j hj
        match j, hj with
        | 0, _ => exact this
        | 1, _ => exact this
        | 2, _ => exact this
      clear hA
      have x0 := HX.out wr hb 0 (by omega)
      have x1 := HX.out wr hb 1 (by omega)
      have x2 := HX.out wr hb 2 (by omega)
      simp only [Nat.add_zero] at x0
      have Y1 : Hid (∀ w2 : World, Below s w w2 → w2.cell? ⟨b0, off + k * 3 + 1, none⟩ = some (.int .i64 (X0 k 1)) ∧ w2.cell? ⟨b0, off + k * 3 + 2, none⟩ = some (.int .i64 (X0 k 2))) := fun w2 b2 => ⟨HX.out w2 b2 1 (by omega), HX.out w2 b2 2 (by omega)⟩
      clear HX
      generalize X0 k 0 = y0 at *
      generalize X0 k 1 = y1 at *
      generalize X0 k 2 = y2 at *
      have C0 : Hid (∀ w1 : World, w1.heap = wr.heap → _) := fun w1 e => ppush_any y1 y2 w1 (q.heap e)
      have C1 : Hid (∀ _ : Unit, _) := fun _ => pturn_any wr q
      have C2 : Hid (∀ _ : Unit, _) := fun _ => pback_any y2 wr q
      have C3 : Hid (∀ _ : Unit, _) := fun _ => pdrop_any y2 wr q
      generalize psE 1024 X y1 y2 = ee0 at *
      generalize psX 1024 X y1 y2 = XX0 at *
      generalize tpE X = ee1 at *
      generalize tnX X = XX1 at *
      generalize drE X y2 = ee2 at *
      generalize bkX X y2 = XX2 at *
      generalize del X y2 = XX3 at *
      clear q hb
      go_upto_block 2 with (fail)
      go_cut [5] (fun i wx => i = .int .i64 k ∧ ∃ X2, PQ wx s 1024 X2 ∧ Below s w wx)
      case first =>
        by_cases t0 : y0.tmod 4 = 0
        · have e0 : (y0.tmod 4 == 0) = true := by simpa using t0
          clear t0 C1 C2 C3
          go_wp2_with fail
          go_region_held3 (fun w' => w'.cell? ⟨b0, off + k * 3 + 1, none⟩ = some (.int .i64 y1) ∧ w'.cell? ⟨b0, off + k * 3 + 2, none⟩ = some (.int .i64 y2)) (go_keep)
            (first | (go_at_call 20; refine (C0.out _ ?_).mono ?_; rfl; rintro e w2 ⟨rfl, q2, f2⟩; have B2 : Below s w w2 := fr_own (w := wr.drew) ⟨HB.out.os, HB.out.tape, HB.out.output, HB.out.size, HB.out.block⟩ f2 hz hP.out; obtain ⟨k1, k2⟩ := Y1.out w2 B2))
          all_goals go_wp2
          go_meet
          case rel => exact ⟨rfl, _, q2, B2⟩
        · have e0 : (y0.tmod 4 == 0) = false := by simpa using t0
          by_cases t1 : y0.tmod 4 = 1
          · have e1 : (y0.tmod 4 == 1) = true := by simpa using t1
            clear t0 t1 C0 C2 C3
            go_wp2_with fail
            refine (C1.out ()).mono ?_
            rintro e w2 ⟨rfl, q2, f2⟩
            have B2 : Below s w w2 := fr_own HB.out f2 hz hP.out
            clear f2
            go_wp2
            go_meet
            case rel => exact ⟨rfl, _, q2, B2⟩
          · have e1 : (y0.tmod 4 == 1) = false := by simpa using t1
            by_cases t2 : y0.tmod 4 = 2
            · have e2 : (y0.tmod 4 == 2) = true := by simpa using t2
              clear t0 t1 t2 C0 C1 C3
              go_wp2_with fail
              refine (C2.out ()).mono ?_
              rintro e w2 ⟨rfl, q2, f2⟩
              have B2 : Below s w w2 := fr_own HB.out f2 hz hP.out
              clear f2
              go_wp2
              go_meet
              case rel => exact ⟨rfl, _, q2, B2⟩
            · have e2 : (y0.tmod 4 == 2) = false := by simpa using t2
              clear t0 t1 t2 C0 C1 C2
              go_wp2_with fail
              refine (C3.out ()).mono ?_
              rintro e w2 ⟨rfl, q2, f2⟩
              have B2 : Below s w w2 := fr_own HB.out f2 hz hP.out
              clear f2
              go_wp2
              go_meet
              case rel => exact ⟨rfl, _, q2, B2⟩
      case rest =>
        obtain ⟨rfl, X2, q2, b2⟩ := hcut
        clear C0 C1 C2 C3 x0 x1 x2 Y1
        have P : Hid (∀ _ : Unit, _) := fun _ => plist_any wc q2
        have T : Hid (∀ w1 : World, Below wc.heap.size wc w1 → _) := fun w1 b => top_any w1 (q2.below b)
        have hzc : s ≤ wc.heap.size := by have := b2.size; have := HS.out; omega
        have HBc : Hid (Below s w wc) := b2
        have HQ : Hid (PQ wc s 1024 X2) := q2
        by_cases hX : X2 = []
        · rw [show tpE X2 = 12 from if_pos hX] at T
          have e0 : cat X2 = [] := by rw [hX]; rfl
          rw [e0] at P
          generalize tpN X2 = tn at *
          clear q2 b2 hX e0
          go_wp2_with fail
          refine (P.out ()).mono ?_
          rintro e w2 ⟨v, rfl, own, f2⟩
          obtain ⟨a2, c2, rfl⟩ := own_shape own
          have F2 : Hid (Below wc.heap.size wc w2) := f2
          have T2 : Hid (∀ _ : Unit, _) := fun _ => T.out w2 f2
          clear own f2
          go_wp2_with fail
          refine (T2.out ()).mono ?_
          rintro e w3 ⟨rfl, f3⟩
          have F3 : Below wc.heap.size wc w3 := F2.out.trans (f3.mono F2.out.size)
          have Q3 : Hid (PQ w3 s 1024 X2) := HQ.out.below F3
          have B3 : Hid (Below s w w3) := HBc.out.trans (F3.mono hzc)
          clear f3 F3
          go_wp2
          go_roundw
          case rel => exact ⟨k + 1, X2, by omega, by omega, Q3.out, B3.out, by go_num⟩
          case measure => simp [intOf]; omega
        · rw [show tpE X2 = 0 from if_neg hX] at T
          obtain ⟨g, hG⟩ := gr_some q2.ok hX
          have hp0 : 0 < (cat X2).length := by rw [len_cat q2.ok.rg]; exact List.length_pos_iff.2 hX
          have hp1 : (0 : Int) < (cat X2).length := by omega
          have PR : Hid (∀ w1 : World, Below wc.heap.size wc w1 → ∀ j, j < (cat X2).length → Calls Try.prog 14 #[.pointer (some ⟨s, 0, none⟩), .int .i64 ((cat X2).getD j 0)] w1 fun e w' => e = .returned (.tuple #[.int .i64 (prP X2 ((cat X2).getD j 0)), .bool true]) ∧ Below w1.heap.size w1 w') := fun w1 b j hj => by
            have := prio_any ((cat X2).getD j 0) w1 (q2.below b)
            rwa [decide_eq_true (cat_in hj)] at this
          have FALL : Hid (∀ j, j + 1 < (cat X2).length → prP X2 ((cat X2).getD (j + 1) 0) ≤ prP X2 ((cat X2).getD j 0)) := fun j hj => cat_fall q2.ok.nd hj
          have LC : (cat X2).length ≤ 1024 := by rw [len_cat q2.ok.rg]; exact q2.ok.le
          rw [tp_zero] at T
          clear q2 b2 hX hG
          obtain ⟨n, hnl⟩ : ∃ n, (cat X2).length = n := ⟨_, rfl⟩
          have NL : Hid ((cat X2).length = n) := hnl
          rw [hnl] at LC hp0 hp1 P PR FALL
          clear hnl
          obtain ⟨p0, hp0'⟩ : ∃ p0, prP X2 ((cat X2).getD 0 0) = p0 := ⟨_, rfl⟩
          have HP0 : Hid (prP X2 ((cat X2).getD 0 0) = p0) := hp0'
          obtain ⟨x0, hx0⟩ : ∃ x0, (cat X2).getD 0 0 = x0 := ⟨_, rfl⟩
          have HX0 : Hid ((cat X2).getD 0 0 = x0) := hx0
          have PR0 : Hid (∀ w1 : World, Below wc.heap.size wc w1 → _) := fun w1 b => PR.out w1 b 0 hp0
          rw [hp0', hx0] at PR0
          rw [hx0] at T
          clear hp0' hx0
          go_wp2_with fail
          refine (P.out ()).mono ?_
          rintro e w2 ⟨v, rfl, own, f2⟩
          obtain ⟨a2, c2, rfl⟩ := own_shape own
          have F2 : Hid (Below wc.heap.size wc w2) := f2
          have T2 : Hid (∀ _ : Unit, _) := fun _ => T.out w2 f2
          have O2 : Hid (w2.ownsRow wc.heap.size 3 1 (.slice a2 n c2) n ((cat X2).map (Value.int .i64))) := own
          clear own f2
          go_wp2_with fail
          refine (T2.out ()).mono ?_
          rintro e w3 ⟨rfl, f3⟩
          have F3 : Hid (Below wc.heap.size wc w3) := F2.out.trans (f3.mono F2.out.size)
          have P3 : Hid (∀ _ : Unit, _) := fun _ => PR0.out w3 F3.out
          have O3 : Hid (w3.ownsRow wc.heap.size 3 1 (.slice a2 n c2) n ((cat X2).map (Value.int .i64))) := owns_keep O2.out (Fr.of_below f3) (Nat.le_refl _) (by simp)
          clear f3
          go_wp2_with fail
          refine (P3.out ()).mono ?_
          rintro e w4 ⟨rfl, f4⟩
          have F4 : Hid (Below wc.heap.size wc w4) := F3.out.trans (f4.mono F3.out.size)
          have O4 : w4.ownsRow wc.heap.size 3 1 (.slice a2 n c2) n ((cat X2).map (Value.int .i64)) := owns_keep O3.out (Fr.of_below f4) (Nat.le_refl _) (by simp)
          have HO4 : Hid (w4.ownsRow wc.heap.size 3 1 (.slice a2 n c2) n ((cat X2).map (Value.int .i64))) := O4
          obtain ⟨b5, rfl, hc⟩ := own_cell O4 hp1
          rw [HX0.out] at hc
          have nx : (x0 != x0) = false := by simp
          clear f4 O4 O2 O3 F2 F3 P T T2 P3
          go_wp2
          go_loopw [9, 11] (fun pv i wq => ∃ (j : Nat), (1 : Int) ≤ j ∧ (j : Int) ≤ n ∧ pv = .int .i64 (prP X2 ((cat X2).getD (j - 1) 0)) ∧ Below wc.heap.size wc wq ∧ wq.ownsRow wc.heap.size 3 1 (.slice (some ⟨b5, 0, none⟩) n c2) n ((cat X2).map (Value.int .i64)) ∧ i = .int .i64 j) (fun _ i _ => n - (intOf i).toNat)
          case atStart => exact ⟨1, by omega, by omega, by rw [show 1 - 1 = 0 from rfl, HP0.out], F4.out, HO4.out, rfl⟩
          case round =>
            obtain ⟨j, hj1, hj, rfl, fb, own, rfl⟩ := hrel
            clear hc nx HO4 F4
            have HF : Hid (Below wc.heap.size wc wr) := fb
            by_cases h5 : (j : Int) < n
            · obtain ⟨b6, e6, hc⟩ := own_cell own h5
              cases e6
              have PJ : Hid (∀ _ : Unit, _) := fun _ => PR.out wr fb j (by omega)
              have le := FALL.out (j - 1) (by omega)
              rw [show j - 1 + 1 = j by omega] at le
              have O5 : Hid (∀ w5 : World, Below wr.heap.size wr w5 → w5.ownsRow wc.heap.size 3 1 (.slice (some ⟨b5, 0, none⟩) n c2) n ((cat X2).map (Value.int .i64))) := fun w5 b => owns_keep own (Fr.of_below b) (Nat.le_refl _) (by simp)
              have PE : Hid (prP X2 ((cat X2).getD j 0) = prP X2 ((cat X2).getD (j + 1 - 1) 0)) := by rw [Nat.add_sub_cancel]; exact rfl
              generalize prP X2 ((cat X2).getD (j - 1) 0) = pa at *
              obtain ⟨pj, hpj⟩ : ∃ pj, prP X2 ((cat X2).getD j 0) = pj := ⟨_, rfl⟩
              rw [hpj] at PJ PE le
              generalize (cat X2).getD j 0 = x at *
              clear fb own hpj
              go_wp2_with fail
              refine (PJ.out ()).mono ?_
              rintro e w5 ⟨rfl, f5⟩
              have F5 : Hid (Below wr.heap.size wr w5) := f5
              clear f5 hc
              go_wp2
              go_roundw
              case rel => exact ⟨j + 1, by omega, by omega, by rw [PE.out], HF.out.trans (F5.out.mono HF.out.size), O5.out w5 F5.out, by go_num⟩
              case measure => simp [intOf]; omega
            · have Q5 : Hid (PQ wr s 1024 X2) := HQ.out.below fb
              have B5 : Hid (Below s w wr) := HBc.out.trans (fb.mono hzc)
              clear fb own
              go_wp2
              go_roundw
              case rel => exact ⟨k + 1, X2, by omega, by omega, Q5.out, B5.out, by go_num⟩
              case measure => simp [intOf]; omega

set_option maxRecDepth 100000 in
theorem lifted (os : Os) (started : os.Started) (H : Type) (enc : TypeId × Value → H) :
    ReturnsInHanded {} Try.checked os 4 .any (Rows.prioFirstSpec.pre6 enc Try.prog Try.f4 Rows.prioFirstRow.domain false) (Rows.prioFirstSpec.post enc Try.prog Try.f4 false true false false) := by
  refine returnsInHanded_of_change (C := Try.checked) own started (by kernel_rfl) Try.func4
    (ChangeSpec.witness6 (enc := enc) (C := Try.checked) false ⟨#[], #[.slice none 0 0], []⟩ 8 (by kernel_rfl) (by kernel_rfl) (by kernel_rfl) (by kernel_rfl)) ?_
  intro W base args ds gs before hval0 hW hcnd _
  have hval : ∀ (j : Nat) t v, Try.f4.params[j]? = some t → args[j]? = some v → Value.okWide Try.prog W .any base t v := hval0
  have hW' := hW
  obtain ⟨p, q, hA0, hV, rfl, hfz, hnd⟩ := hW
  have hA : DataW.TrodAll enc Try.prog W 0 (fun _ => true) true Try.f4.params.toList args.toList ds p := hA0
  rw [Try.params4] at hA hval
  obtain ⟨v0, vs0, d0, ds0, p0, q0, hargs, rfl, rfl, h0, r0⟩ := trodAll_cons hA
  obtain ⟨rfl, rfl, rfl⟩ := trodAll_nil r0
  obtain rfl : args = #[v0] := by cases args; simp_all
  obtain ⟨rfl, rfl⟩ := trodVars_none hV
  obtain ⟨a0, len0, cap0, rfl⟩ := okWide_slice Try.underlying22 (hval 0 22 v0 rfl rfl)
  have k0 := h0
  have lt0 : ∀ x ∈ p0, x.block < W.heap.size := by obtain ⟨m, hm⟩ := k0; exact DataW.trod_lt m _ _ _ hm
  obtain ⟨X0, w0, z0⟩ : ∃ X : Nat → Nat → Int, SRow W (.slice a0 len0 cap0) len0 [true, true, true] X ∧ ∀ i, i < len0 → ∀ j, j < [true, true, true].length → [true, true, true].getD j true = true → (Lit.int .i64 (X i j)).wf = true := by
    obtain ⟨fuel, hf⟩ := h0
    exact open_recs [true, true, true] Try.underlying22 Try.underlying33 (by kernel_rfl) rfl (by decide) (fun | 0, _ => ⟨_, rfl, rfl, by kernel_rfl, Try.underlying3⟩ | 1, _ => ⟨_, rfl, rfl, by kernel_rfl, Try.underlying3⟩ | 2, _ => ⟨_, rfl, rfl, by kernel_rfl, Try.underlying3⟩ | n + 3, h => absurd h (by simp only [List.length]; omega)) hf
  clear hA0 hval0
  refine (walk a0 len0 cap0 X0 W w0 z0).mono fun e W' ⟨he, bel⟩ => ?_
  subst he
  exact ⟨_, rfl, _, _, _, [], _, [], hW', trodAll_mk1 (shut_bool Try.underlying4 _), (trodAll_cons_mk (Below.trod laidOut (by kernel_rfl) (of_decide_eq_true (by kernel_rfl)) k0 bel lt0) trodAll_mk0), rfl, bel.frame _, fun h => by cases h⟩

theorem over : Rows.PrioFirstSaid :=
  OpenClaim.holds_of_wide 4 Try.f4 rfl rfl rfl rfl rfl rfl rfl ⟨rfl, rfl, rfl, rfl, rfl⟩ rfl rfl rfl rfl rfl (by kernel_rfl) Try.func4 (by kernel_rfl)
    (of_decide_eq_true (by kernel_rfl)) (by unfold Func.isWrapper; first | (rw [if_pos (by decide +kernel)]; kernel_rfl) | (rw [if_neg (by decide +kernel)]; exact ⟨rfl, rfl⟩))
    (fun os started H enc _ => lifted os started H enc)
end Go.Proofs.Ytpmjojemcpgpiaa.prioFirst

namespace Go.Proofs.Ytpmjojemcpgpiaa
open Go
theorem prioFirst_holds : Rows.PrioFirstSaid := prioFirst.over
#print axioms prioFirst_holds
end Go.Proofs.Ytpmjojemcpgpiaa
