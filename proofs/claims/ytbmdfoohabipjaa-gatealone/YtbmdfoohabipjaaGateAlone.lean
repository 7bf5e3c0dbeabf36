/- Proved: for every list acts, davitlaw19.GateAlone(acts) returns true: while the one who changes is there no reader is; when all readers that were there have left it can come, as no other one does (100 acts at most, as the law itself says), and acts is left alone; no condition. -/
import Derived.Test.YtbmdfoohabipjaaRows
import Derived.Test.YtbmdfoohabipjaaFo
import Derived.Test.YtbmdfoohabipjaaEc
import Derived.Test.YtbmdfoohabipjaaEf
import Derived.WalkKit
import Derived.ProofKit
import Derived.OpenShut
import Derived.Stop.Joined
import Derived.ShutString
import Derived.ChangeOld
import Derived.Below
import Derived.Carry
import Derived.Test.YtbmdfoohabipjaaFs
namespace Go.Proofs.Ytbmdfoohabipjaa.gateAlone
open Go.ChangeShapes Go.WideShapes Go.ChangeAt Go.RowKit
open Pm Em
set_option linter.unusedVariables false
set_option linter.unusedSimpArgs false

theorem own : ownKnob Try.prog.godebug = none := by kernel_rfl
theorem laidOut : laidOutB Try.prog = true := by kernel_rfl

set_option maxRecDepth 100000 in
set_option maxHeartbeats 4000000 in
theorem walk (a0 : Option Addr) (len0 cap0 : Nat) (X0 : Nat → Nat → Int) (w : World) (w0 : SRow w (.slice a0 len0 cap0) len0 [true, true] X0) (z0 : ∀ i, i < len0 → ∀ j, j < [true, true].length → [true, true].getD j true = true → (Lit.int .i64 (X0 i j)).wf = true) :
    Calls Try.prog 4 #[.slice a0 len0 cap0] w fun e w' => e = .returned (.bool true) ∧ Below w.heap.size w w' := by
  have KN : Hid (∀ w1, _) := fun w1 => gknown_yes w1
  have C : Hid (∀ _ : Unit, _) := fun _ => gnew_any 4 w (by decide) (by decide)
  have D : Hid (∀ w1, _) := fun w1 => rgnew_any 4 w1 (by decide) (by decide)
  have HR : Hid (SRow w (.slice a0 len0 cap0) len0 [true, true] X0) := w0
  obtain ⟨s, hsz⟩ : ∃ s, w.heap.size = s := ⟨_, rfl⟩
  have HS : Hid (w.heap.size = s) := hsz
  rw [hsz] at C ⊢
  clear w0 z0 hsz
  go_enter Try.func4, Try.ntmps4
  go_wp2_with fail
  refine (C.out ()).mono ?_
  rintro e u1 ⟨rfl, q1, z1, f1⟩
  have Q1 : Hid (GT u1 (s + 2) s 0 (List.replicate 4 0)) := q1
  have B1 : Hid (Fr s [] w u1) := f1
  have D1 : Hid (∀ _ : Unit, _) := fun _ => D.out u1
  rw [z1, show s + 3 + 1 = s + 4 from rfl] at D1
  have Z1 : Hid (u1.heap.size = s + 3) := z1
  clear q1 f1 z1
  go_wp2_with fail
  refine (D1.out ()).mono ?_
  rintro e u2 ⟨rfl, r2, f2⟩
  have PP0 : Hid (GG w u2 s 0 0 (List.replicate 4 0) (List.replicate 4 0)) := ⟨Q1.out.keep f2 ⟨by omega, by omega⟩ ⟨by simp, by simp⟩, r2, (B1.out.below (by simp)).trans ((f2.less (by omega)).below (by simp))⟩
  clear r2 f2 Q1 B1 D1 Z1
  go_wp2
  go_loopw [7] (fun i wr => ∃ (k : Nat) (st : Int) (L : List Int), (k : Int) ≤ 100 ∧ (k : Int) ≤ len0 ∧ GG w wr s st st L L ∧ Hid (L.length = 4 ∧ Rs st L) ∧ i = .int .i64 k) (fun i _ => 100 - (intOf i).toNat)
  case atStart => exact ⟨0, _, _, by omega, by omega, PP0.out, ⟨by simp, Or.inl rfl⟩, rfl⟩
  case round =>
    obtain ⟨k, st, L, hk, hk2, q, hL, rfl⟩ := hrel
    clear PP0
    have tail : (¬ (k : Int) < len0 ∧ decide ((k : Int) < len0) = false) ∨ ((k : Int) < len0 ∧ ¬ (k : Int) < 100) ∨ ((k : Int) < len0 ∧ (k : Int) < 100) := by
      by_cases h : (k : Int) < len0
      · by_cases h2 : (k : Int) < 100
        · exact Or.inr (Or.inr ⟨h, h2⟩)
        · exact Or.inr (Or.inl ⟨h, h2⟩)
      · exact Or.inl ⟨h, decide_eq_false h⟩
    rw [← or_assoc] at tail
    rcases tail with tail | ⟨h, h2⟩
    · have P0 : Hid (GG w wr s st st L L) := q
      have hz : s + 5 ≤ wr.heap.size := q.hi
      clear q
      have T : Hid (∀ w1, Sm w1 wr → _) := fun w1 e => gg_state P0.out (w1 := w1) e
      rcases tail with ⟨h, hd⟩ | ⟨h, h2⟩
      all_goals (
        rcases hL.out.2 with e0 | e0 | ⟨e0, e00⟩
        · subst e0
          go_wp2_with fail
          refine (T.out _ ⟨rfl, rfl, rfl, rfl⟩).mono ?_
          rintro e v1 ⟨rfl, q1, t1⟩
          have T1 : Hid (∀ w1, Sm w1 v1 → _) := fun w1 e => gg_state q1 (w1 := w1) e
          clear q1 t1
          go_wp2_with fail
          refine (T1.out _ ⟨rfl, rfl, rfl, rfl⟩).mono ?_
          rintro e v2 ⟨rfl, q2, t2⟩
          have T2 : Hid (∀ w1, Sm w1 v2 → _) := fun w1 e => gg_want q2 (w1 := w1) e
          rw [show waE 0 = 0 from rfl, show waS 0 = 1 from rfl] at T2
          clear q2 t2 T1
          go_wp2_with fail
          refine (T2.out _ ⟨rfl, rfl, rfl, rfl⟩).mono ?_
          rintro e v3 ⟨rfl, q3, t3⟩
          have A3 : Hid (GA w v3 s 0 L) := ⟨q3.q, q3.bel, hL.out.1, fun j hj => absurd hj (by omega)⟩
          clear q3 t3 T2 T P0 hL
          go_wp2
          go_loopw [8] (fun i wr => ∃ (c : Nat) (L : List Int), (c : Int) ≤ 4 ∧ GA w wr s c L ∧ i = .int .i64 c) (fun i _ => 4 - (intOf i).toNat)
          case atStart => exact ⟨0, L, by omega, A3.out, rfl⟩
          case round =>
            obtain ⟨c, L3, hc, q4, rfl⟩ := hrel
            clear A3
            by_cases hc2 : (c : Int) < 4
            · have hc3 : Hid (c < 4) := by unfold Hid; omega
              have T4 : Hid (∀ w1, Sm w1 _ → _) := fun w1 e => ga_on hc3.out q4 (w1 := w1) e
              have N1 : Hid (0 ≤ L3.getD c 0 ∧ L3.getD c 0 ≤ 1000) := ⟨(q4.q.rd.at c (by have := q4.len; omega)).1, (q4.q.rd.at c (by have := q4.len; omega)).2.2⟩
              obtain ⟨n, hn⟩ : ∃ n, L3.getD c 0 = n := ⟨_, rfl⟩
              rw [hn] at T4 N1
              have HN : Hid (L3.getD c 0 = n) := hn
              clear hn q4
              go_wp2_with fail
              refine (T4.out _ ⟨rfl, rfl, rfl, rfl⟩).mono ?_
              rintro e v5 ⟨rfl, q5⟩
              have A5 : Hid (GA w v5 s c L3) := q5
              have n0 : 0 ≤ n := N1.out.1
              have n9 : n ≤ 1000 := N1.out.2
              clear q5 T4 N1
              go_wp2
              go_loopw [10] (fun i wr => ∃ (j : Nat) (L : List Int), (j : Int) ≤ n ∧ GA w wr s c L ∧ Hid (L.getD c 0 = n - j) ∧ i = .int .i64 j) (fun i _ => n.toNat - (intOf i).toNat)
              case atStart => exact ⟨0, L3, by omega, A5.out, (by unfold Hid; rw [HN.out]; omega), rfl⟩
              case round =>
                obtain ⟨j, L4, hj, q6, hq, rfl⟩ := hrel
                clear A5
                by_cases hj2 : (j : Int) < n
                · have T6 : Hid (∀ w1, Sm w1 _ → _) := fun w1 e => ga_enter hc3.out q6 (w1 := w1) e
                  have HC : Hid (c < L4.length) := by unfold Hid; have := q6.len; have := hc3.out; omega
                  clear q6
                  go_wp2_with fail
                  refine (T6.out _ ⟨rfl, rfl, rfl, rfl⟩).mono ?_
                  rintro e v7 ⟨rfl, q7⟩
                  have T7 : Hid (∀ w1, Sm w1 v7 → _) := fun w1 e => ga_leave hc3.out q7 (by rw [hq.out]; omega) (w1 := w1) e
                  have HQ2 : Hid ((L4.set c (L4.getD c 0 - 1)).getD c 0 = n - (j + 1 : Nat)) := by unfold Hid; rw [getD_set HC.out, hq.out]; omega
                  clear q7 T6 hq
                  generalize L4.set c (L4.getD c 0 - 1) = L5 at *
                  go_wp2_with fail
                  refine (T7.out _ ⟨rfl, rfl, rfl, rfl⟩).mono ?_
                  rintro e v8 ⟨rfl, q8⟩
                  have A8 : Hid (GA w v8 s c L5) := q8
                  clear q8 T7
                  go_wp2
                  go_roundw
                  case rel => exact ⟨j + 1, L5, by omega, A8.out, HQ2, by go_num⟩
                  case measure => simp [intOf]; omega
                · have A9 : Hid (GA w _ s (c + 1) L4) := q6.next (by rw [hq.out]; omega)
                  clear q6 hq
                  go_wp2
                  go_roundw
                  case rel => exact ⟨c + 1, L4, by omega, A9.out, by go_num⟩
                  case measure => simp [intOf]; omega
            · obtain rfl : c = 4 := by omega
              have T4 : Hid (∀ w1, Sm w1 _ → _) := fun w1 e => ga_take q4 (w1 := w1) e
              clear q4
              go_wp2_with fail
              refine (T4.out _ ⟨rfl, rfl, rfl, rfl⟩).mono ?_
              rintro e v5 ⟨rfl, q5, b5⟩
              have T5 : Hid (∀ _ : Unit, _) := fun _ => gstate_any v5 q5
              have B5 : Hid (Below s w v5 ∧ s ≤ v5.heap.size) := ⟨b5, by have := q5.sg.lt; omega⟩
              clear q5 b5 T4
              go_wp2_with fail
              refine (T5.out ()).mono ?_
              rintro e v6 ⟨rfl, rfl⟩
              go_wp2_with fail
              refine (KN.out _).mono ?_
              rintro e v7 ⟨rfl, f7⟩
              go_wp2
              go_ret
              exact ⟨rfl, B5.out.1.trans (f7.mono B5.out.2)⟩
        · subst e0
          go_wp2_with fail
          refine (T.out _ ⟨rfl, rfl, rfl, rfl⟩).mono ?_
          rintro e v1 ⟨rfl, q1, t1⟩
          have T1 : Hid (∀ w1, Sm w1 v1 → _) := fun w1 e => gg_state q1 (w1 := w1) e
          clear q1 t1
          go_wp2_with fail
          refine (T1.out _ ⟨rfl, rfl, rfl, rfl⟩).mono ?_
          rintro e v3 ⟨rfl, q3, t3⟩
          have A3 : Hid (GA w v3 s 0 L) := ⟨q3.q, q3.bel, hL.out.1, fun j hj => absurd hj (by omega)⟩
          clear q3 t3 T1 T P0 hL
          go_wp2
          go_loopw [8] (fun i wr => ∃ (c : Nat) (L : List Int), (c : Int) ≤ 4 ∧ GA w wr s c L ∧ i = .int .i64 c) (fun i _ => 4 - (intOf i).toNat)
          case atStart => exact ⟨0, L, by omega, A3.out, rfl⟩
          case round =>
            obtain ⟨c, L3, hc, q4, rfl⟩ := hrel
            clear A3
            by_cases hc2 : (c : Int) < 4
            · have hc3 : Hid (c < 4) := by unfold Hid; omega
              have T4 : Hid (∀ w1, Sm w1 _ → _) := fun w1 e => ga_on hc3.out q4 (w1 := w1) e
              have N1 : Hid (0 ≤ L3.getD c 0 ∧ L3.getD c 0 ≤ 1000) := ⟨(q4.q.rd.at c (by have := q4.len; omega)).1, (q4.q.rd.at c (by have := q4.len; omega)).2.2⟩
              obtain ⟨n, hn⟩ : ∃ n, L3.getD c 0 = n := ⟨_, rfl⟩
              rw [hn] at T4 N1
              have HN : Hid (L3.getD c 0 = n) := hn
              clear hn q4
              go_wp2_with fail
              refine (T4.out _ ⟨rfl, rfl, rfl, rfl⟩).mono ?_
              rintro e v5 ⟨rfl, q5⟩
              have A5 : Hid (GA w v5 s c L3) := q5
              have n0 : 0 ≤ n := N1.out.1
              have n9 : n ≤ 1000 := N1.out.2
              clear q5 T4 N1
              go_wp2
              go_loopw [10] (fun i wr => ∃ (j : Nat) (L : List Int), (j : Int) ≤ n ∧ GA w wr s c L ∧ Hid (L.getD c 0 = n - j) ∧ i = .int .i64 j) (fun i _ => n.toNat - (intOf i).toNat)
              case atStart => exact ⟨0, L3, by omega, A5.out, (by unfold Hid; rw [HN.out]; omega), rfl⟩
              case round =>
                obtain ⟨j, L4, hj, q6, hq, rfl⟩ := hrel
                clear A5
                by_cases hj2 : (j : Int) < n
                · have T6 : Hid (∀ w1, Sm w1 _ → _) := fun w1 e => ga_enter hc3.out q6 (w1 := w1) e
                  have HC : Hid (c < L4.length) := by unfold Hid; have := q6.len; have := hc3.out; omega
                  clear q6
                  go_wp2_with fail
                  refine (T6.out _ ⟨rfl, rfl, rfl, rfl⟩).mono ?_
                  rintro e v7 ⟨rfl, q7⟩
                  have T7 : Hid (∀ w1, Sm w1 v7 → _) := fun w1 e => ga_leave hc3.out q7 (by rw [hq.out]; omega) (w1 := w1) e
                  have HQ2 : Hid ((L4.set c (L4.getD c 0 - 1)).getD c 0 = n - (j + 1 : Nat)) := by unfold Hid; rw [getD_set HC.out, hq.out]; omega
                  clear q7 T6 hq
                  generalize L4.set c (L4.getD c 0 - 1) = L5 at *
                  go_wp2_with fail
                  refine (T7.out _ ⟨rfl, rfl, rfl, rfl⟩).mono ?_
                  rintro e v8 ⟨rfl, q8⟩
                  have A8 : Hid (GA w v8 s c L5) := q8
                  clear q8 T7
                  go_wp2
                  go_roundw
                  case rel => exact ⟨j + 1, L5, by omega, A8.out, HQ2, by go_num⟩
                  case measure => simp [intOf]; omega
                · have A9 : Hid (GA w _ s (c + 1) L4) := q6.next (by rw [hq.out]; omega)
                  clear q6 hq
                  go_wp2
                  go_roundw
                  case rel => exact ⟨c + 1, L4, by omega, A9.out, by go_num⟩
                  case measure => simp [intOf]; omega
            · obtain rfl : c = 4 := by omega
              have T4 : Hid (∀ w1, Sm w1 _ → _) := fun w1 e => ga_take q4 (w1 := w1) e
              clear q4
              go_wp2_with fail
              refine (T4.out _ ⟨rfl, rfl, rfl, rfl⟩).mono ?_
              rintro e v5 ⟨rfl, q5, b5⟩
              have T5 : Hid (∀ _ : Unit, _) := fun _ => gstate_any v5 q5
              have B5 : Hid (Below s w v5 ∧ s ≤ v5.heap.size) := ⟨b5, by have := q5.sg.lt; omega⟩
              clear q5 b5 T4
              go_wp2_with fail
              refine (T5.out ()).mono ?_
              rintro e v6 ⟨rfl, rfl⟩
              go_wp2_with fail
              refine (KN.out _).mono ?_
              rintro e v7 ⟨rfl, f7⟩
              go_wp2
              go_ret
              exact ⟨rfl, B5.out.1.trans (f7.mono B5.out.2)⟩
        · subst e0
          clear hL e00
          go_wp2_with fail
          refine (T.out _ ⟨rfl, rfl, rfl, rfl⟩).mono ?_
          rintro e v1 ⟨rfl, q1, t1⟩
          have T1 : Hid (∀ w1, Sm w1 v1 → _) := fun w1 e => gfree_any w1 (q1.sm e).q
          have H1 : Hid (GG w v1 s 2 2 L L) := q1
          rw [show frE 2 = 0 from rfl] at T1
          clear q1 t1
          go_wp2_with fail
          refine (T1.out _ ⟨rfl, rfl, rfl, rfl⟩).mono ?_
          rintro e v2 ⟨rfl, q2, f2⟩
          have B2 : Hid (Below s w v2 ∧ s ≤ v2.heap.size) := ⟨fr_own H1.out.bel f2 (by have := H1.out.hi; omega) (by simp), by have := f2.size; have := H1.out.hi; omega⟩
          have T2 : Hid (∀ _ : Unit, _) := fun _ => gstate_any v2 q2
          clear q2 f2 H1 T1 T P0
          go_wp2_with fail
          refine (T2.out ()).mono ?_
          rintro e v3 ⟨rfl, rfl⟩
          go_wp2_with fail
          refine (KN.out _).mono ?_
          rintro e v4 ⟨rfl, f4⟩
          go_wp2
          go_ret
          exact ⟨rfl, B2.out.1.trans (f4.mono B2.out.2)⟩)
    · obtain ⟨b0, off, rfl, hA⟩ := srow_cell (wr := wr) HR.out (by rw [HS.out]; exact q.bel) h
      have x0 : wr.cell? ⟨b0, off + k * 2, none⟩ = some (.int .i64 (X0 k 0)) := hA 0 (by simp)
      have x1 : wr.cell? ⟨b0, off + k * 2 + 1, none⟩ = some (.int .i64 (X0 k 1)) := hA 1 (by simp)
      clear hA
      generalize X0 k 0 = y0 at *
      generalize X0 k 1 = y1 at *
      have T : Hid (∀ w1, Sm w1 wr → _) := fun w1 e => gg_do y0 y1 q (w1 := w1) e
      clear q
      go_wp2_with fail
      refine (T.out _ ⟨rfl, rfl, rfl, rfl⟩).mono ?_
      rintro e v1 ⟨rfl, st2, L2, q1, t1, l1, r1⟩
      have HL2 : Hid (L2.length = 4 ∧ Rs st2 L2) := ⟨l1.trans hL.out.1, r1 hL.out.2⟩
      have T1 : Hid (∀ w1, Sm w1 v1 → _) := fun w1 e => gg_state q1 (w1 := w1) e
      clear q1 t1 l1 r1 T x0 x1
      go_wp2_with fail
      refine (T1.out _ ⟨rfl, rfl, rfl, rfl⟩).mono ?_
      rintro e v2 ⟨rfl, q2, t2⟩
      have R2 : Hid (GG w v2 s st2 st2 L2 L2) := q2
      clear q2 t2 T1
      by_cases e2 : st2 = 2
      · have z : L2.sum = 0 := by
          rcases HL2.out.2 with g | g | ⟨_, g⟩
          · omega
          · omega
          · exact g
        subst e2
        have T2 : Hid (∀ w1, Sm w1 v2 → _) := fun w1 e => gg_readers R2.out (w1 := w1) e
        rw [z] at T2
        clear z
        go_wp2_with fail
        refine (T2.out _ ⟨rfl, rfl, rfl, rfl⟩).mono ?_
        rintro e v3 ⟨rfl, q3, t3⟩
        have R3 : Hid (GG w v3 s 2 2 L2 L2) := q3
        clear q3 t3
        go_wp2
        go_roundw
        case rel => exact ⟨k + 1, 2, L2, by omega, by omega, R3.out, HL2, by go_num⟩
        case measure => simp [intOf]; omega
      · have e3 : (st2 == 2) = false := by simpa using e2
        clear e2
        go_wp2
        go_roundw
        case rel => exact ⟨k + 1, st2, L2, by omega, by omega, R2.out, HL2, by go_num⟩
        case measure => simp [intOf]; omega

set_option maxRecDepth 100000 in
theorem lifted (os : Os) (started : os.Started) (H : Type) (enc : TypeId × Value → H) :
    ReturnsInHanded {} Try.checked os 4 .any (Rows.gateAloneSpec.pre6 enc Try.prog Try.f4 Rows.gateAloneRow.domain false) (Rows.gateAloneSpec.post enc Try.prog Try.f4 false true false false) := by
  refine returnsInHanded_of_change (C := Try.checked) own started (by kernel_rfl) Try.func4
    (ChangeSpec.witness6 (enc := enc) (C := Try.checked) false ⟨#[], #[.slice none 0 0], []⟩ 8 (by kernel_rfl) (by kernel_rfl) (by kernel_rfl) (by kernel_rfl)) ?_
  intro W base args ds gs before hval0 hW hcnd _
  have hval : ∀ (j : Nat) t v, Try.f4.params[j]? = some t → args[j]? = some v → Value.okWide Try.prog W .any base t v := hval0
  have hW' := hW
  obtain ⟨p, q, hA0, hV, rfl, hfz, hnd⟩ := hW
  have hA : DataW.TrodAll enc Try.prog W 0 (fun _ => true) true Try.f4.params.toList args.toList ds p := hA0
  rw [Try.params4] at hA hval
  obtain ⟨v0, vs0, d0, ds0, p0, q0, hargs, rfl, rfl, h0, r0⟩ := trodAll_cons hA
  obtain ⟨rfl, rfl, rfl⟩ := trodAll_nil r0
  obtain rfl : args = #[v0] := by cases args; simp_all
  obtain ⟨rfl, rfl⟩ := trodVars_none hV
  obtain ⟨a0, len0, cap0, rfl⟩ := okWide_slice Try.underlying22 (hval 0 22 v0 rfl rfl)
  have k0 := h0
  have lt0 : ∀ x ∈ p0, x.block < W.heap.size := by obtain ⟨m, hm⟩ := k0; exact DataW.trod_lt m _ _ _ hm
  obtain ⟨X0, w0, z0⟩ : ∃ X : Nat → Nat → Int, SRow W (.slice a0 len0 cap0) len0 [true, true] X ∧ ∀ i, i < len0 → ∀ j, j < [true, true].length → [true, true].getD j true = true → (Lit.int .i64 (X i j)).wf = true := by
    obtain ⟨fuel, hf⟩ := h0
    exact open_recs [true, true] Try.underlying22 Try.underlying32 (by kernel_rfl) rfl (by decide) (fun | 0, _ => ⟨_, rfl, rfl, by kernel_rfl, Try.underlying3⟩ | 1, _ => ⟨_, rfl, rfl, by kernel_rfl, Try.underlying3⟩ | n + 2, h => absurd h (by simp only [List.length]; omega)) hf
  clear hA0 hval0
  refine (walk a0 len0 cap0 X0 W w0 z0).mono fun e W' ⟨he, bel⟩ => ?_
  subst he
  exact ⟨_, rfl, _, _, _, [], _, [], hW', trodAll_mk1 (shut_bool Try.underlying4 _), (trodAll_cons_mk (Below.trod laidOut (by kernel_rfl) (of_decide_eq_true (by kernel_rfl)) k0 bel lt0) trodAll_mk0), rfl, bel.frame _, fun h => by cases h⟩

theorem over : Rows.GateAloneSaid :=
  OpenClaim.holds_of_wide 4 Try.f4 rfl rfl rfl rfl rfl rfl rfl ⟨rfl, rfl, rfl, rfl, rfl⟩ rfl rfl rfl rfl rfl (by kernel_rfl) Try.func4 (by kernel_rfl)
    (of_decide_eq_true (by kernel_rfl)) (by unfold Func.isWrapper; first | (rw [if_pos (by decide +kernel)]; kernel_rfl) | (rw [if_neg (by decide +kernel)]; exact ⟨rfl, rfl⟩))
    (fun os started H enc _ => lifted os started H enc)
end Go.Proofs.Ytbmdfoohabipjaa.gateAlone

namespace Go.Proofs.Ytbmdfoohabipjaa
open Go
theorem gateAlone_holds : Rows.GateAloneSaid := gateAlone.over
#print axioms gateAlone_holds
end Go.Proofs.Ytbmdfoohabipjaa
