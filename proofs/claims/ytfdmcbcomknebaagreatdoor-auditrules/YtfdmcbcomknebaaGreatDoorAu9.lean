/- What the document's sleeps answers (davitref35). -/
import Derived.Test.YtfdmcbcomknebaaGreatDoorRows
import Derived.Test.YtfdmcbcomknebaaGreatDoorAu8
import Derived.WalkKit
import Derived.ProofKit
import Derived.OpenShut
import Derived.BigQuiet
import Derived.BigGuard
import Derived.Carry
import Derived.Deep.RegionHeld3
namespace Go.Proofs.YtfdmcbcomknebaaGreatDoor.Aud
open Go.ChangeShapes Go.WideShapes Go.ChangeAt Go.RowKit
open Mm

theorem any_snoc (q : Tr → Bool) (L : List Tr) (x : Tr) : (L ++ [x]).any q = (L.any q || q x) := by simp
set_option maxRecDepth 100000 in
set_option maxHeartbeats 8000000 in
theorem rsleeps_any (p : Pic) (v4 v5 v6 v7 v8 v9 v10 : Value) (w : World) (h : PV w p v4 v5 v6 v7 v8 v9 v10) (hl : Few p) :
    Calls Tryz.prog 23 #[.agg #[.int .i64 p.cp, .int .u64 (p.on : Int), .int .u64 (p.ac : Int), .int .u64 (p.pw : Int), v4, v5, v6, v7, v8, v9, v10, .bool p.bu, .bool p.up, .int .i64 p.cc, .int .i64 p.by']] w fun e w' => e = .returned (.bool (rl3 p)) ∧ Below w.heap.size w w' := by
  obtain ⟨a4, k4, rfl⟩ := h.th.shape
  obtain ⟨a5, k5, rfl⟩ := h.qu.shape
  obtain ⟨a6, k6, rfl⟩ := h.ti.shape
  have HH : Hid (PV w p (.slice a4 p.th.length k4) (.slice a5 p.qu.length k5) (.slice a6 p.ti.length k6) v7 v8 v9 v10) := h
  have HL : Hid (Few p) := hl
  have b0 : Below w.heap.size w (w.alloc (.cells #[.int .i64 p.cp, .int .u64 (p.on : Int), .int .u64 (p.ac : Int), .int .u64 (p.pw : Int), (.slice a4 p.th.length k4), (.slice a5 p.qu.length k5), (.slice a6 p.ti.length k6), v7, v8, v9, v10, .bool p.bu, .bool p.up, .int .i64 p.cc, .int .i64 p.by'] 26)) := (Below.refl _ _).alloc (Nat.le_refl _) _
  have HB0 : Hid (Below w.heap.size w (w.alloc (.cells #[.int .i64 p.cp, .int .u64 (p.on : Int), .int .u64 (p.ac : Int), .int .u64 (p.pw : Int), (.slice a4 p.th.length k4), (.slice a5 p.qu.length k5), (.slice a6 p.ti.length k6), v7, v8, v9, v10, .bool p.bu, .bool p.up, .int .i64 p.cc, .int .i64 p.by'] 26))) := b0
  have HK0 : Hid (Blk (w.alloc (.cells #[.int .i64 p.cp, .int .u64 (p.on : Int), .int .u64 (p.ac : Int), .int .u64 (p.pw : Int), (.slice a4 p.th.length k4), (.slice a5 p.qu.length k5), (.slice a6 p.ti.length k6), v7, v8, v9, v10, .bool p.bu, .bool p.up, .int .i64 p.cc, .int .i64 p.by'] 26)) w.heap.size [.int .i64 p.cp, .int .u64 (p.on : Int), .int .u64 (p.ac : Int), .int .u64 (p.pw : Int), (.slice a4 p.th.length k4), (.slice a5 p.qu.length k5), (.slice a6 p.ti.length k6), v7, v8, v9, v10, .bool p.bu, .bool p.up, .int .i64 p.cc, .int .i64 p.by'] 26) := Blk.new w _ _
  have lth := HL.out.th
  have lqu := HL.out.qu
  have lti := HL.out.ti
  clear h hl b0
  obtain ⟨R, hR⟩ : ∃ R, rl3 p = R := ⟨_, rfl⟩
  have HA : Hid (p.th.all (rd3a p) = true → p.ti.all (rl3b p) = R) := fun q => by
    rw [← hR]
    unfold rl3
    rw [show p.th.all (rl3a p) = true by rw [← q]; congr 1; funext t; exact (rd3a_eq p t).symm, Bool.true_and]
  have HF : Hid (∀ x ∈ p.th, rd3a p x = false → R = false) := fun x hx q => by
    rw [← hR]
    unfold rl3
    rw [show p.th.all (rl3a p) = false from List.all_eq_false.2 ⟨x, hx, by rw [← rd3a_eq, q]; simp⟩, Bool.false_and]
  rw [hR]
  clear hR
  go_enter Tryz.func23, Tryz.ntmps23
  go_wp2
  go_loopw [3] (fun i wr => ∃ (k : Nat), (k : Int) ≤ p.th.length ∧ Hid (Below w.heap.size w wr ∧ Blk wr w.heap.size [.int .i64 p.cp, .int .u64 (p.on : Int), .int .u64 (p.ac : Int), .int .u64 (p.pw : Int), (.slice a4 p.th.length k4), (.slice a5 p.qu.length k5), (.slice a6 p.ti.length k6), v7, v8, v9, v10, .bool p.bu, .bool p.up, .int .i64 p.cc, .int .i64 p.by'] 26 ∧ (p.th.take k).all (rd3a p) = true) ∧ i = .int .i64 (k : Int)) (fun i _ => p.th.length - (intOf i).toNat)
  case atStart => exact ⟨0, by omega, ⟨HB0.out, HK0.out, rfl⟩, rfl⟩
  case round =>
    obtain ⟨k, hk, hm, rfl⟩ := hrel
    obtain ⟨u, hu⟩ : ∃ u : World, u = wr := ⟨_, rfl⟩
    subst hu
    by_cases e : (k : Int) < p.th.length
    · obtain ⟨b, off, e4, hbl, f0, f1, f2⟩ := trow_at (HH.out.th.below hm.out.1) (k := k) (by omega)
      have hmem : p.th.getD k tz ∈ p.th := by
        rw [List.getD_eq_getElem?_getD, List.getElem?_eq_getElem (by omega)]; exact List.getElem_mem _
      have s : Hid (rd3a p (p.th.getD k tz) = true → (p.th.take (k + 1)).all (rd3a p) = true) := fun q => by
        rw [take_one' p.th tz (by omega), List.all_append, hm.out.2.2]
        simpa using q
      have no : Hid (rd3a p (p.th.getD k tz) = false → R = false) := HF.out _ hmem
      have DF : Hid (rd3a p (p.th.getD k tz) = (decide ((p.th.getD k tz).c = 0) || (decide (cn K1 p.ti (p.th.getD k tz).c = 1) && oth p.ti (p.th.getD k tz).c (p.th.getD k tz).a))) := rfl
      generalize rd3a p (p.th.getD k tz) = t at *
      generalize (p.th.getD k tz).a = xa at *
      generalize (p.th.getD k tz).b = xb at *
      generalize (p.th.getD k tz).c = xc at *
      have d4 := hm.out.2.1.cell 4
      simp only [List.getElem?_cons_zero, List.getElem?_cons_succ] at d4
      have HW : Hid (Below w.heap.size w (u.alloc (.cells #[.int .i64 xa, .int .i64 xb, .int .i64 xc] 48))) := hm.out.1.alloc hm.out.1.size _
      have HKW : Hid (Blk (u.alloc (.cells #[.int .i64 xa, .int .i64 xb, .int .i64 xc] 48)) w.heap.size [.int .i64 p.cp, .int .u64 (p.on : Int), .int .u64 (p.ac : Int), .int .u64 (p.pw : Int), (.slice a4 p.th.length k4), (.slice a5 p.qu.length k5), (.slice a6 p.ti.length k6), v7, v8, v9, v10, .bool p.bu, .bool p.up, .int .i64 p.cc, .int .i64 p.by'] 26) := hm.out.2.1.alloc _
      have HXW : Hid (Blk (u.alloc (.cells #[.int .i64 xa, .int .i64 xb, .int .i64 xc] 48)) u.heap.size [.int .i64 xa, .int .i64 xb, .int .i64 xc] 48) := Blk.new u _ _
      have CM : Hid (∀ _ : Unit, _) := fun _ => rmany_any p.ti (.slice a6 p.ti.length k6) xc (u.alloc (.cells #[.int .i64 xa, .int .i64 xb, .int .i64 xc] 48)) (HH.out.ti.below HW.out) lti
      have d6 := HKW.out.cell 6
      simp only [List.getElem?_cons_zero, List.getElem?_cons_succ] at d6
      clear hm hmem hbl
      cases e4
      by_cases qc : xc = 0
      · subst qc
        have T : Hid ((p.th.take (k + 1)).all (rd3a p) = true) := s.out (by rw [DF.out]; rfl)
        clear s no DF CM d6
        go_wp2
        go_roundw
        case rel => exact ⟨k + 1, by omega, ⟨HW.out, HKW.out, T.out⟩, by go_num⟩
        case measure => simp [intOf]; omega
      · have q0 := beq0 qc
        have DF2 : Hid (t = (decide (cn K1 p.ti xc = 1) && oth p.ti xc xa)) := by rw [DF.out, decide_eq_false qc, Bool.false_or]; exact rfl
        generalize cn K1 p.ti xc = c at *
        clear DF
        by_cases qn : c = 1
        · subst qn
          have DF3 : Hid (t = oth p.ti xc xa) := DF2.out.trans (Bool.true_and _)
          clear DF2
          go_wp2_with fail
          refine (CM.out ()).mono ?_
          rintro e w9 ⟨rfl, rfl⟩
          clear CM d6 d4 f0 f1 f2
          go_wp2
          go_loopw [5] (fun i wr => ∃ (j : Nat), (j : Int) ≤ p.ti.length ∧ Hid (Sm wr (u.alloc (.cells #[.int .i64 xa, .int .i64 xb, .int .i64 xc] 48)) ∧ (p.ti.take j).all (fun x => decide (x.a = xc → x.c = xa)) = true) ∧ i = .int .i64 (j : Int)) (fun i _ => p.ti.length - (intOf i).toNat)
          case atStart => exact ⟨0, by omega, ⟨⟨rfl, rfl, rfl, rfl⟩, rfl⟩, rfl⟩
          case round =>
            obtain ⟨j, hj, hm, rfl⟩ := hrel
            by_cases e5 : (j : Int) < p.ti.length
            · obtain ⟨b5, off5, e6, hbl5, g0, g1, g2⟩ := trow_at (HH.out.ti.below (Sm.below hm.out.1 HW.out)) (k := j) (by omega)
              have hmem : p.ti.getD j tz ∈ p.ti := by
                rw [List.getD_eq_getElem?_getD, List.getElem?_eq_getElem (by omega)]; exact List.getElem_mem _
              have s2 : Hid (((p.ti.getD j tz).a = xc → (p.ti.getD j tz).c = xa) → (p.ti.take (j + 1)).all (fun x => decide (x.a = xc → x.c = xa)) = true) := fun q => by
                rw [take_one' p.ti tz (by omega), List.all_append, hm.out.2, Bool.true_and]
                show (decide _ && true) = true
                rw [Bool.and_true]
                exact decide_eq_true q
              have no2 : Hid (¬ ((p.ti.getD j tz).a = xc → (p.ti.getD j tz).c = xa) → R = false) := fun q => no.out (DF3.out.trans (List.all_eq_false.2 ⟨_, hmem, by simpa using q⟩))
              have SM : Hid (Sm wr _) := hm.out.1
              have d6 := (HKW.out.heap hm.out.1.1).cell 6
              simp only [List.getElem?_cons_zero, List.getElem?_cons_succ] at d6
              have x0 := (HXW.out.heap hm.out.1.1).cell 0
              have x2 := (HXW.out.heap hm.out.1.1).cell 2
              simp only [List.getElem?_cons_zero, List.getElem?_cons_succ] at x0 x2
              generalize (p.ti.getD j tz).a = za at *
              generalize (p.ti.getD j tz).c = zc at *
              clear hm hbl5 g1 hmem DF3 no s
              cases e6
              by_cases q1 : za = xc
              · by_cases q2 : zc = xa
                · have T := s2.out (fun _ => q2)
                  have HT : Hid (_ = true) := T
                  clear s2 no2 T
                  subst q1 q2
                  go_wp2_with fail
                  go_quiet (fail)
                  go_wp2
                  go_roundw
                  case rel => exact ⟨j + 1, by omega, ⟨(by have q := SM.out; exact ⟨q.1, q.2.1, q.2.2.1, q.2.2.2⟩), HT.out⟩, by go_num⟩
                  case measure => simp [intOf]; omega
                · have r0 := no2.out (fun h => q2 (h q1))
                  subst r0
                  clear s2 no2
                  subst q1
                  have q3 := bne1 q2
                  go_wp2_with fail
                  go_quiet (fail)
                  go_wp2
                  go_ret
                  exact ⟨rfl, by have q := Sm.below SM.out HW.out; exact ⟨q.os, q.tape, q.output, q.size, q.block⟩⟩
              · have T := s2.out (fun h => absurd h q1)
                have HT : Hid (_ = true) := T
                clear s2 no2 T
                have q3 := beq0 q1
                go_wp2_with fail
                go_quiet (fail)
                go_wp2
                go_roundw
                case rel => exact ⟨j + 1, by omega, ⟨(by have q := SM.out; exact ⟨q.1, q.2.1, q.2.2.1, q.2.2.2⟩), HT.out⟩, by go_num⟩
                case measure => simp [intOf]; omega
            · have e2 : j = p.ti.length := by omega
              subst e2
              rw [List.take_of_length_le (Nat.le_refl _)] at hm
              have T : Hid ((p.th.take (k + 1)).all (rd3a p) = true) := s.out (DF3.out.trans hm.out.2)
              have B1 : Hid (Below w.heap.size w wr) := Sm.below hm.out.1 HW.out
              have K1' : Hid (Blk wr w.heap.size _ _) := HKW.out.heap hm.out.1.1
              have d6 := (HKW.out.heap hm.out.1.1).cell 6
              simp only [List.getElem?_cons_zero, List.getElem?_cons_succ] at d6
              clear hm DF3 no s
              go_wp2
              go_roundw
              case rel => exact ⟨k + 1, by omega, ⟨B1.out, K1'.out, T.out⟩, by go_num⟩
              case measure => simp [intOf]; omega
        · have r0 := no.out (by rw [DF2.out, decide_eq_false qn]; rfl)
          subst r0
          have q3 := bne1 (show ¬ (c : Int) = 1 by omega)
          clear s no DF2
          go_wp2_with fail
          refine (CM.out ()).mono ?_
          rintro e w9 ⟨rfl, rfl⟩
          clear CM d6 d4 f0 f1 f2
          go_wp2
          go_ret
          exact ⟨rfl, HW.out⟩
    · have e2 : k = p.th.length := by omega
      subst e2
      have ALL : p.th.all (rd3a p) = true := by have q := hm.out.2.2; rw [List.take_of_length_le (Nat.le_refl _)] at q; exact q
      have HQ : Hid (p.ti.all (rl3b p) = R) := HA.out ALL
      have B9 : Hid (Below w.heap.size w u) := hm.out.1
      have K9 : Hid (Blk u w.heap.size _ _) := hm.out.2.1
      have d4 := hm.out.2.1.cell 4
      simp only [List.getElem?_cons_zero, List.getElem?_cons_succ] at d4
      clear hm ALL HA HF
      go_wp2
      go_loopw [6] (fun i wr => ∃ (j : Nat), (j : Int) ≤ p.ti.length ∧ Hid (Sm wr u ∧ (p.ti.take j).all (rl3b p) = true) ∧ i = .int .i64 (j : Int)) (fun i _ => p.ti.length - (intOf i).toNat)
      case atStart => exact ⟨0, by omega, ⟨⟨rfl, rfl, rfl, rfl⟩, rfl⟩, rfl⟩
      case round =>
        obtain ⟨j, hj, hm, rfl⟩ := hrel
        clear d4
        have SM : Hid (Sm wr u) := hm.out.1
        by_cases e5 : (j : Int) < p.ti.length
        · obtain ⟨b5, off5, e6, hbl5, g0, g1, g2⟩ := trow_at (HH.out.ti.below (Sm.below hm.out.1 B9.out)) (k := j) (by omega)
          have hmem : p.ti.getD j tz ∈ p.ti := by
            rw [List.getD_eq_getElem?_getD, List.getElem?_eq_getElem (by omega)]; exact List.getElem_mem _
          have s : Hid (rl3b p (p.ti.getD j tz) = true → (p.ti.take (j + 1)).all (rl3b p) = true) := fun q => by
            rw [take_one' p.ti tz (by omega), List.all_append, hm.out.2]
            simpa using q
          have no : Hid (rl3b p (p.ti.getD j tz) = false → R = false) := fun q => by
            rw [← HQ.out]
            exact List.all_eq_false.2 ⟨_, hmem, by rw [q]; simp⟩
          have DF : Hid (rl3b p (p.ti.getD j tz) = (decide ((p.ti.getD j tz).c ≤ 0) || decide (0 < cn K2 p.th ((p.ti.getD j tz).c, (p.ti.getD j tz).a)))) := rfl
          have TI : Hid (∀ v, Sm v u → v.cell? ⟨b5, off5 + j * 3, none⟩ = some (.int .i64 (p.ti.getD j tz).a) ∧ v.cell? ⟨b5, off5 + j * 3 + 2, none⟩ = some (.int .i64 (p.ti.getD j tz).c)) := fun v e => by
            have hz := Fr.of_below (Sm.below e (Below.refl u.heap.size u))
            obtain ⟨b7, off7, e7, -, y0, -, y2⟩ := trow_at (HH.out.ti.below (Sm.below e B9.out)) (k := j) (by omega)
            rw [e6] at e7
            cases e7
            exact ⟨y0, y2⟩
          generalize (p.ti.getD j tz).a = za at *
          generalize (p.ti.getD j tz).c = zc at *
          generalize rl3b p (p.ti.getD j tz) = t at *
          have d6 := (K9.out.heap hm.out.1.1).cell 6
          simp only [List.getElem?_cons_zero, List.getElem?_cons_succ] at d6
          have TK : Hid (∀ v, Sm v u → v.cell? ⟨w.heap.size, 4, none⟩ = some (.slice a4 p.th.length k4) ∧ v.cell? ⟨w.heap.size, 6, none⟩ = some (.slice a6 p.ti.length k6)) := fun v e => ⟨(K9.out.heap e.1).cell 4, (K9.out.heap e.1).cell 6⟩
          clear hm hbl5 g1 hmem
          cases e6
          by_cases qz : zc ≤ 0
          · have e0 : decide (zc ≤ 0) = true := decide_eq_true qz
            have T : Hid ((p.ti.take (j + 1)).all (rl3b p) = true) := s.out (by rw [DF.out, e0]; rfl)
            clear s no DF
            go_wp2
            go_roundw
            case rel => exact ⟨j + 1, by omega, ⟨SM.out, T.out⟩, by go_num⟩
            case measure => simp [intOf]; omega
          · have e0 : decide (zc ≤ 0) = false := decide_eq_false qz
            have DF2 : Hid (t = decide (0 < cn K2 p.th (zc, za))) := by rw [DF.out, e0, Bool.false_or]; exact rfl
            have AY : Hid (decide (0 < cn K2 p.th (zc, za)) = p.th.any (fun x => decide (x.a = zc) && decide (x.c = za))) := by
              apply Bool.eq_iff_iff.2
              rw [decide_eq_true_eq, cn_pos, List.any_eq_true]
              simp [K2]
            clear DF
            go_wp2
            go_loopw [7, 8] (fun ok i wr => ∃ (k : Nat) (o : Bool), (k : Int) ≤ p.th.length ∧ Hid (Sm wr u ∧ o = (p.th.take k).any (fun x => decide (x.a = zc) && decide (x.c = za))) ∧ ok = .bool o ∧ i = .int .i64 (k : Int)) (fun _ i _ => p.th.length - (intOf i).toNat)
            case atStart => exact ⟨0, false, by omega, ⟨SM.out, rfl⟩, rfl, rfl⟩
            case round =>
              obtain ⟨i, o, hi, hm, rfl, rfl⟩ := hrel
              clear d6 g0 g2
              obtain ⟨d4, d6⟩ := TK.out wr hm.out.1
              by_cases e8 : (i : Int) < p.th.length
              · obtain ⟨b, off, e4, hbl, f0, f1, f2⟩ := trow_at (HH.out.th.below (Sm.below hm.out.1 B9.out)) (k := i) (by omega)
                obtain ⟨g0, g2⟩ := TI.out wr hm.out.1
                have st : Hid ((p.th.take (i + 1)).any (fun x => decide (x.a = zc) && decide (x.c = za)) = (o || (decide ((p.th.getD i tz).a = zc) && decide ((p.th.getD i tz).c = za)))) := by
                  rw [take_one' p.th tz (by omega)]
                  exact (any_snoc _ _ _).trans (by rw [← hm.out.2])
                have SM2 : Hid (Sm wr u) := hm.out.1
                generalize (p.th.getD i tz).a = xa at *
                generalize (p.th.getD i tz).c = xc at *
                clear hm hbl f1 s no AY DF2
                cases e4
                cases o
                · by_cases q1 : xa = zc
                  · by_cases q2 : xc = za
                    · rw [decide_eq_true q1, decide_eq_true q2] at st
                      subst q1 q2
                      go_wp2_with fail
                      go_quiet (fail)
                      go_wp2
                      go_roundw
                      case rel => exact ⟨i + 1, true, by omega, ⟨(by have q := SM2.out; exact ⟨q.1, q.2.1, q.2.2.1, q.2.2.2⟩), st.out.symm⟩, by go_num, by go_num⟩
                      case measure => simp [intOf]; omega
                    · rw [decide_eq_true q1, decide_eq_false q2] at st
                      have q3 := beq0 q2
                      subst q1
                      go_wp2_with fail
                      go_quiet (fail)
                      go_wp2
                      go_roundw
                      case rel => exact ⟨i + 1, false, by omega, ⟨(by have q := SM2.out; exact ⟨q.1, q.2.1, q.2.2.1, q.2.2.2⟩), st.out.symm⟩, by go_num, by go_num⟩
                      case measure => simp [intOf]; omega
                  · rw [decide_eq_false q1, Bool.false_and] at st
                    have q3 := beq0 q1
                    go_wp2_with fail
                    go_quiet (fail)
                    go_wp2
                    go_roundw
                    case rel => exact ⟨i + 1, false, by omega, ⟨(by have q := SM2.out; exact ⟨q.1, q.2.1, q.2.2.1, q.2.2.2⟩), st.out.symm⟩, by go_num, by go_num⟩
                    case measure => simp [intOf]; omega
                · rw [Bool.true_or] at st
                  go_wp2_with fail
                  go_quiet (fail)
                  go_wp2
                  go_roundw
                  case rel => exact ⟨i + 1, true, by omega, ⟨(by have q := SM2.out; exact ⟨q.1, q.2.1, q.2.2.1, q.2.2.2⟩), st.out.symm⟩, by go_num, by go_num⟩
                  case measure => simp [intOf]; omega
              · have e2 : i = p.th.length := by omega
                subst e2
                rw [List.take_of_length_le (Nat.le_refl _), ← AY.out, ← DF2.out] at hm
                have SM2 : Hid (Sm wr u) := hm.out.1
                have ot := hm.out.2
                subst ot
                clear hm DF2 AY
                cases o
                · have r0 := no.out rfl
                  subst r0
                  clear no s
                  go_wp2
                  go_ret
                  exact ⟨rfl, Sm.below SM2.out B9.out⟩
                · have T : Hid ((p.ti.take (j + 1)).all (rl3b p) = true) := s.out rfl
                  clear no s
                  go_wp2
                  go_roundw
                  case rel => exact ⟨j + 1, by omega, ⟨SM2.out, T.out⟩, by go_num⟩
                  case measure => simp [intOf]; omega
        · have e2 : j = p.ti.length := by omega
          subst e2
          have r1 : R = true := by have q := hm.out.2; rw [List.take_of_length_le (Nat.le_refl _)] at q; rw [← HQ.out]; exact q
          subst r1
          have d6 := (K9.out.heap hm.out.1.1).cell 6
          simp only [List.getElem?_cons_zero, List.getElem?_cons_succ] at d6
          clear hm
          go_wp2
          go_ret
          exact ⟨rfl, Sm.below SM.out B9.out⟩
end Go.Proofs.YtfdmcbcomknebaaGreatDoor.Aud
