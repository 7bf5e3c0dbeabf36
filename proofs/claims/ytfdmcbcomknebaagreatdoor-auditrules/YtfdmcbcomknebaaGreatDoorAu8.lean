/- What the document's queues and sleeps answer (davitref35). -/
import Derived.Test.YtfdmcbcomknebaaGreatDoorRows
import Derived.Test.YtfdmcbcomknebaaGreatDoorAu7
import Derived.WalkKit
import Derived.ProofKit
import Derived.OpenShut
import Derived.BigQuiet
import Derived.BigGuard
import Derived.Carry
import Derived.Deep.RegionHeld3
namespace Go.Proofs.YtfdmcbcomknebaaGreatDoor.Aud
open Go.ChangeShapes Go.WideShapes Go.ChangeAt Go.RowKit
open Mm

theorem bne1 {a b : Int} (h : ¬ a = b) : (a != b) = true := by simpa using h
theorem smN {a b : World} (h : Sm a b) (n : Nat) : Sm (a.drewN n) b := ⟨h.1, h.2.1, h.2.2.1, h.2.2.2⟩
theorem beq0 {a b : Int} (h : ¬ a = b) : (a == b) = false := by simpa using h
set_option maxRecDepth 100000 in
set_option maxHeartbeats 8000000 in
theorem rqueues_any (p : Pic) (v4 v5 v6 v7 v8 v9 v10 : Value) (w : World) (h : PV w p v4 v5 v6 v7 v8 v9 v10) (hl : Few p) :
    Calls Tryz.prog 22 #[.agg #[.int .i64 p.cp, .int .u64 (p.on : Int), .int .u64 (p.ac : Int), .int .u64 (p.pw : Int), v4, v5, v6, v7, v8, v9, v10, .bool p.bu, .bool p.up, .int .i64 p.cc, .int .i64 p.by']] w fun e w' => e = .returned (.bool (rl2 p)) ∧ Below w.heap.size w w' := by
  obtain ⟨a4, k4, rfl⟩ := h.th.shape
  obtain ⟨a5, k5, rfl⟩ := h.qu.shape
  obtain ⟨a6, k6, rfl⟩ := h.ti.shape
  have HH : Hid (PV w p (.slice a4 p.th.length k4) (.slice a5 p.qu.length k5) (.slice a6 p.ti.length k6) v7 v8 v9 v10) := h
  have HL : Hid (Few p) := hl
  have b0 : Below w.heap.size w (w.alloc (.cells #[.int .i64 p.cp, .int .u64 (p.on : Int), .int .u64 (p.ac : Int), .int .u64 (p.pw : Int), (.slice a4 p.th.length k4), (.slice a5 p.qu.length k5), (.slice a6 p.ti.length k6), v7, v8, v9, v10, .bool p.bu, .bool p.up, .int .i64 p.cc, .int .i64 p.by'] 26)) := (Below.refl _ _).alloc (Nat.le_refl _) _
  have HB0 : Hid (Below w.heap.size w (w.alloc (.cells #[.int .i64 p.cp, .int .u64 (p.on : Int), .int .u64 (p.ac : Int), .int .u64 (p.pw : Int), (.slice a4 p.th.length k4), (.slice a5 p.qu.length k5), (.slice a6 p.ti.length k6), v7, v8, v9, v10, .bool p.bu, .bool p.up, .int .i64 p.cc, .int .i64 p.by'] 26))) := b0
  have HK0 : Hid (Blk (w.alloc (.cells #[.int .i64 p.cp, .int .u64 (p.on : Int), .int .u64 (p.ac : Int), .int .u64 (p.pw : Int), (.slice a4 p.th.length k4), (.slice a5 p.qu.length k5), (.slice a6 p.ti.length k6), v7, v8, v9, v10, .bool p.bu, .bool p.up, .int .i64 p.cc, .int .i64 p.by'] 26)) w.heap.size [.int .i64 p.cp, .int .u64 (p.on : Int), .int .u64 (p.ac : Int), .int .u64 (p.pw : Int), (.slice a4 p.th.length k4), (.slice a5 p.qu.length k5), (.slice a6 p.ti.length k6), v7, v8, v9, v10, .bool p.bu, .bool p.up, .int .i64 p.cc, .int .i64 p.by'] 26) := Blk.new w _ _
  have lth := HL.out.th
  have lqu := HL.out.qu
  have lti := HL.out.ti
  clear h hl b0
  obtain ⟨R, hR⟩ : ∃ R, rl2 p = R := ⟨_, rfl⟩
  have HA : Hid (p.th.all (rd2a p) = true → p.qu.all (rl2b p) = R) := fun q => by
    rw [← hR]
    unfold rl2
    rw [show p.th.all (rl2a p) = true by rw [← q]; congr 1; funext t; exact (rd2_eq p t).symm, Bool.true_and]
  have HF : Hid (∀ x ∈ p.th, rd2a p x = false → R = false) := fun x hx q => by
    rw [← hR]
    unfold rl2
    rw [show p.th.all (rl2a p) = false from List.all_eq_false.2 ⟨x, hx, by rw [← rd2_eq, q]; simp⟩, Bool.false_and]
  rw [hR]
  clear hR
  go_enter Tryz.func22, Tryz.ntmps22
  go_wp2
  go_loopw [3] (fun i wr => ∃ (k : Nat), (k : Int) ≤ p.th.length ∧ Hid (Below w.heap.size w wr ∧ Blk wr w.heap.size [.int .i64 p.cp, .int .u64 (p.on : Int), .int .u64 (p.ac : Int), .int .u64 (p.pw : Int), (.slice a4 p.th.length k4), (.slice a5 p.qu.length k5), (.slice a6 p.ti.length k6), v7, v8, v9, v10, .bool p.bu, .bool p.up, .int .i64 p.cc, .int .i64 p.by'] 26 ∧ (p.th.take k).all (rd2a p) = true) ∧ i = .int .i64 (k : Int)) (fun i _ => p.th.length - (intOf i).toNat)
  case atStart => exact ⟨0, by omega, ⟨HB0.out, HK0.out, rfl⟩, rfl⟩
  case round =>
    obtain ⟨k, hk, hm, rfl⟩ := hrel
    obtain ⟨u, hu⟩ : ∃ u : World, u = wr := ⟨_, rfl⟩
    subst hu
    by_cases e : (k : Int) < p.th.length
    · obtain ⟨b, off, e4, hbl, f0, f1, f2⟩ := trow_at (HH.out.th.below hm.out.1) (k := k) (by omega)
      have hmem : p.th.getD k tz ∈ p.th := by
        rw [List.getD_eq_getElem?_getD, List.getElem?_eq_getElem (by omega)]; exact List.getElem_mem _
      have s : Hid (rd2a p (p.th.getD k tz) = true → (p.th.take (k + 1)).all (rd2a p) = true) := fun q => by
        rw [take_one' p.th tz (by omega), List.all_append, hm.out.2.2]
        simpa using q
      have no : Hid (rd2a p (p.th.getD k tz) = false → R = false) := HF.out _ hmem
      have DF : Hid (rd2a p (p.th.getD k tz) = if (p.th.getD k tz).c = 0 then decide (cn K1 p.qu (p.th.getD k tz).a = 1 ∧ c2 p.qu (p.th.getD k tz).a (p.th.getD k tz).b = 1) else decide (cn K1 p.qu (p.th.getD k tz).a = 0)) := rfl
      generalize rd2a p (p.th.getD k tz) = t at *
      generalize (p.th.getD k tz).a = xa at *
      generalize (p.th.getD k tz).b = xb at *
      generalize (p.th.getD k tz).c = xc at *
      have d4 := hm.out.2.1.cell 4
      simp only [List.getElem?_cons_zero, List.getElem?_cons_succ] at d4
      have HW : Hid (Below w.heap.size w (u.alloc (.cells #[.int .i64 xa, .int .i64 xb, .int .i64 xc] 48))) := hm.out.1.alloc hm.out.1.size _
      have HKW : Hid (Blk (u.alloc (.cells #[.int .i64 xa, .int .i64 xb, .int .i64 xc] 48)) w.heap.size [.int .i64 p.cp, .int .u64 (p.on : Int), .int .u64 (p.ac : Int), .int .u64 (p.pw : Int), (.slice a4 p.th.length k4), (.slice a5 p.qu.length k5), (.slice a6 p.ti.length k6), v7, v8, v9, v10, .bool p.bu, .bool p.up, .int .i64 p.cc, .int .i64 p.by'] 26) := hm.out.2.1.alloc _
      have HXW : Hid (Blk (u.alloc (.cells #[.int .i64 xa, .int .i64 xb, .int .i64 xc] 48)) u.heap.size [.int .i64 xa, .int .i64 xb, .int .i64 xc] 48) := Blk.new u _ _
      clear hm hmem hbl
      cases e4
      go_wp2
      go_loopw [5, 6, 7] (fun n o i wr => ∃ (j cn' co : Nat), (j : Int) ≤ p.qu.length ∧ (cn' : Int) ≤ j ∧ (co : Int) ≤ j ∧ Hid (Sm wr (u.alloc (.cells #[.int .i64 xa, .int .i64 xb, .int .i64 xc] 48)) ∧ cn' = cn K1 (p.qu.take j) xa ∧ co = c2 (p.qu.take j) xa xb) ∧ n = .int .i64 (cn' : Int) ∧ o = .int .i64 (co : Int) ∧ i = .int .i64 (j : Int)) (fun _ _ i _ => p.qu.length - (intOf i).toNat)
      case atStart => exact ⟨0, 0, 0, by omega, by omega, by omega, ⟨⟨rfl, rfl, rfl, rfl⟩, rfl, rfl⟩, rfl, rfl, rfl⟩
      case round =>
        obtain ⟨j, n, o, hj, hn, ho, hm, rfl, rfl, rfl⟩ := hrel
        by_cases e5 : (j : Int) < p.qu.length
        · obtain ⟨b5, off5, e6, hbl5, g0, g1, g2⟩ := trow_at (HH.out.qu.below (Sm.below hm.out.1 HW.out)) (k := j) (by omega)
          have s1 : Hid (cn K1 (p.qu.take (j + 1)) xa = n + if (p.qu.getD j tz).a = xa then 1 else 0) := by
            rw [take_one' p.qu tz (by omega)]
            exact (cn_snoc K1 (p.qu.take j) (p.qu.getD j tz) xa).trans (by rw [← hm.out.2.1]; rfl)
          have s2 : Hid (c2 (p.qu.take (j + 1)) xa xb = o + if (p.qu.getD j tz).a = xa ∧ (p.qu.getD j tz).b = xb then 1 else 0) := by
            rw [take_one' p.qu tz (by omega)]
            exact (c2_snoc (p.qu.take j) (p.qu.getD j tz) xa xb).trans (by rw [← hm.out.2.2])
          have x0 := (HXW.out.heap hm.out.1.1).cell 0
          have x1 := (HXW.out.heap hm.out.1.1).cell 1
          have d5 := (HKW.out.heap hm.out.1.1).cell 5
          simp only [List.getElem?_cons_zero, List.getElem?_cons_succ] at x0 x1 d5
          have SM : Hid (Sm wr _) := hm.out.1
          generalize (p.qu.getD j tz).a = za at *
          generalize (p.qu.getD j tz).b = zb at *
          clear hm hbl5 g2 d4 f0 f1 f2
          cases e6
          by_cases q1 : za = xa
          · rw [if_pos q1] at s1
            by_cases q2 : zb = xb
            · rw [if_pos ⟨q1, q2⟩] at s2
              subst q1 q2
              go_wp2_with fail
              go_quiet (fail)
              go_wp2_with fail
              go_quiet (fail)
              go_wp2
              go_roundw
              case rel => exact ⟨j + 1, n + 1, o + 1, by omega, by omega, by omega, ⟨(by have q := SM.out; exact ⟨q.1, q.2.1, q.2.2.1, q.2.2.2⟩), s1.out.symm, s2.out.symm⟩, by go_num, by go_num, by go_num⟩
              case measure => simp [intOf]; omega
            · rw [if_neg (fun h => q2 h.2)] at s2
              have q3 := beq0 q2
              subst q1
              go_wp2_with fail
              go_quiet (fail)
              go_wp2_with fail
              go_quiet (fail)
              go_wp2
              go_roundw
              case rel => exact ⟨j + 1, n + 1, o, by omega, by omega, by omega, ⟨(by have q := SM.out; exact ⟨q.1, q.2.1, q.2.2.1, q.2.2.2⟩), s1.out.symm, s2.out.symm⟩, by go_num, by go_num, by go_num⟩
              case measure => simp [intOf]; omega
          · rw [if_neg q1] at s1
            rw [if_neg (fun h => q1 h.1)] at s2
            have q3 := beq0 q1
            go_wp2_with fail
            go_quiet (fail)
            go_wp2
            go_roundw
            case rel => exact ⟨j + 1, n, o, by omega, by omega, by omega, ⟨(by have q := SM.out; exact ⟨q.1, q.2.1, q.2.2.1, q.2.2.2⟩), s1.out.symm, s2.out.symm⟩, by go_num, by go_num, by go_num⟩
            case measure => simp [intOf]; omega
        · have e2 : j = p.qu.length := by omega
          subst e2
          rw [List.take_of_length_le (Nat.le_refl _)] at hm
          obtain ⟨SM0, hn1, ho1⟩ := hm.out
          rw [← hn1, ← ho1] at DF
          have x2 := (HXW.out.heap SM0.1).cell 2
          have d5 := (HKW.out.heap SM0.1).cell 5
          simp only [List.getElem?_cons_zero, List.getElem?_cons_succ] at x2 d5
          have NXT : Hid ((p.th.take (k + 1)).all (rd2a p) = true → Below w.heap.size w wr ∧ Blk wr w.heap.size _ _ ∧ (p.th.take (k + 1)).all (rd2a p) = true) := fun q => ⟨Sm.below SM0 HW.out, HKW.out.heap SM0.1, q⟩
          have HB9 : Hid (Below w.heap.size w wr) := Sm.below SM0 HW.out
          clear hm hn1 ho1 SM0 d4 f0 f1 f2
          by_cases qc : xc = 0
          · subst qc
            rw [if_pos rfl] at DF
            by_cases qn : n = 1
            · subst qn
              by_cases qo : o = 1
              · subst qo
                have T : Hid ((p.th.take (k + 1)).all (rd2a p) = true) := s.out (by rw [DF.out]; rfl)
                clear s no DF
                go_wp2
                go_roundw
                case rel => exact ⟨k + 1, by omega, NXT.out T.out, by go_num⟩
                case measure => simp [intOf]; omega
              · have r0 := no.out (by rw [DF.out]; exact decide_eq_false fun h => qo h.2)
                subst r0
                have q3 := bne1 (show ¬ (o : Int) = 1 by omega)
                clear s no DF
                go_wp2
                go_ret
                exact ⟨rfl, HB9.out⟩
            · have r0 := no.out (by rw [DF.out]; exact decide_eq_false fun h => qn h.1)
              subst r0
              have q3 := bne1 (show ¬ (n : Int) = 1 by omega)
              clear s no DF
              go_wp2
              go_ret
              exact ⟨rfl, HB9.out⟩
          · rw [if_neg qc] at DF
            have q4 := beq0 qc
            have q5 := bne1 qc
            by_cases qn : n = 0
            · subst qn
              have T : Hid ((p.th.take (k + 1)).all (rd2a p) = true) := s.out (by rw [DF.out]; rfl)
              clear s no DF
              go_wp2
              go_roundw
              case rel => exact ⟨k + 1, by omega, NXT.out T.out, by go_num⟩
              case measure => simp [intOf]; omega
            · have r0 := no.out (by rw [DF.out]; exact decide_eq_false qn)
              subst r0
              have q3 := bne1 (show ¬ (n : Int) = 0 by omega)
              clear s no DF
              go_wp2
              go_ret
              exact ⟨rfl, HB9.out⟩
    · have e2 : k = p.th.length := by omega
      subst e2
      have ALL : p.th.all (rd2a p) = true := by have q := hm.out.2.2; rw [List.take_of_length_le (Nat.le_refl _)] at q; exact q
      have HQ : Hid (p.qu.all (rl2b p) = R) := HA.out ALL
      have B9 : Hid (Below w.heap.size w u) := hm.out.1
      have K9 : Hid (Blk u w.heap.size _ _) := hm.out.2.1
      have d4 := hm.out.2.1.cell 4
      simp only [List.getElem?_cons_zero, List.getElem?_cons_succ] at d4
      clear hm ALL
      go_wp2
      go_loopw [8] (fun i wr => ∃ (j : Nat), (j : Int) ≤ p.qu.length ∧ Hid (Below u.heap.size u wr ∧ (p.qu.take j).all (rl2b p) = true) ∧ i = .int .i64 (j : Int)) (fun i _ => p.qu.length - (intOf i).toNat)
      case atStart => exact ⟨0, by omega, ⟨Below.refl _ _, rfl⟩, rfl⟩
      case round =>
        obtain ⟨j, hj, hm, rfl⟩ := hrel
        clear d4
        have K8 := K9.out.keep (Fr.of_below hm.out.1) K9.out.lt (by simp)
        have B8 : Hid (Below w.heap.size w wr) := B9.out.trans (hm.out.1.mono B9.out.size)
        by_cases e5 : (j : Int) < p.qu.length
        · obtain ⟨b5, off5, e6, hbl5, g0, g1, g2⟩ := trow_at (HH.out.qu.below B8.out) (k := j) (by omega)
          have hmem : p.qu.getD j tz ∈ p.qu := by
            rw [List.getD_eq_getElem?_getD, List.getElem?_eq_getElem (by omega)]; exact List.getElem_mem _
          have s : Hid (rl2b p (p.qu.getD j tz) = true → (p.qu.take (j + 1)).all (rl2b p) = true) := fun q => by
            rw [take_one' p.qu tz (by omega), List.all_append, hm.out.2]
            simpa using q
          have no : Hid (rl2b p (p.qu.getD j tz) = false → R = false) := fun q => by
            rw [← HQ.out]
            exact List.all_eq_false.2 ⟨_, hmem, by rw [q]; simp⟩
          have C : Hid (∀ v, Sm v wr → Calls Tryz.prog 87 _ v fun e w' => (∃ z : Int, e = .returned (.int .i64 z) ∧ decide (z < 0) = !decide (0 < cn K1 p.th (p.qu.getD j tz).a)) ∧ Below wr.heap.size wr w') := fun v e => (rthread_any p _ (.slice a5 p.qu.length k5) (.slice a6 p.ti.length k6) v7 v8 v9 v10 (p.qu.getD j tz).a v (HH.out.th.below (Sm.below e B8.out)) HL.out.th).mono fun _ w8 ⟨r1, r2⟩ => ⟨r1, by have := e.from r2; rwa [e.1] at this⟩
          have DF : Hid (rl2b p (p.qu.getD j tz) = decide (0 < cn K1 p.th (p.qu.getD j tz).a)) := rfl
          have K7 : Hid (Blk wr w.heap.size _ _) := K8
          have RW7 : Hid (∀ v, Below wr.heap.size wr v → v.cell? ⟨b5, off5 + j * 3, none⟩ = some (.int .i64 (p.qu.getD j tz).a)) := fun v bv => below_cell bv g0
          have HM : Hid (Below u.heap.size u wr) := hm.out.1
          have r0 := rl2b p (p.qu.getD j tz)
          clear hm hbl5 g1 g2 K8 hmem r0
          cases e6
          generalize (p.qu.getD j tz).a = za at *
          generalize rl2b p (p.qu.getD j tz) = t at *
          generalize decide (0 < cn K1 p.th za) = tt at *
          have KL : Hid (∀ v, Below wr.heap.size wr v → v.cell? ⟨w.heap.size, 0, none⟩ = some (.int .i64 p.cp) ∧ v.cell? ⟨w.heap.size, 1, none⟩ = some (.int .u64 (p.on : Int)) ∧ v.cell? ⟨w.heap.size, 2, none⟩ = some (.int .u64 (p.ac : Int)) ∧ v.cell? ⟨w.heap.size, 3, none⟩ = some (.int .u64 (p.pw : Int)) ∧ v.cell? ⟨w.heap.size, 4, none⟩ = some (.slice a4 p.th.length k4) ∧ v.cell? ⟨w.heap.size, 5, none⟩ = some (.slice (some ⟨b5, off5, none⟩) p.qu.length k5) ∧ v.cell? ⟨w.heap.size, 6, none⟩ = some (.slice a6 p.ti.length k6) ∧ v.cell? ⟨w.heap.size, 7, none⟩ = some (v7) ∧ v.cell? ⟨w.heap.size, 8, none⟩ = some (v8) ∧ v.cell? ⟨w.heap.size, 9, none⟩ = some (v9) ∧ v.cell? ⟨w.heap.size, 10, none⟩ = some (v10) ∧ v.cell? ⟨w.heap.size, 11, none⟩ = some (.bool p.bu) ∧ v.cell? ⟨w.heap.size, 12, none⟩ = some (.bool p.up) ∧ v.cell? ⟨w.heap.size, 13, none⟩ = some (.int .i64 p.cc) ∧ v.cell? ⟨w.heap.size, 14, none⟩ = some (.int .i64 p.by') ∧ v.cell? ⟨b5, off5 + j * 3, none⟩ = some (.int .i64 za)) := fun v bv => by
            have q := K7.out.keep (Fr.of_below bv) K7.out.lt (by simp)
            exact ⟨q.cell 0, q.cell 1, q.cell 2, q.cell 3, q.cell 4, q.cell 5, q.cell 6, q.cell 7, q.cell 8, q.cell 9, q.cell 10, q.cell 11, q.cell 12, q.cell 13, q.cell 14, RW7.out v bv⟩
          have d5 := (KL.out wr (Below.refl _ _)).2.2.2.2.2.1
          cases tt
          · have r0 := no.out DF.out
            subst r0
            clear no s DF g0
            go_wp2_with fail
            obtain ⟨d0, d1, d2, d3, d4, d5', d6, d7, d8, d9, d10, d11, d12, d13, d14, h0⟩ := KL.out wr (Below.refl _ _)
            go_region_held3 (fun w' => w'.cell? ⟨w.heap.size, 0, none⟩ = some (.int .i64 p.cp) ∧ w'.cell? ⟨w.heap.size, 1, none⟩ = some (.int .u64 (p.on : Int)) ∧ w'.cell? ⟨w.heap.size, 2, none⟩ = some (.int .u64 (p.ac : Int)) ∧ w'.cell? ⟨w.heap.size, 3, none⟩ = some (.int .u64 (p.pw : Int)) ∧ w'.cell? ⟨w.heap.size, 4, none⟩ = some (.slice a4 p.th.length k4) ∧ w'.cell? ⟨w.heap.size, 5, none⟩ = some (.slice (some ⟨b5, off5, none⟩) p.qu.length k5) ∧ w'.cell? ⟨w.heap.size, 6, none⟩ = some (.slice a6 p.ti.length k6) ∧ w'.cell? ⟨w.heap.size, 7, none⟩ = some (v7) ∧ w'.cell? ⟨w.heap.size, 8, none⟩ = some (v8) ∧ w'.cell? ⟨w.heap.size, 9, none⟩ = some (v9) ∧ w'.cell? ⟨w.heap.size, 10, none⟩ = some (v10) ∧ w'.cell? ⟨w.heap.size, 11, none⟩ = some (.bool p.bu) ∧ w'.cell? ⟨w.heap.size, 12, none⟩ = some (.bool p.up) ∧ w'.cell? ⟨w.heap.size, 13, none⟩ = some (.int .i64 p.cc) ∧ w'.cell? ⟨w.heap.size, 14, none⟩ = some (.int .i64 p.by') ∧ w'.cell? ⟨b5, off5 + j * 3, none⟩ = some (.int .i64 za)) (go_keep)
              (first | (go_at_call 87; refine (C.out _ ?_).mono ?_; exact ⟨rfl, rfl, rfl, rfl⟩; rintro e v7 ⟨⟨z, rfl, hz⟩, b7⟩; have B7 : Hid (Below wr.heap.size wr v7) := b7; obtain ⟨d0, d1, d2, d3, d4, d5, d6, d7, d8, d9, d10, d11, d12, d13, d14, h0⟩ := KL.out v7 b7; clear b7))
            all_goals go_wp2
            go_ret
            exact ⟨rfl, by have q := B8.out.trans (B7.out.mono B8.out.size); exact ⟨q.os, q.tape, q.output, q.size, q.block⟩⟩
          · have T : Hid ((p.qu.take (j + 1)).all (rl2b p) = true) := s.out DF.out
            clear no s DF g0
            go_wp2_with fail
            obtain ⟨d0, d1, d2, d3, d4, d5', d6, d7, d8, d9, d10, d11, d12, d13, d14, h0⟩ := KL.out wr (Below.refl _ _)
            go_region_held3 (fun w' => w'.cell? ⟨w.heap.size, 0, none⟩ = some (.int .i64 p.cp) ∧ w'.cell? ⟨w.heap.size, 1, none⟩ = some (.int .u64 (p.on : Int)) ∧ w'.cell? ⟨w.heap.size, 2, none⟩ = some (.int .u64 (p.ac : Int)) ∧ w'.cell? ⟨w.heap.size, 3, none⟩ = some (.int .u64 (p.pw : Int)) ∧ w'.cell? ⟨w.heap.size, 4, none⟩ = some (.slice a4 p.th.length k4) ∧ w'.cell? ⟨w.heap.size, 5, none⟩ = some (.slice (some ⟨b5, off5, none⟩) p.qu.length k5) ∧ w'.cell? ⟨w.heap.size, 6, none⟩ = some (.slice a6 p.ti.length k6) ∧ w'.cell? ⟨w.heap.size, 7, none⟩ = some (v7) ∧ w'.cell? ⟨w.heap.size, 8, none⟩ = some (v8) ∧ w'.cell? ⟨w.heap.size, 9, none⟩ = some (v9) ∧ w'.cell? ⟨w.heap.size, 10, none⟩ = some (v10) ∧ w'.cell? ⟨w.heap.size, 11, none⟩ = some (.bool p.bu) ∧ w'.cell? ⟨w.heap.size, 12, none⟩ = some (.bool p.up) ∧ w'.cell? ⟨w.heap.size, 13, none⟩ = some (.int .i64 p.cc) ∧ w'.cell? ⟨w.heap.size, 14, none⟩ = some (.int .i64 p.by') ∧ w'.cell? ⟨b5, off5 + j * 3, none⟩ = some (.int .i64 za)) (go_keep)
              (first | (go_at_call 87; refine (C.out _ ?_).mono ?_; exact ⟨rfl, rfl, rfl, rfl⟩; rintro e v7 ⟨⟨z, rfl, hz⟩, b7⟩; have B7 : Hid (Below wr.heap.size wr v7) := b7; obtain ⟨d0, d1, d2, d3, d4, d5, d6, d7, d8, d9, d10, d11, d12, d13, d14, h0⟩ := KL.out v7 b7; clear b7))
            all_goals go_wp2
            go_roundw
            case rel => exact ⟨j + 1, by omega, ⟨by have q := HM.out.trans (B7.out.mono HM.out.size); exact ⟨q.os, q.tape, q.output, q.size, q.block⟩, T.out⟩, by go_num⟩
            case measure => simp [intOf]; omega
        · have e2 : j = p.qu.length := by omega
          subst e2
          have r1 : R = true := by have q := hm.out.2; rw [List.take_of_length_le (Nat.le_refl _)] at q; rw [← HQ.out]; exact q
          subst r1
          have d5 := K8.cell 5
          simp only [List.getElem?_cons_zero, List.getElem?_cons_succ] at d5
          clear hm K8
          go_wp2
          go_ret
          exact ⟨rfl, B8.out⟩
end Go.Proofs.YtfdmcbcomknebaaGreatDoor.Aud
