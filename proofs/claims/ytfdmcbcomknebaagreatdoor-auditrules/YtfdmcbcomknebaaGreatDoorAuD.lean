/- What davitlaw35's few answers; the law AuditRules, but for its fixed calls (davitref35). -/
import Derived.Test.YtfdmcbcomknebaaGreatDoorRows
import Derived.Test.YtfdmcbcomknebaaGreatDoorAuC
import Derived.WalkKit
import Derived.ProofKit
import Derived.OpenShut
import Derived.BigQuiet
import Derived.BigGuard
import Derived.Carry
import Derived.Deep.RegionHeld3
namespace Go.Proofs.YtfdmcbcomknebaaGreatDoor.Aud
open Go.ChangeShapes Go.WideShapes Go.ChangeAt Go.RowKit
open Mm
set_option linter.unusedVariables false

def fewB (p : Pic) : Bool := (decide ((p.th.length : Int) ≤ 40) && (decide ((p.qu.length : Int) ≤ 40) && (decide ((p.ti.length : Int) ≤ 60) && (decide ((p.ir.length : Int) ≤ 20) && (decide ((p.wo.length : Int) ≤ 40) && (decide ((p.ca.length : Int) ≤ 40) && decide ((p.ke.length : Int) ≤ 100)))))))
theorem few_of {p : Pic} (h : fewB p = true) : Few p := by
  unfold fewB at h
  simp only [Bool.and_eq_true, decide_eq_true_eq] at h
  obtain ⟨h0, h1, h2, h3, h4, h5, h6⟩ := h
  exact ⟨by omega, by omega, by omega, by omega, by omega, by omega, by omega⟩
set_option maxRecDepth 100000 in
set_option maxHeartbeats 2000000 in
theorem few_any (p : Pic) (v4 v5 v6 v7 v8 v9 v10 : Value) (w : World) (h : PV w p v4 v5 v6 v7 v8 v9 v10) :
    Calls Tryz.prog 4 #[.agg #[.int .i64 p.cp, .int .u64 (p.on : Int), .int .u64 (p.ac : Int), .int .u64 (p.pw : Int), v4, v5, v6, v7, v8, v9, v10, .bool p.bu, .bool p.up, .int .i64 p.cc, .int .i64 p.by']] w fun e w' => e = .returned (.bool (fewB p)) ∧ Below w.heap.size w w' := by
  obtain ⟨a4, k4, rfl⟩ := h.th.shape
  obtain ⟨a5, k5, rfl⟩ := h.qu.shape
  obtain ⟨a6, k6, rfl⟩ := h.ti.shape
  obtain ⟨a7, k7, rfl⟩ := h.ir.shape
  obtain ⟨a8, k8, rfl⟩ := h.wo.shape
  obtain ⟨a9, k9, rfl⟩ := h.ca.shape
  obtain ⟨a10, k10, rfl⟩ := h.ke.shape
  have HB0 : Hid (Below w.heap.size w (w.alloc (.cells #[.int .i64 p.cp, .int .u64 (p.on : Int), .int .u64 (p.ac : Int), .int .u64 (p.pw : Int), (.slice a4 p.th.length k4), (.slice a5 p.qu.length k5), (.slice a6 p.ti.length k6), (.slice a7 p.ir.length k7), (.slice a8 p.wo.length k8), (.slice a9 p.ca.length k9), (.slice a10 p.ke.length k10), .bool p.bu, .bool p.up, .int .i64 p.cc, .int .i64 p.by'] 26))) := (Below.refl _ _).alloc (Nat.le_refl _) _
  unfold fewB
  clear h
  by_cases h0 : (p.th.length : Int) ≤ 40
  · have e0 : decide ((p.th.length : Int) ≤ 40) = true := decide_eq_true h0
    rw [e0]
    by_cases h1 : (p.qu.length : Int) ≤ 40
    · have e1 : decide ((p.qu.length : Int) ≤ 40) = true := decide_eq_true h1
      rw [e1]
      by_cases h2 : (p.ti.length : Int) ≤ 60
      · have e2 : decide ((p.ti.length : Int) ≤ 60) = true := decide_eq_true h2
        rw [e2]
        by_cases h3 : (p.ir.length : Int) ≤ 20
        · have e3 : decide ((p.ir.length : Int) ≤ 20) = true := decide_eq_true h3
          rw [e3]
          by_cases h4 : (p.wo.length : Int) ≤ 40
          · have e4 : decide ((p.wo.length : Int) ≤ 40) = true := decide_eq_true h4
            rw [e4]
            by_cases h5 : (p.ca.length : Int) ≤ 40
            · have e5 : decide ((p.ca.length : Int) ≤ 40) = true := decide_eq_true h5
              rw [e5]
              by_cases h6 : (p.ke.length : Int) ≤ 100
              · have e6 : decide ((p.ke.length : Int) ≤ 100) = true := decide_eq_true h6
                rw [e6]
                go_enter Tryz.func4, Tryz.ntmps4
                go_wp2
                go_ret
                exact ⟨rfl, HB0.out⟩
              · have e6 : decide ((p.ke.length : Int) ≤ 100) = false := decide_eq_false h6
                rw [e6]
                go_enter Tryz.func4, Tryz.ntmps4
                go_wp2
                go_ret
                exact ⟨rfl, HB0.out⟩
            · have e5 : decide ((p.ca.length : Int) ≤ 40) = false := decide_eq_false h5
              rw [e5]
              go_enter Tryz.func4, Tryz.ntmps4
              go_wp2
              go_ret
              exact ⟨rfl, HB0.out⟩
          · have e4 : decide ((p.wo.length : Int) ≤ 40) = false := decide_eq_false h4
            rw [e4]
            go_enter Tryz.func4, Tryz.ntmps4
            go_wp2
            go_ret
            exact ⟨rfl, HB0.out⟩
        · have e3 : decide ((p.ir.length : Int) ≤ 20) = false := decide_eq_false h3
          rw [e3]
          go_enter Tryz.func4, Tryz.ntmps4
          go_wp2
          go_ret
          exact ⟨rfl, HB0.out⟩
      · have e2 : decide ((p.ti.length : Int) ≤ 60) = false := decide_eq_false h2
        rw [e2]
        go_enter Tryz.func4, Tryz.ntmps4
        go_wp2
        go_ret
        exact ⟨rfl, HB0.out⟩
    · have e1 : decide ((p.qu.length : Int) ≤ 40) = false := decide_eq_false h1
      rw [e1]
      go_enter Tryz.func4, Tryz.ntmps4
      go_wp2
      go_ret
      exact ⟨rfl, HB0.out⟩
  · have e0 : decide ((p.th.length : Int) ≤ 40) = false := decide_eq_false h0
    rw [e0]
    go_enter Tryz.func4, Tryz.ntmps4
    go_wp2
    go_ret
    exact ⟨rfl, HB0.out⟩
set_option maxRecDepth 100000 in
set_option maxHeartbeats 16000000 in
theorem rules_walk (p : Pic) (v4 v5 v6 v7 v8 v9 v10 : Value) (n : Int) (w : World) (h : PV w p v4 v5 v6 v7 v8 v9 v10) (KN : ∀ u, Below w.heap.size w u → Calls Tryz.prog 5 #[] u fun e w' => e = .returned (.bool true) ∧ Below u.heap.size u w') :
    Calls Tryz.prog 3 #[.agg #[.int .i64 p.cp, .int .u64 (p.on : Int), .int .u64 (p.ac : Int), .int .u64 (p.pw : Int), v4, v5, v6, v7, v8, v9, v10, .bool p.bu, .bool p.up, .int .i64 p.cc, .int .i64 p.by'], .int .i64 n] w fun e w' => e = .returned (.bool true) ∧ Below w.heap.size w w' := by
  have KN' : Hid (∀ u, Below w.heap.size w u → Calls Tryz.prog 5 #[] u fun e w' => e = .returned (.bool true) ∧ Below u.heap.size u w') := KN
  have b0 : Below w.heap.size w (w.alloc (.cells #[.int .i64 p.cp, .int .u64 (p.on : Int), .int .u64 (p.ac : Int), .int .u64 (p.pw : Int), v4, v5, v6, v7, v8, v9, v10, .bool p.bu, .bool p.up, .int .i64 p.cc, .int .i64 p.by'] 26)) := (Below.refl _ _).alloc (Nat.le_refl _) _
  have HB0 : Hid (Below w.heap.size w (w.alloc (.cells #[.int .i64 p.cp, .int .u64 (p.on : Int), .int .u64 (p.ac : Int), .int .u64 (p.pw : Int), v4, v5, v6, v7, v8, v9, v10, .bool p.bu, .bool p.up, .int .i64 p.cc, .int .i64 p.by'] 26))) := b0
  have HH : Hid (PV w p v4 v5 v6 v7 v8 v9 v10) := h
  have HK0 : Hid (Blk (w.alloc (.cells #[.int .i64 p.cp, .int .u64 (p.on : Int), .int .u64 (p.ac : Int), .int .u64 (p.pw : Int), v4, v5, v6, v7, v8, v9, v10, .bool p.bu, .bool p.up, .int .i64 p.cc, .int .i64 p.by'] 26)) w.heap.size [.int .i64 p.cp, .int .u64 (p.on : Int), .int .u64 (p.ac : Int), .int .u64 (p.pw : Int), v4, v5, v6, v7, v8, v9, v10, .bool p.bu, .bool p.up, .int .i64 p.cc, .int .i64 p.by'] 26) := Blk.new w _ _
  have CF : Hid (∀ _ : Unit, _) := fun _ => few_any p v4 v5 v6 v7 v8 v9 v10 (w.alloc (.cells #[.int .i64 p.cp, .int .u64 (p.on : Int), .int .u64 (p.ac : Int), .int .u64 (p.pw : Int), v4, v5, v6, v7, v8, v9, v10, .bool p.bu, .bool p.up, .int .i64 p.cc, .int .i64 p.by'] 26)) (h.below b0)
  clear h KN b0
  go_enter Tryz.func3, Tryz.ntmps3
  go_wp2_with fail
  refine (CF.out ()).mono ?_
  rintro e w1 ⟨rfl, y1⟩
  have hb : fewB p = true → Few p := few_of
  generalize fewB p = b at *
  have B1 : Hid (Below w.heap.size w w1) := HB0.out.trans (y1.mono HB0.out.size)
  have K1' : Hid (Blk w1 w.heap.size _ 26) := HK0.out.keep (Fr.of_below y1) HK0.out.lt (by simp)
  clear y1 CF
  cases b
  · have CK := KN'.out w1 B1.out
    have HC : Hid (Calls Tryz.prog _ _ _ _) := CK
    clear CK hb
    go_wp2_with fail
    refine HC.out.mono ?_
    rintro e w2 ⟨rfl, y2⟩
    have B2 : Hid (Below w.heap.size w w2) := B1.out.trans (y2.mono B1.out.size)
    clear y2
    go_wp2
    go_ret
    exact ⟨rfl, B2.out⟩
  · have hf := hb rfl
    have HF : Hid (Few p) := hf
    have CG : Hid (∀ _ : Unit, _) := fun _ => given_any p v4 v5 v6 v7 v8 v9 v10 w1 (HH.out.below B1.out) hf
    have c0 := K1'.out.cell 0
    have c1 := K1'.out.cell 1
    have c2 := K1'.out.cell 2
    have c3 := K1'.out.cell 3
    have c4 := K1'.out.cell 4
    have c5 := K1'.out.cell 5
    have c6 := K1'.out.cell 6
    have c7 := K1'.out.cell 7
    have c8 := K1'.out.cell 8
    have c9 := K1'.out.cell 9
    have c10 := K1'.out.cell 10
    have c11 := K1'.out.cell 11
    have c12 := K1'.out.cell 12
    have c13 := K1'.out.cell 13
    have c14 := K1'.out.cell 14
    simp only [List.getElem?_cons_zero, List.getElem?_cons_succ] at c0 c1 c2 c3 c4 c5 c6 c7 c8 c9 c10 c11 c12 c13 c14
    clear hf hb
    go_wp2_with fail
    refine (CG.out ()).mono ?_
    rintro e w2 ⟨⟨u4, u5, u6, u7, u8, u9, u10, rfl, hq⟩, y2⟩
    obtain ⟨x4, z4, rfl⟩ := hq.th.shape
    obtain ⟨x5, z5, rfl⟩ := hq.qu.shape
    obtain ⟨x6, z6, rfl⟩ := hq.ti.shape
    obtain ⟨x7, z7, rfl⟩ := hq.ir.shape
    obtain ⟨x8, z8, rfl⟩ := hq.wo.shape
    obtain ⟨x9, z9, rfl⟩ := hq.ca.shape
    obtain ⟨x10, z10, rfl⟩ := hq.ke.shape
    have B2 : Below w.heap.size w w2 := B1.out.trans (y2.mono B1.out.size)
    have a2 : Below w2.heap.size w2 (w2.alloc (.cells #[.int .i64 p.cp, .int .u64 (p.on : Int), .int .u64 (p.ac : Int), .int .u64 (p.pw : Int), (.slice x4 p.th.length z4), (.slice x5 p.qu.length z5), (.slice x6 p.ti.length z6), (.slice x7 p.ir.length z7), (.slice x8 p.wo.length z8), (.slice x9 p.ca.length z9), (.slice x10 p.ke.length z10), .bool p.bu, .bool p.up, .int .i64 p.cc, .int .i64 p.by'] 33)) := (Below.refl _ _).alloc (Nat.le_refl _) _
    have kp := (K1'.out.keep (Fr.of_below y2) K1'.out.lt (by simp)).alloc (.cells #[.int .i64 p.cp, .int .u64 (p.on : Int), .int .u64 (p.ac : Int), .int .u64 (p.pw : Int), (.slice x4 p.th.length z4), (.slice x5 p.qu.length z5), (.slice x6 p.ti.length z6), (.slice x7 p.ir.length z7), (.slice x8 p.wo.length z8), (.slice x9 p.ca.length z9), (.slice x10 p.ke.length z10), .bool p.bu, .bool p.up, .int .i64 p.cc, .int .i64 p.by'] 33)
    have kq : Blk (w2.alloc (.cells #[.int .i64 p.cp, .int .u64 (p.on : Int), .int .u64 (p.ac : Int), .int .u64 (p.pw : Int), (.slice x4 p.th.length z4), (.slice x5 p.qu.length z5), (.slice x6 p.ti.length z6), (.slice x7 p.ir.length z7), (.slice x8 p.wo.length z8), (.slice x9 p.ca.length z9), (.slice x10 p.ke.length z10), .bool p.bu, .bool p.up, .int .i64 p.cc, .int .i64 p.by'] 33)) w2.heap.size [.int .i64 p.cp, .int .u64 (p.on : Int), .int .u64 (p.ac : Int), .int .u64 (p.pw : Int), (.slice x4 p.th.length z4), (.slice x5 p.qu.length z5), (.slice x6 p.ti.length z6), (.slice x7 p.ir.length z7), (.slice x8 p.wo.length z8), (.slice x9 p.ca.length z9), (.slice x10 p.ke.length z10), .bool p.bu, .bool p.up, .int .i64 p.cc, .int .i64 p.by'] 33 := Blk.new w2 _ _
    have hq2 := hq.below a2
    obtain ⟨w3, hw3⟩ : ∃ x, (w2.alloc (.cells #[.int .i64 p.cp, .int .u64 (p.on : Int), .int .u64 (p.ac : Int), .int .u64 (p.pw : Int), (.slice x4 p.th.length z4), (.slice x5 p.qu.length z5), (.slice x6 p.ti.length z6), (.slice x7 p.ir.length z7), (.slice x8 p.wo.length z8), (.slice x9 p.ca.length z9), (.slice x10 p.ke.length z10), .bool p.bu, .bool p.up, .int .i64 p.cc, .int .i64 p.by'] 33)) = x := ⟨_, rfl⟩
    have HW3 : Hid ((w2.alloc (.cells #[.int .i64 p.cp, .int .u64 (p.on : Int), .int .u64 (p.ac : Int), .int .u64 (p.pw : Int), (.slice x4 p.th.length z4), (.slice x5 p.qu.length z5), (.slice x6 p.ti.length z6), (.slice x7 p.ir.length z7), (.slice x8 p.wo.length z8), (.slice x9 p.ca.length z9), (.slice x10 p.ke.length z10), .bool p.bu, .bool p.up, .int .i64 p.cc, .int .i64 p.by'] 33)) = w3) := hw3
    have B3 : Hid (Below w.heap.size w w3) := by have q := B2.trans (a2.mono B2.size); rw [hw3] at q; exact q
    rw [hw3] at kp kq hq2
    have HQ : Hid (PV w3 p (.slice x4 p.th.length z4) (.slice x5 p.qu.length z5) (.slice x6 p.ti.length z6) (.slice x7 p.ir.length z7) (.slice x8 p.wo.length z8) (.slice x9 p.ca.length z9) (.slice x10 p.ke.length z10)) := hq2
    have KS : Hid (∀ u, Below w3.heap.size w3 u → u.cell? ⟨w.heap.size, 0, none⟩ = some (.int .i64 p.cp) ∧ u.cell? ⟨w.heap.size, 1, none⟩ = some (.int .u64 (p.on : Int)) ∧ u.cell? ⟨w.heap.size, 2, none⟩ = some (.int .u64 (p.ac : Int)) ∧ u.cell? ⟨w.heap.size, 3, none⟩ = some (.int .u64 (p.pw : Int)) ∧ u.cell? ⟨w.heap.size, 4, none⟩ = some (v4) ∧ u.cell? ⟨w.heap.size, 5, none⟩ = some (v5) ∧ u.cell? ⟨w.heap.size, 6, none⟩ = some (v6) ∧ u.cell? ⟨w.heap.size, 7, none⟩ = some (v7) ∧ u.cell? ⟨w.heap.size, 8, none⟩ = some (v8) ∧ u.cell? ⟨w.heap.size, 9, none⟩ = some (v9) ∧ u.cell? ⟨w.heap.size, 10, none⟩ = some (v10) ∧ u.cell? ⟨w.heap.size, 11, none⟩ = some (.bool p.bu) ∧ u.cell? ⟨w.heap.size, 12, none⟩ = some (.bool p.up) ∧ u.cell? ⟨w.heap.size, 13, none⟩ = some (.int .i64 p.cc) ∧ u.cell? ⟨w.heap.size, 14, none⟩ = some (.int .i64 p.by') ∧ u.cell? ⟨w2.heap.size, 0, none⟩ = some (.int .i64 p.cp) ∧ u.cell? ⟨w2.heap.size, 1, none⟩ = some (.int .u64 (p.on : Int)) ∧ u.cell? ⟨w2.heap.size, 2, none⟩ = some (.int .u64 (p.ac : Int)) ∧ u.cell? ⟨w2.heap.size, 3, none⟩ = some (.int .u64 (p.pw : Int)) ∧ u.cell? ⟨w2.heap.size, 4, none⟩ = some ((.slice x4 p.th.length z4)) ∧ u.cell? ⟨w2.heap.size, 5, none⟩ = some ((.slice x5 p.qu.length z5)) ∧ u.cell? ⟨w2.heap.size, 6, none⟩ = some ((.slice x6 p.ti.length z6)) ∧ u.cell? ⟨w2.heap.size, 7, none⟩ = some ((.slice x7 p.ir.length z7)) ∧ u.cell? ⟨w2.heap.size, 8, none⟩ = some ((.slice x8 p.wo.length z8)) ∧ u.cell? ⟨w2.heap.size, 9, none⟩ = some ((.slice x9 p.ca.length z9)) ∧ u.cell? ⟨w2.heap.size, 10, none⟩ = some ((.slice x10 p.ke.length z10)) ∧ u.cell? ⟨w2.heap.size, 11, none⟩ = some (.bool p.bu) ∧ u.cell? ⟨w2.heap.size, 12, none⟩ = some (.bool p.up) ∧ u.cell? ⟨w2.heap.size, 13, none⟩ = some (.int .i64 p.cc) ∧ u.cell? ⟨w2.heap.size, 14, none⟩ = some (.int .i64 p.by')) := fun u bu => by
      have q1 := kp.keep (Fr.of_below bu) kp.lt (by simp)
      have q2 := kq.keep (Fr.of_below bu) kq.lt (by simp)
      exact ⟨q1.cell 0, q1.cell 1, q1.cell 2, q1.cell 3, q1.cell 4, q1.cell 5, q1.cell 6, q1.cell 7, q1.cell 8, q1.cell 9, q1.cell 10, q1.cell 11, q1.cell 12, q1.cell 13, q1.cell 14, q2.cell 0, q2.cell 1, q2.cell 2, q2.cell 3, q2.cell 4, q2.cell 5, q2.cell 6, q2.cell 7, q2.cell 8, q2.cell 9, q2.cell 10, q2.cell 11, q2.cell 12, q2.cell 13, q2.cell 14⟩
    have R1 : Hid (∀ (m : Int) u, Below w3.heap.size w3 u → Calls Tryz.prog 7 #[.agg #[.int .i64 p.cp, .int .u64 (p.on : Int), .int .u64 (p.ac : Int), .int .u64 (p.pw : Int), (.slice x4 p.th.length z4), (.slice x5 p.qu.length z5), (.slice x6 p.ti.length z6), (.slice x7 p.ir.length z7), (.slice x8 p.wo.length z8), (.slice x9 p.ca.length z9), (.slice x10 p.ke.length z10), .bool p.bu, .bool p.up, .int .i64 p.cc, .int .i64 p.by'], .int .i64 m] u fun e w' => e = .returned (.bool (rule p m)) ∧ Below w3.heap.size w3 w') := fun m u bu => (rule_any p (.slice x4 p.th.length z4) (.slice x5 p.qu.length z5) (.slice x6 p.ti.length z6) (.slice x7 p.ir.length z7) (.slice x8 p.wo.length z8) (.slice x9 p.ca.length z9) (.slice x10 p.ke.length z10) m u (HQ.out.below bu) HF.out).mono fun _ v ⟨q1, q2⟩ => ⟨q1, bu.trans (q2.mono bu.size)⟩
    have R2 : Hid (∀ (m : Int) u, Below w3.heap.size w3 u → Calls Tryz.prog 8 #[.agg #[.int .i64 p.cp, .int .u64 (p.on : Int), .int .u64 (p.ac : Int), .int .u64 (p.pw : Int), v4, v5, v6, v7, v8, v9, v10, .bool p.bu, .bool p.up, .int .i64 p.cc, .int .i64 p.by'], .int .i64 m] u fun e w' => e = .returned (.bool (rule p m)) ∧ Below w3.heap.size w3 w') := fun m u bu => (rrule_any p v4 v5 v6 v7 v8 v9 v10 m u (HH.out.below (B3.out.trans (bu.mono B3.out.size))) HF.out).mono fun _ v ⟨q1, q2⟩ => ⟨q1, bu.trans (q2.mono bu.size)⟩
    have R3 : Hid (∀ u, Below w3.heap.size w3 u → Calls Tryz.prog 9 #[.agg #[.int .i64 p.cp, .int .u64 (p.on : Int), .int .u64 (p.ac : Int), .int .u64 (p.pw : Int), (.slice x4 p.th.length z4), (.slice x5 p.qu.length z5), (.slice x6 p.ti.length z6), (.slice x7 p.ir.length z7), (.slice x8 p.wo.length z8), (.slice x9 p.ca.length z9), (.slice x10 p.ke.length z10), .bool p.bu, .bool p.up, .int .i64 p.cc, .int .i64 p.by']] u fun e w' => e = .returned (.tuple #[.int .i64 (ck p), .int .i64 (ce p)]) ∧ Below w3.heap.size w3 w') := fun u bu => (check_any p (.slice x4 p.th.length z4) (.slice x5 p.qu.length z5) (.slice x6 p.ti.length z6) (.slice x7 p.ir.length z7) (.slice x8 p.wo.length z8) (.slice x9 p.ca.length z9) (.slice x10 p.ke.length z10) u (HQ.out.below bu) HF.out).mono fun _ v ⟨q1, q2⟩ => ⟨q1, bu.trans (q2.mono bu.size)⟩
    have R4 : Hid (∀ u, Below w3.heap.size w3 u → Calls Tryz.prog 10 #[.agg #[.int .i64 p.cp, .int .u64 (p.on : Int), .int .u64 (p.ac : Int), .int .u64 (p.pw : Int), v4, v5, v6, v7, v8, v9, v10, .bool p.bu, .bool p.up, .int .i64 p.cc, .int .i64 p.by']] u fun e w' => e = .returned (.tuple #[.int .i64 (ck p), .int .i64 (ce p)]) ∧ Below w3.heap.size w3 w') := fun u bu => (rcheck_any p v4 v5 v6 v7 v8 v9 v10 u (HH.out.below (B3.out.trans (bu.mono B3.out.size))) HF.out).mono fun _ v ⟨q1, q2⟩ => ⟨q1, bu.trans (q2.mono bu.size)⟩
    have R5 : Hid (∀ u, Below w3.heap.size w3 u → Calls Tryz.prog 5 #[] u fun e w' => e = .returned (.bool true) ∧ Below w3.heap.size w3 w') := fun u bu => (KN'.out u (B3.out.trans (bu.mono B3.out.size))).mono fun _ v ⟨q1, q2⟩ => ⟨q1, bu.trans (q2.mono bu.size)⟩
    clear kp kq hq hq2 a2 B2 y2 hw3 HH HQ KN' CG c0 c1 c2 c3 c4 c5 c6 c7 c8 c9 c10 c11 c12 c13 c14
    generalize ck p = xn at *
    generalize ce p = xe at *
    go_wp2_with fail
    rw [HW3.out]
    go_loopw [6] (fun i wr => ∃ (k : Nat), (k : Int) ≤ 9 ∧ Hid (Below w3.heap.size w3 wr) ∧ i = .int .i64 (k : Int)) (fun i _ => 10 - (intOf i).toNat)
    case atStart => exact ⟨0, by omega, Below.refl _ _, rfl⟩
    case round =>
      obtain ⟨k, hk, hm, rfl⟩ := hrel
      obtain ⟨c0, c1, c2, c3, c4, c5, c6, c7, c8, c9, c10, c11, c12, c13, c14, d0, d1, d2, d3, d4, d5, d6, d7, d8, d9, d10, d11, d12, d13, d14⟩ := KS.out wr hm.out
      by_cases e : (k : Int) ≤ 8
      · as_aux_lemma =>
        have Q1 : Hid (∀ u, Below w3.heap.size w3 u → _) := fun u => R1.out (k : Int) u
        have Q2 : Hid (∀ u, Below w3.heap.size w3 u → _) := fun u => R2.out (k : Int) u
        generalize rule p (k : Int) = r at Q1 Q2
        have bb : (r != r) = false := by simp
        clear R1 R2 R3 R4 R5
        go_wp2_with fail
        go_region_held3 (fun w' => w'.cell? ⟨w.heap.size, 0, none⟩ = some (.int .i64 p.cp) ∧ w'.cell? ⟨w.heap.size, 1, none⟩ = some (.int .u64 (p.on : Int)) ∧ w'.cell? ⟨w.heap.size, 2, none⟩ = some (.int .u64 (p.ac : Int)) ∧ w'.cell? ⟨w.heap.size, 3, none⟩ = some (.int .u64 (p.pw : Int)) ∧ w'.cell? ⟨w.heap.size, 4, none⟩ = some (v4) ∧ w'.cell? ⟨w.heap.size, 5, none⟩ = some (v5) ∧ w'.cell? ⟨w.heap.size, 6, none⟩ = some (v6) ∧ w'.cell? ⟨w.heap.size, 7, none⟩ = some (v7) ∧ w'.cell? ⟨w.heap.size, 8, none⟩ = some (v8) ∧ w'.cell? ⟨w.heap.size, 9, none⟩ = some (v9) ∧ w'.cell? ⟨w.heap.size, 10, none⟩ = some (v10) ∧ w'.cell? ⟨w.heap.size, 11, none⟩ = some (.bool p.bu) ∧ w'.cell? ⟨w.heap.size, 12, none⟩ = some (.bool p.up) ∧ w'.cell? ⟨w.heap.size, 13, none⟩ = some (.int .i64 p.cc) ∧ w'.cell? ⟨w.heap.size, 14, none⟩ = some (.int .i64 p.by') ∧ w'.cell? ⟨w2.heap.size, 0, none⟩ = some (.int .i64 p.cp) ∧ w'.cell? ⟨w2.heap.size, 1, none⟩ = some (.int .u64 (p.on : Int)) ∧ w'.cell? ⟨w2.heap.size, 2, none⟩ = some (.int .u64 (p.ac : Int)) ∧ w'.cell? ⟨w2.heap.size, 3, none⟩ = some (.int .u64 (p.pw : Int)) ∧ w'.cell? ⟨w2.heap.size, 4, none⟩ = some ((.slice x4 p.th.length z4)) ∧ w'.cell? ⟨w2.heap.size, 5, none⟩ = some ((.slice x5 p.qu.length z5)) ∧ w'.cell? ⟨w2.heap.size, 6, none⟩ = some ((.slice x6 p.ti.length z6)) ∧ w'.cell? ⟨w2.heap.size, 7, none⟩ = some ((.slice x7 p.ir.length z7)) ∧ w'.cell? ⟨w2.heap.size, 8, none⟩ = some ((.slice x8 p.wo.length z8)) ∧ w'.cell? ⟨w2.heap.size, 9, none⟩ = some ((.slice x9 p.ca.length z9)) ∧ w'.cell? ⟨w2.heap.size, 10, none⟩ = some ((.slice x10 p.ke.length z10)) ∧ w'.cell? ⟨w2.heap.size, 11, none⟩ = some (.bool p.bu) ∧ w'.cell? ⟨w2.heap.size, 12, none⟩ = some (.bool p.up) ∧ w'.cell? ⟨w2.heap.size, 13, none⟩ = some (.int .i64 p.cc) ∧ w'.cell? ⟨w2.heap.size, 14, none⟩ = some (.int .i64 p.by')) (go_keep)
          (first | (go_at_call 7; refine (Q1.out _ ?_).mono ?_; exact Sm.below (w1 := wr) ⟨rfl, rfl, rfl, rfl⟩ hm.out; rintro e s5 ⟨rfl, y5⟩; have Y5 : Hid (Below w3.heap.size w3 s5) := y5; obtain ⟨c0, c1, c2, c3, c4, c5, c6, c7, c8, c9, c10, c11, c12, c13, c14, d0, d1, d2, d3, d4, d5, d6, d7, d8, d9, d10, d11, d12, d13, d14⟩ := KS.out s5 y5; clear y5) | (go_at_call 8; refine (Q2.out _ ?_).mono ?_; exact Sm.below (w1 := s5) ⟨rfl, rfl, rfl, rfl⟩ Y5.out; rintro e s6 ⟨rfl, y6⟩; have Y6 : Hid (Below w3.heap.size w3 s6) := y6; obtain ⟨c0, c1, c2, c3, c4, c5, c6, c7, c8, c9, c10, c11, c12, c13, c14, d0, d1, d2, d3, d4, d5, d6, d7, d8, d9, d10, d11, d12, d13, d14⟩ := KS.out s6 y6; clear y6))
        all_goals go_wp2
        go_roundw
        case rel => exact ⟨k + 1, by omega, (by have q := Y6.out; exact ⟨q.os, q.tape, q.output, q.size, q.block⟩), by go_num⟩
        case measure => simp [intOf]; omega
      · as_aux_lemma =>
        have e2 : k = 9 := by omega
        subst e2
        have Q1 : Hid (∀ u, Below w3.heap.size w3 u → _) := fun u => R1.out n u
        have Q2 : Hid (∀ u, Below w3.heap.size w3 u → _) := fun u => R2.out n u
        generalize rule p n = r at Q1 Q2
        have bb : (r == r) = true := by simp
        have bn : (xn == xn) = true := by simp
        have be : (xe == xe) = true := by simp
        have Y4 : Hid (Below w3.heap.size w3 wr) := hm.out
        clear R1 R2 hm
        go_wp2_with fail
        refine (R3.out _ Y4.out).mono ?_
        rintro e s5 ⟨rfl, y5⟩
        have Y5 : Hid (Below w3.heap.size w3 s5) := y5
        clear c0 c1 c2 c3 c4 c5 c6 c7 c8 c9 c10 c11 c12 c13 c14 d0 d1 d2 d3 d4 d5 d6 d7 d8 d9 d10 d11 d12 d13 d14
        obtain ⟨c0, c1, c2, c3, c4, c5, c6, c7, c8, c9, c10, c11, c12, c13, c14, d0, d1, d2, d3, d4, d5, d6, d7, d8, d9, d10, d11, d12, d13, d14⟩ := KS.out s5 y5
        clear y5 R3
        go_wp2_with fail
        refine (R4.out _ Y5.out).mono ?_
        rintro e s6 ⟨rfl, y6⟩
        have Y6 : Hid (Below w3.heap.size w3 s6) := y6
        clear c0 c1 c2 c3 c4 c5 c6 c7 c8 c9 c10 c11 c12 c13 c14 d0 d1 d2 d3 d4 d5 d6 d7 d8 d9 d10 d11 d12 d13 d14
        obtain ⟨c0, c1, c2, c3, c4, c5, c6, c7, c8, c9, c10, c11, c12, c13, c14, d0, d1, d2, d3, d4, d5, d6, d7, d8, d9, d10, d11, d12, d13, d14⟩ := KS.out s6 y6
        clear y6 R4
        as_aux_lemma =>
          go_wp2_with fail
          go_region_held3 (fun w' => w'.cell? ⟨w.heap.size, 0, none⟩ = some (.int .i64 p.cp) ∧ w'.cell? ⟨w.heap.size, 1, none⟩ = some (.int .u64 (p.on : Int)) ∧ w'.cell? ⟨w.heap.size, 2, none⟩ = some (.int .u64 (p.ac : Int)) ∧ w'.cell? ⟨w.heap.size, 3, none⟩ = some (.int .u64 (p.pw : Int)) ∧ w'.cell? ⟨w.heap.size, 4, none⟩ = some (v4) ∧ w'.cell? ⟨w.heap.size, 5, none⟩ = some (v5) ∧ w'.cell? ⟨w.heap.size, 6, none⟩ = some (v6) ∧ w'.cell? ⟨w.heap.size, 7, none⟩ = some (v7) ∧ w'.cell? ⟨w.heap.size, 8, none⟩ = some (v8) ∧ w'.cell? ⟨w.heap.size, 9, none⟩ = some (v9) ∧ w'.cell? ⟨w.heap.size, 10, none⟩ = some (v10) ∧ w'.cell? ⟨w.heap.size, 11, none⟩ = some (.bool p.bu) ∧ w'.cell? ⟨w.heap.size, 12, none⟩ = some (.bool p.up) ∧ w'.cell? ⟨w.heap.size, 13, none⟩ = some (.int .i64 p.cc) ∧ w'.cell? ⟨w.heap.size, 14, none⟩ = some (.int .i64 p.by') ∧ w'.cell? ⟨w2.heap.size, 0, none⟩ = some (.int .i64 p.cp) ∧ w'.cell? ⟨w2.heap.size, 1, none⟩ = some (.int .u64 (p.on : Int)) ∧ w'.cell? ⟨w2.heap.size, 2, none⟩ = some (.int .u64 (p.ac : Int)) ∧ w'.cell? ⟨w2.heap.size, 3, none⟩ = some (.int .u64 (p.pw : Int)) ∧ w'.cell? ⟨w2.heap.size, 4, none⟩ = some ((.slice x4 p.th.length z4)) ∧ w'.cell? ⟨w2.heap.size, 5, none⟩ = some ((.slice x5 p.qu.length z5)) ∧ w'.cell? ⟨w2.heap.size, 6, none⟩ = some ((.slice x6 p.ti.length z6)) ∧ w'.cell? ⟨w2.heap.size, 7, none⟩ = some ((.slice x7 p.ir.length z7)) ∧ w'.cell? ⟨w2.heap.size, 8, none⟩ = some ((.slice x8 p.wo.length z8)) ∧ w'.cell? ⟨w2.heap.size, 9, none⟩ = some ((.slice x9 p.ca.length z9)) ∧ w'.cell? ⟨w2.heap.size, 10, none⟩ = some ((.slice x10 p.ke.length z10)) ∧ w'.cell? ⟨w2.heap.size, 11, none⟩ = some (.bool p.bu) ∧ w'.cell? ⟨w2.heap.size, 12, none⟩ = some (.bool p.up) ∧ w'.cell? ⟨w2.heap.size, 13, none⟩ = some (.int .i64 p.cc) ∧ w'.cell? ⟨w2.heap.size, 14, none⟩ = some (.int .i64 p.by')) (go_keep)
            (first | (go_at_call 7; refine (Q1.out _ ?_).mono ?_; exact Sm.below (w1 := s6) ⟨rfl, rfl, rfl, rfl⟩ Y6.out; rintro e s7 ⟨rfl, y7⟩; have Y7 : Hid (Below w3.heap.size w3 s7) := y7; obtain ⟨c0, c1, c2, c3, c4, c5, c6, c7, c8, c9, c10, c11, c12, c13, c14, d0, d1, d2, d3, d4, d5, d6, d7, d8, d9, d10, d11, d12, d13, d14⟩ := KS.out s7 y7; clear y7) | (go_at_call 8; refine (Q2.out _ ?_).mono ?_; exact Sm.below (w1 := s7) ⟨rfl, rfl, rfl, rfl⟩ Y7.out; rintro e s8 ⟨rfl, y8⟩; have Y8 : Hid (Below w3.heap.size w3 s8) := y8; obtain ⟨c0, c1, c2, c3, c4, c5, c6, c7, c8, c9, c10, c11, c12, c13, c14, d0, d1, d2, d3, d4, d5, d6, d7, d8, d9, d10, d11, d12, d13, d14⟩ := KS.out s8 y8; clear y8) | (go_at_call 5; refine (R5.out _ ?_).mono ?_; exact Sm.below (w1 := s8) ⟨rfl, rfl, rfl, rfl⟩ Y8.out; rintro e s9 ⟨rfl, y9⟩; have Y9 : Hid (Below w3.heap.size w3 s9) := y9; obtain ⟨c0, c1, c2, c3, c4, c5, c6, c7, c8, c9, c10, c11, c12, c13, c14, d0, d1, d2, d3, d4, d5, d6, d7, d8, d9, d10, d11, d12, d13, d14⟩ := KS.out s9 y9; clear y9))
          all_goals go_wp2
          go_ret
          exact ⟨rfl, by have q := B3.out.trans (Y9.out.mono B3.out.size); exact ⟨q.os, q.tape, q.output, q.size, q.block⟩⟩
end Go.Proofs.YtfdmcbcomknebaaGreatDoor.Aud
