/- What the document's first, Rule and Check answer (davitref35). -/
import Derived.Test.YtfdmcbcomknebaaGreatDoorRows
import Derived.Test.YtfdmcbcomknebaaGreatDoorAu9
import Derived.Test.YtfdmcbcomknebaaGreatDoorAu6
import Derived.Test.YtfdmcbcomknebaaGreatDoorKox
import Derived.Test.YtfdmcbcomknebaaGreatDoorKfx
import Derived.WalkKit
import Derived.ProofKit
import Derived.OpenShut
import Derived.BigQuiet
import Derived.BigGuard
import Derived.Carry
import Derived.Deep.RegionHeld3
namespace Go.Proofs.YtfdmcbcomknebaaGreatDoor.Aud
open Go.ChangeShapes Go.WideShapes Go.ChangeAt Go.RowKit
open Mm

set_option maxRecDepth 100000 in
set_option maxHeartbeats 2000000 in
theorem rcores_any (p : Pic) (v4 v5 v6 v7 v8 v9 v10 : Value) (m : Nat) (w : World) (hm : m < 18446744073709551616) :
    Calls Tryz.prog 86 #[.agg #[.int .i64 p.cp, .int .u64 (p.on : Int), .int .u64 (p.ac : Int), .int .u64 (p.pw : Int), v4, v5, v6, v7, v8, v9, v10, .bool p.bu, .bool p.up, .int .i64 p.cc, .int .i64 p.by'], .int .u64 (m : Int)] w fun e w' => e = .returned (.bool (((nt m (up p.cp) : Nat) : Int) == 0)) ∧ Below w.heap.size w w' := by
  have b0 : Below w.heap.size w (w.alloc (.cells #[.int .i64 p.cp, .int .u64 (p.on : Int), .int .u64 (p.ac : Int), .int .u64 (p.pw : Int), v4, v5, v6, v7, v8, v9, v10, .bool p.bu, .bool p.up, .int .i64 p.cc, .int .i64 p.by'] 26)) := (Below.refl _ _).alloc (Nat.le_refl _) _
  have HB0 : Hid (Below w.heap.size w (w.alloc (.cells #[.int .i64 p.cp, .int .u64 (p.on : Int), .int .u64 (p.ac : Int), .int .u64 (p.pw : Int), v4, v5, v6, v7, v8, v9, v10, .bool p.bu, .bool p.up, .int .i64 p.cc, .int .i64 p.by'] 26))) := b0
  have HK0 : Hid (Blk (w.alloc (.cells #[.int .i64 p.cp, .int .u64 (p.on : Int), .int .u64 (p.ac : Int), .int .u64 (p.pw : Int), v4, v5, v6, v7, v8, v9, v10, .bool p.bu, .bool p.up, .int .i64 p.cc, .int .i64 p.by'] 26)) w.heap.size [.int .i64 p.cp, .int .u64 (p.on : Int), .int .u64 (p.ac : Int), .int .u64 (p.pw : Int), v4, v5, v6, v7, v8, v9, v10, .bool p.bu, .bool p.up, .int .i64 p.cc, .int .i64 p.by'] 26) := Blk.new w _ _
  have CU : Hid (∀ v, _) := fun v => krefupto_any p.cp v
  have CN : Hid (∀ v, _) := fun v => krefnot_any m (up p.cp) v hm (up_lt _)
  clear b0 hm
  generalize ((nt m (up p.cp) : Nat) : Int) = r at *
  generalize ((up p.cp : Nat) : Int) = uc at *
  go_enter Tryz.func86, Tryz.ntmps86
  go_wp2_with fail
  refine (CU.out _).mono ?_
  rintro e w1 ⟨rfl, rfl⟩
  go_wp2_with fail
  refine (CN.out _).mono ?_
  rintro e w1 ⟨rfl, b1⟩
  have B1 : Hid (Below w.heap.size w w1) := HB0.out.trans (b1.mono HB0.out.size)
  clear b1
  go_wp2
  go_ret
  exact ⟨rfl, B1.out⟩

set_option maxRecDepth 100000 in
set_option maxHeartbeats 8000000 in
theorem rfirst_any (p : Pic) (v4 v5 v6 v7 v8 v9 v10 : Value) (w : World) (h : PV w p v4 v5 v6 v7 v8 v9 v10) :
    Calls Tryz.prog 21 #[.agg #[.int .i64 p.cp, .int .u64 (p.on : Int), .int .u64 (p.ac : Int), .int .u64 (p.pw : Int), v4, v5, v6, v7, v8, v9, v10, .bool p.bu, .bool p.up, .int .i64 p.cc, .int .i64 p.by']] w fun e w' => e = .returned (.bool (rl1 p)) ∧ Below w.heap.size w w' := by
  have b0 : Below w.heap.size w (w.alloc (.cells #[.int .i64 p.cp, .int .u64 (p.on : Int), .int .u64 (p.ac : Int), .int .u64 (p.pw : Int), v4, v5, v6, v7, v8, v9, v10, .bool p.bu, .bool p.up, .int .i64 p.cc, .int .i64 p.by'] 26)) := (Below.refl _ _).alloc (Nat.le_refl _) _
  have HB0 : Hid (Below w.heap.size w (w.alloc (.cells #[.int .i64 p.cp, .int .u64 (p.on : Int), .int .u64 (p.ac : Int), .int .u64 (p.pw : Int), v4, v5, v6, v7, v8, v9, v10, .bool p.bu, .bool p.up, .int .i64 p.cc, .int .i64 p.by'] 26))) := b0
  have HK0 : Hid (Blk (w.alloc (.cells #[.int .i64 p.cp, .int .u64 (p.on : Int), .int .u64 (p.ac : Int), .int .u64 (p.pw : Int), v4, v5, v6, v7, v8, v9, v10, .bool p.bu, .bool p.up, .int .i64 p.cc, .int .i64 p.by'] 26)) w.heap.size [.int .i64 p.cp, .int .u64 (p.on : Int), .int .u64 (p.ac : Int), .int .u64 (p.pw : Int), v4, v5, v6, v7, v8, v9, v10, .bool p.bu, .bool p.up, .int .i64 p.cc, .int .i64 p.by'] 26) := Blk.new w _ _
  have C1 : Hid (∀ v, _) := fun v => krefnot_any p.ac p.on v h.ac h.on
  have C2 : Hid (∀ v, _) := fun v => krefnot_any p.on p.pw v h.on h.pw
  have C3 : Hid (∀ v, _) := fun v => rcores_any p v4 v5 v6 v7 v8 v9 v10 p.pw v h.pw
  unfold rl1
  rw [show decide (p.ac ≠ 0) = ((p.ac : Int) != 0) from by show _ = !decide _; rw [decide_not]; congr 1; exact decide_eq_decide.2 (by omega), nt_beq, nt_beq, nt_beq]
  clear b0 h
  generalize (((nt p.pw (up p.cp) : Nat) : Int) == 0) = r3 at *
  generalize ((nt p.ac p.on : Nat) : Int) = r1 at *
  generalize ((nt p.on p.pw : Nat) : Int) = r2 at *
  generalize (p.ac : Int) = ac at *
  by_cases q0 : ac = 0
  · subst q0
    clear C1 C2 C3
    go_enter Tryz.func21, Tryz.ntmps21
    go_wp2
    go_ret
    exact ⟨rfl, HB0.out⟩
  · have z0 := bne1 q0
    rw [z0]
    by_cases q1 : r1 = 0
    · subst q1
      by_cases q2 : r2 = 0
      · subst q2
        go_enter Tryz.func21, Tryz.ntmps21
        go_wp2_with fail
        refine (C1.out _).mono ?_
        rintro e w1 ⟨rfl, b1⟩
        have B1 : Hid (Below w.heap.size w w1) := HB0.out.trans (b1.mono HB0.out.size)
        have K1' : Hid (Blk _ _ _ _) := HK0.out.keep (Fr.of_below b1) HK0.out.lt (by simp)
        have c1 := K1'.out.cell 1
        have c3 := K1'.out.cell 3
        simp only [List.getElem?_cons_zero, List.getElem?_cons_succ] at c1 c3
        clear b1
        go_wp2_with fail
        refine (C2.out _).mono ?_
        rintro e w2 ⟨rfl, b2⟩
        have B2 : Hid (Below w.heap.size w w2) := B1.out.trans (b2.mono B1.out.size)
        have K2' := K1'.out.keep (Fr.of_below b2) K1'.out.lt (by simp)
        clear b2 c1 c3
        have c0 := K2'.cell 0
        have c1 := K2'.cell 1
        have c2 := K2'.cell 2
        have c3 := K2'.cell 3
        have c4 := K2'.cell 4
        have c5 := K2'.cell 5
        have c6 := K2'.cell 6
        have c7 := K2'.cell 7
        have c8 := K2'.cell 8
        have c9 := K2'.cell 9
        have c10 := K2'.cell 10
        have c11 := K2'.cell 11
        have c12 := K2'.cell 12
        have c13 := K2'.cell 13
        have c14 := K2'.cell 14
        simp only [List.getElem?_cons_zero, List.getElem?_cons_succ] at c0 c1 c2 c3 c4 c5 c6 c7 c8 c9 c10 c11 c12 c13 c14
        clear K2'
        go_wp2_with fail
        refine (C3.out _).mono ?_
        rintro e w3 ⟨rfl, b3⟩
        have B3 : Hid (Below w.heap.size w w3) := B2.out.trans (b3.mono B2.out.size)
        clear b3 c0 c1 c2 c3 c4 c5 c6 c7 c8 c9 c10 c11 c12 c13 c14
        go_wp2
        go_ret
        exact ⟨by simp, B3.out⟩
      · have z2 := beq0 q2
        rw [z2]
        go_enter Tryz.func21, Tryz.ntmps21
        go_wp2_with fail
        refine (C1.out _).mono ?_
        rintro e w1 ⟨rfl, b1⟩
        have B1 : Hid (Below w.heap.size w w1) := HB0.out.trans (b1.mono HB0.out.size)
        have K1' : Hid (Blk _ _ _ _) := HK0.out.keep (Fr.of_below b1) HK0.out.lt (by simp)
        have c1 := K1'.out.cell 1
        have c3 := K1'.out.cell 3
        simp only [List.getElem?_cons_zero, List.getElem?_cons_succ] at c1 c3
        clear b1
        go_wp2_with fail
        refine (C2.out _).mono ?_
        rintro e w2 ⟨rfl, b2⟩
        have B2 : Hid (Below w.heap.size w w2) := B1.out.trans (b2.mono B1.out.size)
        clear b2 c1 c3
        go_wp2
        go_ret
        exact ⟨rfl, B2.out⟩
    · have z1 := beq0 q1
      rw [z1]
      go_enter Tryz.func21, Tryz.ntmps21
      go_wp2_with fail
      refine (C1.out _).mono ?_
      rintro e w1 ⟨rfl, b1⟩
      have B1 : Hid (Below w.heap.size w w1) := HB0.out.trans (b1.mono HB0.out.size)
      clear b1
      go_wp2
      go_ret
      exact ⟨rfl, B1.out⟩

theorem rmay_false (p : Pic) : rmay p false = mays p := by funext x; simp [rmay, mays]
theorem rmay_true (p : Pic) : rmay p true = mayw p := by funext x; simp [rmay, mayw]
set_option maxRecDepth 100000 in
set_option maxHeartbeats 8000000 in
theorem rrule1_any (p : Pic) (v4 v5 v6 v7 v8 v9 v10 : Value) (w : World) (h : PV w p v4 v5 v6 v7 v8 v9 v10) (_ : Few p) :
    Calls Tryz.prog 8 #[.agg #[.int .i64 p.cp, .int .u64 (p.on : Int), .int .u64 (p.ac : Int), .int .u64 (p.pw : Int), v4, v5, v6, v7, v8, v9, v10, .bool p.bu, .bool p.up, .int .i64 p.cc, .int .i64 p.by'], .int .i64 1] w fun e w' => e = .returned (.bool (rl1 p)) ∧ Below w.heap.size w w' := by
  have b0 : Below w.heap.size w (w.alloc (.cells #[.int .i64 p.cp, .int .u64 (p.on : Int), .int .u64 (p.ac : Int), .int .u64 (p.pw : Int), v4, v5, v6, v7, v8, v9, v10, .bool p.bu, .bool p.up, .int .i64 p.cc, .int .i64 p.by'] 26)) := (Below.refl _ _).alloc (Nat.le_refl _) _
  have HB0 : Hid (Below w.heap.size w (w.alloc (.cells #[.int .i64 p.cp, .int .u64 (p.on : Int), .int .u64 (p.ac : Int), .int .u64 (p.pw : Int), v4, v5, v6, v7, v8, v9, v10, .bool p.bu, .bool p.up, .int .i64 p.cc, .int .i64 p.by'] 26))) := b0
  have HK0 : Hid (Blk (w.alloc (.cells #[.int .i64 p.cp, .int .u64 (p.on : Int), .int .u64 (p.ac : Int), .int .u64 (p.pw : Int), v4, v5, v6, v7, v8, v9, v10, .bool p.bu, .bool p.up, .int .i64 p.cc, .int .i64 p.by'] 26)) w.heap.size [.int .i64 p.cp, .int .u64 (p.on : Int), .int .u64 (p.ac : Int), .int .u64 (p.pw : Int), v4, v5, v6, v7, v8, v9, v10, .bool p.bu, .bool p.up, .int .i64 p.cc, .int .i64 p.by'] 26) := Blk.new w _ _
  have C : Hid (∀ _ : Unit, _) := fun _ => rfirst_any p v4 v5 v6 v7 v8 v9 v10 (w.alloc (.cells #[.int .i64 p.cp, .int .u64 (p.on : Int), .int .u64 (p.ac : Int), .int .u64 (p.pw : Int), v4, v5, v6, v7, v8, v9, v10, .bool p.bu, .bool p.up, .int .i64 p.cc, .int .i64 p.by'] 26)) (h.below b0)
  clear h b0
  go_enter Tryz.func8, Tryz.ntmps8
  go_wp2_with fail
  refine (C.out ()).mono ?_
  rintro e w1 ⟨rfl, b1⟩
  have B1 : Hid (Below w.heap.size w w1) := HB0.out.trans (b1.mono HB0.out.size)
  clear b1
  go_wp2
  go_ret
  exact ⟨rfl, B1.out⟩
set_option maxRecDepth 100000 in
set_option maxHeartbeats 8000000 in
theorem rrule2_any (p : Pic) (v4 v5 v6 v7 v8 v9 v10 : Value) (w : World) (h : PV w p v4 v5 v6 v7 v8 v9 v10) (hl : Few p) :
    Calls Tryz.prog 8 #[.agg #[.int .i64 p.cp, .int .u64 (p.on : Int), .int .u64 (p.ac : Int), .int .u64 (p.pw : Int), v4, v5, v6, v7, v8, v9, v10, .bool p.bu, .bool p.up, .int .i64 p.cc, .int .i64 p.by'], .int .i64 2] w fun e w' => e = .returned (.bool (rl2 p)) ∧ Below w.heap.size w w' := by
  have b0 : Below w.heap.size w (w.alloc (.cells #[.int .i64 p.cp, .int .u64 (p.on : Int), .int .u64 (p.ac : Int), .int .u64 (p.pw : Int), v4, v5, v6, v7, v8, v9, v10, .bool p.bu, .bool p.up, .int .i64 p.cc, .int .i64 p.by'] 26)) := (Below.refl _ _).alloc (Nat.le_refl _) _
  have HB0 : Hid (Below w.heap.size w (w.alloc (.cells #[.int .i64 p.cp, .int .u64 (p.on : Int), .int .u64 (p.ac : Int), .int .u64 (p.pw : Int), v4, v5, v6, v7, v8, v9, v10, .bool p.bu, .bool p.up, .int .i64 p.cc, .int .i64 p.by'] 26))) := b0
  have HK0 : Hid (Blk (w.alloc (.cells #[.int .i64 p.cp, .int .u64 (p.on : Int), .int .u64 (p.ac : Int), .int .u64 (p.pw : Int), v4, v5, v6, v7, v8, v9, v10, .bool p.bu, .bool p.up, .int .i64 p.cc, .int .i64 p.by'] 26)) w.heap.size [.int .i64 p.cp, .int .u64 (p.on : Int), .int .u64 (p.ac : Int), .int .u64 (p.pw : Int), v4, v5, v6, v7, v8, v9, v10, .bool p.bu, .bool p.up, .int .i64 p.cc, .int .i64 p.by'] 26) := Blk.new w _ _
  have C : Hid (∀ _ : Unit, _) := fun _ => rqueues_any p v4 v5 v6 v7 v8 v9 v10 (w.alloc (.cells #[.int .i64 p.cp, .int .u64 (p.on : Int), .int .u64 (p.ac : Int), .int .u64 (p.pw : Int), v4, v5, v6, v7, v8, v9, v10, .bool p.bu, .bool p.up, .int .i64 p.cc, .int .i64 p.by'] 26)) (h.below b0) hl
  clear h hl b0
  go_enter Tryz.func8, Tryz.ntmps8
  go_wp2_with fail
  refine (C.out ()).mono ?_
  rintro e w1 ⟨rfl, b1⟩
  have B1 : Hid (Below w.heap.size w w1) := HB0.out.trans (b1.mono HB0.out.size)
  clear b1
  go_wp2
  go_ret
  exact ⟨rfl, B1.out⟩
set_option maxRecDepth 100000 in
set_option maxHeartbeats 8000000 in
theorem rrule3_any (p : Pic) (v4 v5 v6 v7 v8 v9 v10 : Value) (w : World) (h : PV w p v4 v5 v6 v7 v8 v9 v10) (hl : Few p) :
    Calls Tryz.prog 8 #[.agg #[.int .i64 p.cp, .int .u64 (p.on : Int), .int .u64 (p.ac : Int), .int .u64 (p.pw : Int), v4, v5, v6, v7, v8, v9, v10, .bool p.bu, .bool p.up, .int .i64 p.cc, .int .i64 p.by'], .int .i64 3] w fun e w' => e = .returned (.bool (rl3 p)) ∧ Below w.heap.size w w' := by
  have b0 : Below w.heap.size w (w.alloc (.cells #[.int .i64 p.cp, .int .u64 (p.on : Int), .int .u64 (p.ac : Int), .int .u64 (p.pw : Int), v4, v5, v6, v7, v8, v9, v10, .bool p.bu, .bool p.up, .int .i64 p.cc, .int .i64 p.by'] 26)) := (Below.refl _ _).alloc (Nat.le_refl _) _
  have HB0 : Hid (Below w.heap.size w (w.alloc (.cells #[.int .i64 p.cp, .int .u64 (p.on : Int), .int .u64 (p.ac : Int), .int .u64 (p.pw : Int), v4, v5, v6, v7, v8, v9, v10, .bool p.bu, .bool p.up, .int .i64 p.cc, .int .i64 p.by'] 26))) := b0
  have HK0 : Hid (Blk (w.alloc (.cells #[.int .i64 p.cp, .int .u64 (p.on : Int), .int .u64 (p.ac : Int), .int .u64 (p.pw : Int), v4, v5, v6, v7, v8, v9, v10, .bool p.bu, .bool p.up, .int .i64 p.cc, .int .i64 p.by'] 26)) w.heap.size [.int .i64 p.cp, .int .u64 (p.on : Int), .int .u64 (p.ac : Int), .int .u64 (p.pw : Int), v4, v5, v6, v7, v8, v9, v10, .bool p.bu, .bool p.up, .int .i64 p.cc, .int .i64 p.by'] 26) := Blk.new w _ _
  have C : Hid (∀ _ : Unit, _) := fun _ => rsleeps_any p v4 v5 v6 v7 v8 v9 v10 (w.alloc (.cells #[.int .i64 p.cp, .int .u64 (p.on : Int), .int .u64 (p.ac : Int), .int .u64 (p.pw : Int), v4, v5, v6, v7, v8, v9, v10, .bool p.bu, .bool p.up, .int .i64 p.cc, .int .i64 p.by'] 26)) (h.below b0) hl
  clear h hl b0
  go_enter Tryz.func8, Tryz.ntmps8
  go_wp2_with fail
  refine (C.out ()).mono ?_
  rintro e w1 ⟨rfl, b1⟩
  have B1 : Hid (Below w.heap.size w w1) := HB0.out.trans (b1.mono HB0.out.size)
  clear b1
  go_wp2
  go_ret
  exact ⟨rfl, B1.out⟩
set_option maxRecDepth 100000 in
set_option maxHeartbeats 8000000 in
theorem rrule4_any (p : Pic) (v4 v5 v6 v7 v8 v9 v10 : Value) (w : World) (h : PV w p v4 v5 v6 v7 v8 v9 v10) (hl : Few p) :
    Calls Tryz.prog 8 #[.agg #[.int .i64 p.cp, .int .u64 (p.on : Int), .int .u64 (p.ac : Int), .int .u64 (p.pw : Int), v4, v5, v6, v7, v8, v9, v10, .bool p.bu, .bool p.up, .int .i64 p.cc, .int .i64 p.by'], .int .i64 4] w fun e w' => e = .returned (.bool (rl4 p)) ∧ Below w.heap.size w w' := by
  have b0 : Below w.heap.size w (w.alloc (.cells #[.int .i64 p.cp, .int .u64 (p.on : Int), .int .u64 (p.ac : Int), .int .u64 (p.pw : Int), v4, v5, v6, v7, v8, v9, v10, .bool p.bu, .bool p.up, .int .i64 p.cc, .int .i64 p.by'] 26)) := (Below.refl _ _).alloc (Nat.le_refl _) _
  have HB0 : Hid (Below w.heap.size w (w.alloc (.cells #[.int .i64 p.cp, .int .u64 (p.on : Int), .int .u64 (p.ac : Int), .int .u64 (p.pw : Int), v4, v5, v6, v7, v8, v9, v10, .bool p.bu, .bool p.up, .int .i64 p.cc, .int .i64 p.by'] 26))) := b0
  have HK0 : Hid (Blk (w.alloc (.cells #[.int .i64 p.cp, .int .u64 (p.on : Int), .int .u64 (p.ac : Int), .int .u64 (p.pw : Int), v4, v5, v6, v7, v8, v9, v10, .bool p.bu, .bool p.up, .int .i64 p.cc, .int .i64 p.by'] 26)) w.heap.size [.int .i64 p.cp, .int .u64 (p.on : Int), .int .u64 (p.ac : Int), .int .u64 (p.pw : Int), v4, v5, v6, v7, v8, v9, v10, .bool p.bu, .bool p.up, .int .i64 p.cc, .int .i64 p.by'] 26) := Blk.new w _ _
  have C0 : Hid (∀ u, Below w.heap.size w u → Calls Tryz.prog _ _ u _) := fun u bu => rright_any p v4 v5 v6 v7 v8 v9 v10 p.qu v5 false u (h.qu.below bu) h.ac hl.qu
  generalize hr0 : p.qu.all (rmay p false) = r0 at C0
  have C1 : Hid (∀ u, Below w.heap.size w u → Calls Tryz.prog _ _ u _) := fun u bu => rright_any p v4 v5 v6 v7 v8 v9 v10 p.ti v6 false u (h.ti.below bu) h.ac hl.ti
  generalize hr1 : p.ti.all (rmay p false) = r1 at C1
  have C2 : Hid (∀ u, Below w.heap.size w u → Calls Tryz.prog _ _ u _) := fun u bu => rright_any p v4 v5 v6 v7 v8 v9 v10 p.ir v7 false u (h.ir.below bu) h.ac hl.ir
  generalize hr2 : p.ir.all (rmay p false) = r2 at C2
  have C3 : Hid (∀ u, Below w.heap.size w u → Calls Tryz.prog _ _ u _) := fun u bu => rright_any p v4 v5 v6 v7 v8 v9 v10 p.wo v8 true u (h.wo.below bu) h.ac hl.wo
  generalize hr3 : p.wo.all (rmay p true) = r3 at C3
  have C4 : Hid (∀ u, Below w.heap.size w u → Calls Tryz.prog _ _ u _) := fun u bu => rright_any p v4 v5 v6 v7 v8 v9 v10 p.ca v9 false u (h.ca.below bu) h.ac hl.ca
  generalize hr4 : p.ca.all (rmay p false) = r4 at C4
  have C5 : Hid (∀ u, Below w.heap.size w u → Calls Tryz.prog _ _ u _) := fun u bu => rright_any p v4 v5 v6 v7 v8 v9 v10 p.ke v10 false u (h.ke.below bu) h.ac hl.ke
  generalize hr5 : p.ke.all (rmay p false) = r5 at C5
  have E : Hid (rl4 p = (r0 && (r1 && (r2 && (r3 && (r4 && r5)))))) := by
    show rl4 p = _
    rw [← hr0, ← hr1, ← hr2, ← hr3, ← hr4, ← hr5, rmay_false, rmay_true]
    unfold rl4
    generalize p.qu.all (mays p) = x0
    generalize p.ti.all (mays p) = x1
    generalize p.ir.all (mays p) = x2
    generalize p.wo.all (mayw p) = x3
    generalize p.ca.all (mays p) = x4
    generalize p.ke.all (mays p) = x5
    revert x0 x1 x2 x3 x4 x5
    decide
  rw [E.out]
  clear hr0 hr1 hr2 hr3 hr4 hr5 E h hl b0
  go_enter Tryz.func8, Tryz.ntmps8
  go_wp2_with fail
  refine (C0.out _ HB0.out).mono ?_
  rintro e w0 ⟨rfl, b0⟩
  have B0 : Hid (Below w.heap.size w w0) := HB0.out.trans (b0.mono HB0.out.size)
  have K0 : Hid (Blk w0 w.heap.size _ _) := HK0.out.keep (Fr.of_below b0) HK0.out.lt (by simp)
  clear b0
  have c0 := K0.out.cell 0
  have c1 := K0.out.cell 1
  have c2 := K0.out.cell 2
  have c3 := K0.out.cell 3
  have c4 := K0.out.cell 4
  have c5 := K0.out.cell 5
  have c6 := K0.out.cell 6
  have c7 := K0.out.cell 7
  have c8 := K0.out.cell 8
  have c9 := K0.out.cell 9
  have c10 := K0.out.cell 10
  have c11 := K0.out.cell 11
  have c12 := K0.out.cell 12
  have c13 := K0.out.cell 13
  have c14 := K0.out.cell 14
  simp only [List.getElem?_cons_zero, List.getElem?_cons_succ] at c0 c1 c2 c3 c4 c5 c6 c7 c8 c9 c10 c11 c12 c13 c14
  cases r0
  · go_wp2
    go_ret
    exact ⟨rfl, B0.out⟩
  · skip
    go_wp2_with fail
    refine (C1.out _ B0.out).mono ?_
    rintro e w1 ⟨rfl, b1⟩
    have B1 : Hid (Below w.heap.size w w1) := B0.out.trans (b1.mono B0.out.size)
    have K1 : Hid (Blk w1 w.heap.size _ _) := K0.out.keep (Fr.of_below b1) K0.out.lt (by simp)
    clear b1 c0 c1 c2 c3 c4 c5 c6 c7 c8 c9 c10 c11 c12 c13 c14
    have c0 := K1.out.cell 0
    have c1 := K1.out.cell 1
    have c2 := K1.out.cell 2
    have c3 := K1.out.cell 3
    have c4 := K1.out.cell 4
    have c5 := K1.out.cell 5
    have c6 := K1.out.cell 6
    have c7 := K1.out.cell 7
    have c8 := K1.out.cell 8
    have c9 := K1.out.cell 9
    have c10 := K1.out.cell 10
    have c11 := K1.out.cell 11
    have c12 := K1.out.cell 12
    have c13 := K1.out.cell 13
    have c14 := K1.out.cell 14
    simp only [List.getElem?_cons_zero, List.getElem?_cons_succ] at c0 c1 c2 c3 c4 c5 c6 c7 c8 c9 c10 c11 c12 c13 c14
    cases r1
    · go_wp2
      go_ret
      exact ⟨rfl, B1.out⟩
    · skip
      go_wp2_with fail
      refine (C2.out _ B1.out).mono ?_
      rintro e w2 ⟨rfl, b2⟩
      have B2 : Hid (Below w.heap.size w w2) := B1.out.trans (b2.mono B1.out.size)
      have K2 : Hid (Blk w2 w.heap.size _ _) := K1.out.keep (Fr.of_below b2) K1.out.lt (by simp)
      clear b2 c0 c1 c2 c3 c4 c5 c6 c7 c8 c9 c10 c11 c12 c13 c14
      have c0 := K2.out.cell 0
      have c1 := K2.out.cell 1
      have c2 := K2.out.cell 2
      have c3 := K2.out.cell 3
      have c4 := K2.out.cell 4
      have c5 := K2.out.cell 5
      have c6 := K2.out.cell 6
      have c7 := K2.out.cell 7
      have c8 := K2.out.cell 8
      have c9 := K2.out.cell 9
      have c10 := K2.out.cell 10
      have c11 := K2.out.cell 11
      have c12 := K2.out.cell 12
      have c13 := K2.out.cell 13
      have c14 := K2.out.cell 14
      simp only [List.getElem?_cons_zero, List.getElem?_cons_succ] at c0 c1 c2 c3 c4 c5 c6 c7 c8 c9 c10 c11 c12 c13 c14
      cases r2
      · go_wp2
        go_ret
        exact ⟨rfl, B2.out⟩
      · skip
        go_wp2_with fail
        refine (C3.out _ B2.out).mono ?_
        rintro e w3 ⟨rfl, b3⟩
        have B3 : Hid (Below w.heap.size w w3) := B2.out.trans (b3.mono B2.out.size)
        have K3 : Hid (Blk w3 w.heap.size _ _) := K2.out.keep (Fr.of_below b3) K2.out.lt (by simp)
        clear b3 c0 c1 c2 c3 c4 c5 c6 c7 c8 c9 c10 c11 c12 c13 c14
        have c0 := K3.out.cell 0
        have c1 := K3.out.cell 1
        have c2 := K3.out.cell 2
        have c3 := K3.out.cell 3
        have c4 := K3.out.cell 4
        have c5 := K3.out.cell 5
        have c6 := K3.out.cell 6
        have c7 := K3.out.cell 7
        have c8 := K3.out.cell 8
        have c9 := K3.out.cell 9
        have c10 := K3.out.cell 10
        have c11 := K3.out.cell 11
        have c12 := K3.out.cell 12
        have c13 := K3.out.cell 13
        have c14 := K3.out.cell 14
        simp only [List.getElem?_cons_zero, List.getElem?_cons_succ] at c0 c1 c2 c3 c4 c5 c6 c7 c8 c9 c10 c11 c12 c13 c14
        cases r3
        · go_wp2
          go_ret
          exact ⟨rfl, B3.out⟩
        · skip
          go_wp2_with fail
          refine (C4.out _ B3.out).mono ?_
          rintro e w4 ⟨rfl, b4⟩
          have B4 : Hid (Below w.heap.size w w4) := B3.out.trans (b4.mono B3.out.size)
          have K4 : Hid (Blk w4 w.heap.size _ _) := K3.out.keep (Fr.of_below b4) K3.out.lt (by simp)
          clear b4 c0 c1 c2 c3 c4 c5 c6 c7 c8 c9 c10 c11 c12 c13 c14
          have c0 := K4.out.cell 0
          have c1 := K4.out.cell 1
          have c2 := K4.out.cell 2
          have c3 := K4.out.cell 3
          have c4 := K4.out.cell 4
          have c5 := K4.out.cell 5
          have c6 := K4.out.cell 6
          have c7 := K4.out.cell 7
          have c8 := K4.out.cell 8
          have c9 := K4.out.cell 9
          have c10 := K4.out.cell 10
          have c11 := K4.out.cell 11
          have c12 := K4.out.cell 12
          have c13 := K4.out.cell 13
          have c14 := K4.out.cell 14
          simp only [List.getElem?_cons_zero, List.getElem?_cons_succ] at c0 c1 c2 c3 c4 c5 c6 c7 c8 c9 c10 c11 c12 c13 c14
          cases r4
          · go_wp2
            go_ret
            exact ⟨rfl, B4.out⟩
          · skip
            go_wp2_with fail
            refine (C5.out _ B4.out).mono ?_
            rintro e w5 ⟨rfl, b5⟩
            have B5 : Hid (Below w.heap.size w w5) := B4.out.trans (b5.mono B4.out.size)
            clear b5 c0 c1 c2 c3 c4 c5 c6 c7 c8 c9 c10 c11 c12 c13 c14
            go_wp2
            go_ret
            exact ⟨by simp, B5.out⟩
set_option maxRecDepth 100000 in
set_option maxHeartbeats 8000000 in
theorem rrule5_any (p : Pic) (v4 v5 v6 v7 v8 v9 v10 : Value) (w : World) (h : PV w p v4 v5 v6 v7 v8 v9 v10) (_ : Few p) :
    Calls Tryz.prog 8 #[.agg #[.int .i64 p.cp, .int .u64 (p.on : Int), .int .u64 (p.ac : Int), .int .u64 (p.pw : Int), v4, v5, v6, v7, v8, v9, v10, .bool p.bu, .bool p.up, .int .i64 p.cc, .int .i64 p.by'], .int .i64 5] w fun e w' => e = .returned (.bool (rl5 p)) ∧ Below w.heap.size w w' := by
  have b0 : Below w.heap.size w (w.alloc (.cells #[.int .i64 p.cp, .int .u64 (p.on : Int), .int .u64 (p.ac : Int), .int .u64 (p.pw : Int), v4, v5, v6, v7, v8, v9, v10, .bool p.bu, .bool p.up, .int .i64 p.cc, .int .i64 p.by'] 26)) := (Below.refl _ _).alloc (Nat.le_refl _) _
  have HB0 : Hid (Below w.heap.size w (w.alloc (.cells #[.int .i64 p.cp, .int .u64 (p.on : Int), .int .u64 (p.ac : Int), .int .u64 (p.pw : Int), v4, v5, v6, v7, v8, v9, v10, .bool p.bu, .bool p.up, .int .i64 p.cc, .int .i64 p.by'] 26))) := b0
  have HK0 : Hid (Blk (w.alloc (.cells #[.int .i64 p.cp, .int .u64 (p.on : Int), .int .u64 (p.ac : Int), .int .u64 (p.pw : Int), v4, v5, v6, v7, v8, v9, v10, .bool p.bu, .bool p.up, .int .i64 p.cc, .int .i64 p.by'] 26)) w.heap.size [.int .i64 p.cp, .int .u64 (p.on : Int), .int .u64 (p.ac : Int), .int .u64 (p.pw : Int), v4, v5, v6, v7, v8, v9, v10, .bool p.bu, .bool p.up, .int .i64 p.cc, .int .i64 p.by'] 26) := Blk.new w _ _
  have B0 : Hid (∀ n, Below w.heap.size w ((w.alloc (.cells #[.int .i64 p.cp, .int .u64 (p.on : Int), .int .u64 (p.ac : Int), .int .u64 (p.pw : Int), v4, v5, v6, v7, v8, v9, v10, .bool p.bu, .bool p.up, .int .i64 p.cc, .int .i64 p.by'] 26)).drewN n)) := fun n => drN b0 n
  have CW : Hid (∀ v, _) := fun v => krefwith_any p.on p.cc v h.on
  unfold rl5
  rw [show decide (p.pw = p.on) = decide ((p.pw : Int) = (p.on : Int)) from decide_eq_decide.2 (by omega), show decide (p.pw = p.on ||| bv p.cc) = decide ((p.pw : Int) = ((p.on ||| bv p.cc : Nat) : Int)) from decide_eq_decide.2 (by omega)]
  clear h b0 HK0 HB0
  generalize ((p.on ||| bv p.cc : Nat) : Int) = ow at *
  obtain ⟨cp, on, ac, pw, th, qu, ti, ir, wo, ca, ke, bu, up, cc, by'⟩ := p
  dsimp only at *
  generalize (on : Int) = on at *
  generalize (pw : Int) = pw at *
  generalize (ac : Int) = ac at *
  by_cases h0 : pw = on
  · subst h0
    go_enter Tryz.func8, Tryz.ntmps8
    go_wp2_with fail
    go_quiet (fail)
    go_wp2
    go_ret
    exact ⟨by simp, B0.out _⟩
  · have e0 := dn h0
    rw [e0]
    have e2 : (pw == on) = false := e0
    cases bu
    · skip
      go_enter Tryz.func8, Tryz.ntmps8
      go_wp2_with fail
      go_quiet (fail)
      go_wp2
      go_ret
      exact ⟨rfl, B0.out _⟩
    · cases up
      · skip
        go_enter Tryz.func8, Tryz.ntmps8
        go_wp2_with fail
        go_quiet (fail)
        go_wp2
        go_ret
        exact ⟨rfl, B0.out _⟩
      · skip
        go_enter Tryz.func8, Tryz.ntmps8
        go_wp2_with fail
        go_quiet (first | (go_at_call 25; refine Calls.quiet_of_same (CW.out _)))
        go_wp2
        go_ret
        exact ⟨ob (show decide (pw = ow) = (false || (true && (true && decide (pw = ow)))) by simp), B0.out _⟩
set_option maxRecDepth 100000 in
set_option maxHeartbeats 8000000 in
theorem rrule6_any (p : Pic) (v4 v5 v6 v7 v8 v9 v10 : Value) (w : World) (h : PV w p v4 v5 v6 v7 v8 v9 v10) (hl : Few p) :
    Calls Tryz.prog 8 #[.agg #[.int .i64 p.cp, .int .u64 (p.on : Int), .int .u64 (p.ac : Int), .int .u64 (p.pw : Int), v4, v5, v6, v7, v8, v9, v10, .bool p.bu, .bool p.up, .int .i64 p.cc, .int .i64 p.by'], .int .i64 6] w fun e w' => e = .returned (.bool (rl6 p)) ∧ Below w.heap.size w w' := by
  have b0 : Below w.heap.size w (w.alloc (.cells #[.int .i64 p.cp, .int .u64 (p.on : Int), .int .u64 (p.ac : Int), .int .u64 (p.pw : Int), v4, v5, v6, v7, v8, v9, v10, .bool p.bu, .bool p.up, .int .i64 p.cc, .int .i64 p.by'] 26)) := (Below.refl _ _).alloc (Nat.le_refl _) _
  have HB0 : Hid (Below w.heap.size w (w.alloc (.cells #[.int .i64 p.cp, .int .u64 (p.on : Int), .int .u64 (p.ac : Int), .int .u64 (p.pw : Int), v4, v5, v6, v7, v8, v9, v10, .bool p.bu, .bool p.up, .int .i64 p.cc, .int .i64 p.by'] 26))) := b0
  have HK0 : Hid (Blk (w.alloc (.cells #[.int .i64 p.cp, .int .u64 (p.on : Int), .int .u64 (p.ac : Int), .int .u64 (p.pw : Int), v4, v5, v6, v7, v8, v9, v10, .bool p.bu, .bool p.up, .int .i64 p.cc, .int .i64 p.by'] 26)) w.heap.size [.int .i64 p.cp, .int .u64 (p.on : Int), .int .u64 (p.ac : Int), .int .u64 (p.pw : Int), v4, v5, v6, v7, v8, v9, v10, .bool p.bu, .bool p.up, .int .i64 p.cc, .int .i64 p.by'] 26) := Blk.new w _ _
  have C0 : Hid (Calls Tryz.prog _ _ _ _) := ronce_any p.ti v6 (w.alloc (.cells #[.int .i64 p.cp, .int .u64 (p.on : Int), .int .u64 (p.ac : Int), .int .u64 (p.pw : Int), v4, v5, v6, v7, v8, v9, v10, .bool p.bu, .bool p.up, .int .i64 p.cc, .int .i64 p.by'] 26)) (h.ti.below b0) hl.ti
  rw [onc_eq] at C0
  have C1 : Hid (Calls Tryz.prog _ _ _ _) := ronce_any p.ir v7 (w.alloc (.cells #[.int .i64 p.cp, .int .u64 (p.on : Int), .int .u64 (p.ac : Int), .int .u64 (p.pw : Int), v4, v5, v6, v7, v8, v9, v10, .bool p.bu, .bool p.up, .int .i64 p.cc, .int .i64 p.by'] 26)) (h.ir.below b0) hl.ir
  rw [onc_eq] at C1
  have C2 : Hid (Calls Tryz.prog _ _ _ _) := ronce_any p.wo v8 (w.alloc (.cells #[.int .i64 p.cp, .int .u64 (p.on : Int), .int .u64 (p.ac : Int), .int .u64 (p.pw : Int), v4, v5, v6, v7, v8, v9, v10, .bool p.bu, .bool p.up, .int .i64 p.cc, .int .i64 p.by'] 26)) (h.wo.below b0) hl.wo
  rw [onc_eq] at C2
  have C3 : Hid (Calls Tryz.prog _ _ _ _) := ronce_any p.ca v9 (w.alloc (.cells #[.int .i64 p.cp, .int .u64 (p.on : Int), .int .u64 (p.ac : Int), .int .u64 (p.pw : Int), v4, v5, v6, v7, v8, v9, v10, .bool p.bu, .bool p.up, .int .i64 p.cc, .int .i64 p.by'] 26)) (h.ca.below b0) hl.ca
  rw [onc_eq] at C3
  have C4 : Hid (Calls Tryz.prog _ _ _ _) := ronce_any p.ke v10 (w.alloc (.cells #[.int .i64 p.cp, .int .u64 (p.on : Int), .int .u64 (p.ac : Int), .int .u64 (p.pw : Int), v4, v5, v6, v7, v8, v9, v10, .bool p.bu, .bool p.up, .int .i64 p.cc, .int .i64 p.by'] 26)) (h.ke.below b0) hl.ke
  rw [onc_eq] at C4
  unfold rl6
  generalize onc p.ti = r0 at *
  generalize onc p.ir = r1 at *
  generalize onc p.wo = r2 at *
  generalize onc p.ca = r3 at *
  generalize onc p.ke = r4 at *
  clear h hl b0 HK0
  go_enter Tryz.func8, Tryz.ntmps8
  go_wp2_with fail
  refine C0.out.mono ?_
  rintro e w0 ⟨rfl, rfl⟩
  cases r0
  · go_wp2
    go_ret
    exact ⟨rfl, HB0.out⟩
  · skip
    go_wp2_with fail
    refine C1.out.mono ?_
    rintro e w1 ⟨rfl, rfl⟩
    cases r1
    · go_wp2
      go_ret
      exact ⟨rfl, HB0.out⟩
    · skip
      go_wp2_with fail
      refine C2.out.mono ?_
      rintro e w2 ⟨rfl, rfl⟩
      cases r2
      · go_wp2
        go_ret
        exact ⟨rfl, HB0.out⟩
      · skip
        go_wp2_with fail
        refine C3.out.mono ?_
        rintro e w3 ⟨rfl, rfl⟩
        cases r3
        · go_wp2
          go_ret
          exact ⟨rfl, HB0.out⟩
        · skip
          go_wp2_with fail
          refine C4.out.mono ?_
          rintro e w4 ⟨rfl, rfl⟩
          go_wp2
          go_ret
          exact ⟨by simp, HB0.out⟩
set_option maxRecDepth 100000 in
set_option maxHeartbeats 8000000 in
theorem rrule7_any (p : Pic) (v4 v5 v6 v7 v8 v9 v10 : Value) (w : World) (h : PV w p v4 v5 v6 v7 v8 v9 v10) (_ : Few p) :
    Calls Tryz.prog 8 #[.agg #[.int .i64 p.cp, .int .u64 (p.on : Int), .int .u64 (p.ac : Int), .int .u64 (p.pw : Int), v4, v5, v6, v7, v8, v9, v10, .bool p.bu, .bool p.up, .int .i64 p.cc, .int .i64 p.by'], .int .i64 7] w fun e w' => e = .returned (.bool (rl7 p)) ∧ Below w.heap.size w w' := by
  have b0 : Below w.heap.size w (w.alloc (.cells #[.int .i64 p.cp, .int .u64 (p.on : Int), .int .u64 (p.ac : Int), .int .u64 (p.pw : Int), v4, v5, v6, v7, v8, v9, v10, .bool p.bu, .bool p.up, .int .i64 p.cc, .int .i64 p.by'] 26)) := (Below.refl _ _).alloc (Nat.le_refl _) _
  have HB0 : Hid (Below w.heap.size w (w.alloc (.cells #[.int .i64 p.cp, .int .u64 (p.on : Int), .int .u64 (p.ac : Int), .int .u64 (p.pw : Int), v4, v5, v6, v7, v8, v9, v10, .bool p.bu, .bool p.up, .int .i64 p.cc, .int .i64 p.by'] 26))) := b0
  have HK0 : Hid (Blk (w.alloc (.cells #[.int .i64 p.cp, .int .u64 (p.on : Int), .int .u64 (p.ac : Int), .int .u64 (p.pw : Int), v4, v5, v6, v7, v8, v9, v10, .bool p.bu, .bool p.up, .int .i64 p.cc, .int .i64 p.by'] 26)) w.heap.size [.int .i64 p.cp, .int .u64 (p.on : Int), .int .u64 (p.ac : Int), .int .u64 (p.pw : Int), v4, v5, v6, v7, v8, v9, v10, .bool p.bu, .bool p.up, .int .i64 p.cc, .int .i64 p.by'] 26) := Blk.new w _ _
  have B0 : Hid (∀ n, Below w.heap.size w ((w.alloc (.cells #[.int .i64 p.cp, .int .u64 (p.on : Int), .int .u64 (p.ac : Int), .int .u64 (p.pw : Int), v4, v5, v6, v7, v8, v9, v10, .bool p.bu, .bool p.up, .int .i64 p.cc, .int .i64 p.by'] 26)).drewN n)) := fun n => drN b0 n
  have C1 : Hid (∀ v, _) := fun v => krefhas_any p.ac p.by' v h.ac
  have CU : Hid (∀ v, _) := fun v => krefupto_any p.cp v
  have C2 : Hid (∀ v, _) := fun v => krefhas_any (up p.cp) p.cc v (up_lt _)
  have C3 : Hid (∀ v, _) := fun v => krefhas_any p.on p.cc v h.on
  unfold rl7
  clear h b0 HB0 HK0
  generalize tb p.ac p.by' = b1 at *
  generalize tb (up p.cp) p.cc = b2 at *
  generalize tb p.on p.cc = b3 at *
  generalize ((up p.cp : Nat) : Int) = uc at *
  obtain ⟨cp, on, ac, pw, th, qu, ti, ir, wo, ca, ke, bu, up, cc, by'⟩ := p
  dsimp only at *
  cases bu
  · skip
    go_enter Tryz.func8, Tryz.ntmps8
    go_wp2_with fail
    go_quiet (first | (go_at_call 27; first | with_reducible refine Calls.quiet_of_same (C1.out _) | with_reducible refine Calls.quiet_of_same (C2.out _) | with_reducible refine Calls.quiet_of_same (C3.out _)) | (go_at_call 28; refine Calls.quiet_of_same (CU.out _)))
    go_wp2
    go_ret
    exact ⟨rfl, B0.out _⟩
  · by_cases h0 : cc = by'
    · subst h0
      have e0 : decide (cc ≠ cc) = false := decide_eq_false (fun h => h rfl)
      rw [e0]
      go_enter Tryz.func8, Tryz.ntmps8
      go_wp2_with fail
      go_quiet (first | (go_at_call 27; first | with_reducible refine Calls.quiet_of_same (C1.out _) | with_reducible refine Calls.quiet_of_same (C2.out _) | with_reducible refine Calls.quiet_of_same (C3.out _)) | (go_at_call 28; refine Calls.quiet_of_same (CU.out _)))
      go_wp2
      go_ret
      exact ⟨rfl, B0.out _⟩
    · have e0 : decide (cc ≠ by') = true := decide_eq_true h0
      rw [e0]
      have e1 : (cc != by') = true := by simpa using h0
      cases b1
      · skip
        go_enter Tryz.func8, Tryz.ntmps8
        go_wp2_with fail
        go_quiet (first | (go_at_call 27; first | with_reducible refine Calls.quiet_of_same (C1.out _) | with_reducible refine Calls.quiet_of_same (C2.out _) | with_reducible refine Calls.quiet_of_same (C3.out _)) | (go_at_call 28; refine Calls.quiet_of_same (CU.out _)))
        go_wp2
        go_ret
        exact ⟨rfl, B0.out _⟩
      · cases b2
        · skip
          go_enter Tryz.func8, Tryz.ntmps8
          go_wp2_with fail
          go_quiet (first | (go_at_call 27; first | with_reducible refine Calls.quiet_of_same (C1.out _) | with_reducible refine Calls.quiet_of_same (C2.out _) | with_reducible refine Calls.quiet_of_same (C3.out _)) | (go_at_call 28; refine Calls.quiet_of_same (CU.out _)))
          go_wp2
          go_ret
          exact ⟨rfl, B0.out _⟩
        · skip
          go_enter Tryz.func8, Tryz.ntmps8
          go_wp2_with fail
          go_quiet (first | (go_at_call 27; first | with_reducible refine Calls.quiet_of_same (C1.out _) | with_reducible refine Calls.quiet_of_same (C2.out _) | with_reducible refine Calls.quiet_of_same (C3.out _)) | (go_at_call 28; refine Calls.quiet_of_same (CU.out _)))
          go_wp2
          go_ret
          exact ⟨ob (show (b3 == !up) = (!true || (true && (true && (true && (b3 != up))))) by cases b3 <;> cases up <;> rfl), B0.out _⟩
set_option maxRecDepth 100000 in
set_option maxHeartbeats 2000000 in
theorem rrule_any (p : Pic) (v4 v5 v6 v7 v8 v9 v10 : Value) (n : Int) (w : World) (h : PV w p v4 v5 v6 v7 v8 v9 v10) (hl : Few p) :
    Calls Tryz.prog 8 #[.agg #[.int .i64 p.cp, .int .u64 (p.on : Int), .int .u64 (p.ac : Int), .int .u64 (p.pw : Int), v4, v5, v6, v7, v8, v9, v10, .bool p.bu, .bool p.up, .int .i64 p.cc, .int .i64 p.by'], .int .i64 n] w fun e w' => e = .returned (.bool (rule p n)) ∧ Below w.heap.size w w' := by
  by_cases h1 : n = 1
  · subst h1
    rw [show rule p 1 = rl1 p by unfold rule; simp]
    exact rrule1_any p v4 v5 v6 v7 v8 v9 v10 w h hl
  · skip
    by_cases h2 : n = 2
    · subst h2
      rw [show rule p 2 = rl2 p by unfold rule; simp]
      exact rrule2_any p v4 v5 v6 v7 v8 v9 v10 w h hl
    · skip
      by_cases h3 : n = 3
      · subst h3
        rw [show rule p 3 = rl3 p by unfold rule; simp]
        exact rrule3_any p v4 v5 v6 v7 v8 v9 v10 w h hl
      · skip
        by_cases h4 : n = 4
        · subst h4
          rw [show rule p 4 = rl4 p by unfold rule; simp]
          exact rrule4_any p v4 v5 v6 v7 v8 v9 v10 w h hl
        · skip
          by_cases h5 : n = 5
          · subst h5
            rw [show rule p 5 = rl5 p by unfold rule; simp]
            exact rrule5_any p v4 v5 v6 v7 v8 v9 v10 w h hl
          · skip
            by_cases h6 : n = 6
            · subst h6
              rw [show rule p 6 = rl6 p by unfold rule; simp]
              exact rrule6_any p v4 v5 v6 v7 v8 v9 v10 w h hl
            · skip
              by_cases h7 : n = 7
              · subst h7
                rw [show rule p 7 = rl7 p by unfold rule; simp]
                exact rrule7_any p v4 v5 v6 v7 v8 v9 v10 w h hl
              · skip
                rw [show rule p n = false by unfold rule; simp [h1, h2, h3, h4, h5, h6, h7]]
                have b0 : Below w.heap.size w (w.alloc (.cells #[.int .i64 p.cp, .int .u64 (p.on : Int), .int .u64 (p.ac : Int), .int .u64 (p.pw : Int), v4, v5, v6, v7, v8, v9, v10, .bool p.bu, .bool p.up, .int .i64 p.cc, .int .i64 p.by'] 26)) := (Below.refl _ _).alloc (Nat.le_refl _) _
                have HB0 : Hid (Below w.heap.size w (w.alloc (.cells #[.int .i64 p.cp, .int .u64 (p.on : Int), .int .u64 (p.ac : Int), .int .u64 (p.pw : Int), v4, v5, v6, v7, v8, v9, v10, .bool p.bu, .bool p.up, .int .i64 p.cc, .int .i64 p.by'] 26))) := b0
                have HK0 : Hid (Blk (w.alloc (.cells #[.int .i64 p.cp, .int .u64 (p.on : Int), .int .u64 (p.ac : Int), .int .u64 (p.pw : Int), v4, v5, v6, v7, v8, v9, v10, .bool p.bu, .bool p.up, .int .i64 p.cc, .int .i64 p.by'] 26)) w.heap.size [.int .i64 p.cp, .int .u64 (p.on : Int), .int .u64 (p.ac : Int), .int .u64 (p.pw : Int), v4, v5, v6, v7, v8, v9, v10, .bool p.bu, .bool p.up, .int .i64 p.cc, .int .i64 p.by'] 26) := Blk.new w _ _
                clear h b0 hl HK0
                go_enter Tryz.func8, Tryz.ntmps8
                go_wp2
                go_ret
                exact ⟨rfl, HB0.out⟩
set_option maxRecDepth 100000 in
set_option maxHeartbeats 2000000 in
theorem rcheck_any (p : Pic) (v4 v5 v6 v7 v8 v9 v10 : Value) (w : World) (h : PV w p v4 v5 v6 v7 v8 v9 v10) (hl : Few p) :
    Calls Tryz.prog 10 #[.agg #[.int .i64 p.cp, .int .u64 (p.on : Int), .int .u64 (p.ac : Int), .int .u64 (p.pw : Int), v4, v5, v6, v7, v8, v9, v10, .bool p.bu, .bool p.up, .int .i64 p.cc, .int .i64 p.by']] w fun e w' => e = .returned (.tuple #[.int .i64 (ck p), .int .i64 (ce p)]) ∧ Below w.heap.size w w' := by
  have b0 : Below w.heap.size w (w.alloc (.cells #[.int .i64 p.cp, .int .u64 (p.on : Int), .int .u64 (p.ac : Int), .int .u64 (p.pw : Int), v4, v5, v6, v7, v8, v9, v10, .bool p.bu, .bool p.up, .int .i64 p.cc, .int .i64 p.by'] 26)) := (Below.refl _ _).alloc (Nat.le_refl _) _
  have HH : Hid (PV w p v4 v5 v6 v7 v8 v9 v10) := h
  have HL : Hid (Few p) := hl
  have HB0 : Hid (Below w.heap.size w (w.alloc (.cells #[.int .i64 p.cp, .int .u64 (p.on : Int), .int .u64 (p.ac : Int), .int .u64 (p.pw : Int), v4, v5, v6, v7, v8, v9, v10, .bool p.bu, .bool p.up, .int .i64 p.cc, .int .i64 p.by'] 26))) := b0
  have HK0 : Hid (Blk (w.alloc (.cells #[.int .i64 p.cp, .int .u64 (p.on : Int), .int .u64 (p.ac : Int), .int .u64 (p.pw : Int), v4, v5, v6, v7, v8, v9, v10, .bool p.bu, .bool p.up, .int .i64 p.cc, .int .i64 p.by'] 26)) w.heap.size [.int .i64 p.cp, .int .u64 (p.on : Int), .int .u64 (p.ac : Int), .int .u64 (p.pw : Int), v4, v5, v6, v7, v8, v9, v10, .bool p.bu, .bool p.up, .int .i64 p.cc, .int .i64 p.by'] 26) := Blk.new w _ _
  clear h hl b0
  go_enter Tryz.func10, Tryz.ntmps10
  go_wp2
  go_loopw [4] (fun i wr => ∃ (k : Nat), (k : Int) ≤ 7 ∧ Hid (Below w.heap.size w wr ∧ Blk wr w.heap.size [.int .i64 p.cp, .int .u64 (p.on : Int), .int .u64 (p.ac : Int), .int .u64 (p.pw : Int), v4, v5, v6, v7, v8, v9, v10, .bool p.bu, .bool p.up, .int .i64 p.cc, .int .i64 p.by'] 26 ∧ ck p = chk p ((k + 1 : Nat) : Int) (7 - k)) ∧ i = .int .i64 ((k + 1 : Nat) : Int)) (fun i _ => 9 - (intOf i).toNat)
  case atStart => exact ⟨0, by omega, ⟨HB0.out, HK0.out, rfl⟩, rfl⟩
  case round =>
    obtain ⟨k, hk, hm, rfl⟩ := hrel
    by_cases e : (k : Int) < 7
    · have C : Hid (∀ _ : Unit, _) := fun _ => rrule_any p v4 v5 v6 v7 v8 v9 v10 ((k + 1 : Nat) : Int) wr (HH.out.below hm.out.1) HL.out
      have c0 := hm.out.2.1.cell 0
      have c1 := hm.out.2.1.cell 1
      have c2 := hm.out.2.1.cell 2
      have c3 := hm.out.2.1.cell 3
      have c4 := hm.out.2.1.cell 4
      have c5 := hm.out.2.1.cell 5
      have c6 := hm.out.2.1.cell 6
      have c7 := hm.out.2.1.cell 7
      have c8 := hm.out.2.1.cell 8
      have c9 := hm.out.2.1.cell 9
      have c10 := hm.out.2.1.cell 10
      have c11 := hm.out.2.1.cell 11
      have c12 := hm.out.2.1.cell 12
      have c13 := hm.out.2.1.cell 13
      have c14 := hm.out.2.1.cell 14
      simp only [List.getElem?_cons_zero, List.getElem?_cons_succ] at c0 c1 c2 c3 c4 c5 c6 c7 c8 c9 c10 c11 c12 c13 c14
      have M : Hid (Below w.heap.size w wr ∧ _) := ⟨hm.out.1, hm.out.2.1⟩
      have T : Hid (rule p ((k + 1 : Nat) : Int) = true → ck p = chk p ((k + 1 + 1 : Nat) : Int) (7 - (k + 1))) := fun q => hm.out.2.2.trans (chk_true p k (by omega) q)
      have F : Hid (rule p ((k + 1 : Nat) : Int) = false → ck p = ((k + 1 : Nat) : Int) ∧ ce p = 6) := fun q => by
        have q2 := hm.out.2.2.trans (chk_false p k (by omega) q)
        refine ⟨q2, ?_⟩
        unfold ce
        rw [if_neg (by omega)]
      have le : ((k + 1 : Nat) : Int) ≤ 7 := by omega
      obtain ⟨i, hi⟩ : ∃ i : Int, ((k + 1 : Nat) : Int) = i := ⟨_, rfl⟩
      have HI : Hid (((k + 1 : Nat) : Int) = i) := hi
      rw [hi] at C T F le ⊢
      clear hm hi
      cases hq : rule p i
      · rw [hq] at C
        have FQ : Hid (ck p = i ∧ ce p = 6) := F.out hq
        clear F T
        go_wp2_with fail
        refine (C.out ()).mono ?_
        rintro e w1 ⟨rfl, b1⟩
        have B1 : Hid (Below w.heap.size w w1) := M.out.1.trans (b1.mono M.out.1.size)
        clear b1 c0 c1 c2 c3 c4 c5 c6 c7 c8 c9 c10 c11 c12 c13 c14
        go_wp2
        go_ret2
        exact ⟨by rw [FQ.out.1, FQ.out.2]; rfl, B1.out⟩
      · rw [hq] at C
        go_wp2_with fail
        refine (C.out ()).mono ?_
        rintro e w1 ⟨rfl, b1⟩
        have B1 : Hid (Below w.heap.size w w1) := M.out.1.trans (b1.mono M.out.1.size)
        have K1 : Hid (Blk _ _ _ _) := M.out.2.keep (Fr.of_below b1) M.out.2.lt (by simp)
        have wi : IntKind.i64.wrap (i + 1) = ((k + 1 + 1 : Nat) : Int) := by have := HI.out; rw [wrs (by omega) (by omega)]; omega
        have TT := T.out hq
        have HT : Hid (ck p = _) := TT
        clear b1 c0 c1 c2 c3 c4 c5 c6 c7 c8 c9 c10 c11 c12 c13 c14 TT
        go_wp2
        go_roundw
        case rel => exact ⟨k + 1, by omega, ⟨B1.out, K1.out, HT.out⟩, by go_num⟩
        case measure => have := HI.out; simp [intOf]; omega
    · have e2 : k = 7 := by omega
      subst e2
      have z : ck p = 0 := hm.out.2.2
      have z2 : ce p = 0 := by unfold ce; rw [if_pos z]
      have B1 : Hid (Below w.heap.size w wr) := hm.out.1
      have FQ : Hid (ck p = 0 ∧ ce p = 0) := ⟨z, z2⟩
      clear hm z z2
      go_wp2
      go_ret2
      exact ⟨by rw [FQ.out.1, FQ.out.2]; rfl, B1.out⟩
end Go.Proofs.YtfdmcbcomknebaaGreatDoor.Aud
