/- Proved: for every number cpus and every list acts, davitlaw15.IrqPlays(cpus, acts) returns true: interrupts of any number of cores that are played with answer what the document says, and all interrupts are what it says (150 acts at most, as the law itself says), and acts is left alone; no condition. -/
import Derived.Test.YthhgmnkgeombhaaRows
import Derived.Test.YthhgmnkgeombhaaFo
import Derived.Test.YthhgmnkgeombhaaBd
import Derived.Test.YthhgmnkgeombhaaBk
import Derived.WalkKit
import Derived.ProofKit
import Derived.OpenShut
import Derived.Stop.Joined
import Derived.ShutString
import Derived.ChangeOld
import Derived.Below
import Derived.Carry
import Derived.Test.YthhgmnkgeombhaaFt
import Derived.Deep.RegionHeld3
import Derived.Deep.RegionHeldLaw
namespace Go.Proofs.Ythhgmnkgeombhaa.irqPlays
open Go.ChangeShapes Go.WideShapes Go.ChangeAt Go.RowKit
open Mm Bm
set_option linter.unusedVariables false
set_option linter.unusedSimpArgs false

theorem own : ownKnob Try.prog.godebug = none := by kernel_rfl
theorem laidOut : laidOutB Try.prog = true := by kernel_rfl

set_option maxRecDepth 100000 in
set_option maxHeartbeats 4000000 in
theorem walk (a0 : Int) (a1 : Option Addr) (len1 cap1 : Nat) (X1 : Nat → Nat → Int) (w : World) (w0 : (Lit.int .i64 a0).wf = true) (w1 : TRow w (.slice a1 len1 cap1) len1 [1, 1, 2] X1) (z1 : ∀ i, i < len1 → ∀ j, j < [1, 1, 2].length → kwf ([1, 1, 2].getD j 1) (X1 i j)) :
    Calls Try.prog 3 #[.int .i64 a0, .slice a1 len1 cap1] w fun e w' => e = .returned (.bool true) ∧ Below w.heap.size w w' := by
  have KN : Hid (∀ w1, _) := fun w1 => iqknown_yes w1
  by_cases wrong : a0 < 1 ∨ 64 < a0
  · have C : Hid (∀ w, _) := fun w => iqnew_bad a0 w wrong
    have D : Hid (∀ w, _) := fun w => rinew_bad a0 w wrong
    clear wrong w0 w1 z1
    go_enter Try.func3, Try.ntmps3
    go_wp2_with fail
    refine (C.out _).mono ?_
    rintro e u1 ⟨rfl, rfl⟩
    go_wp2_with fail
    refine (D.out _).mono ?_
    rintro e u2 ⟨rfl, rfl⟩
    go_wp2_with fail
    refine (KN.out _).mono ?_
    rintro e u3 ⟨rfl, hb⟩
    go_wp2
    go_ret
    exact ⟨rfl, hb⟩
  · obtain ⟨c, rfl⟩ := Int.eq_ofNat_of_zero_le (show 0 ≤ a0 by omega)
    have m1 : (1 : Int) ≤ c := by omega
    have m2 : (c : Int) ≤ 64 := by omega
    have C : Hid (∀ _ : Unit, _) := fun _ => iqnew_any c w m1 m2
    have D : Hid (∀ w1, _) := fun w1 => rinew_any c w1 m1 m2
    have HR : Hid (TRow w (.slice a1 len1 cap1) len1 [1, 1, 2] X1) := w1
    have HW : Hid (∀ i, i < len1 → kwf 2 (X1 i 2)) := fun i hi => z1 i hi 2 (by decide)
    obtain ⟨s, hsz⟩ : ∃ s, w.heap.size = s := ⟨_, rfl⟩
    have HS : Hid (w.heap.size = s) := hsz
    rw [hsz] at C ⊢
    clear wrong w0 w1 z1 hsz
    go_enter Try.func3, Try.ntmps3
    go_wp2_with fail
    refine (C.out ()).mono ?_
    rintro e u1 ⟨rfl, q1, f1, z1⟩
    have Q1 : Hid (IT u1 s c (fun _ => zi)) := q1
    have B1 : Hid (Below s w u1) := f1
    have D1 : Hid (∀ _ : Unit, _) := fun _ => D.out u1
    have hi1 : Hid (s < u1.heap.size) := q1.lt
    clear q1 f1 z1
    go_wp2_with fail
    refine (D1.out ()).mono ?_
    rintro e u2 ⟨rfl, r2, f2, -⟩
    have PP0 : Hid (BP w u2 s u1.heap.size c (fun _ => zi)) := ⟨Q1.out.below f2, r2, B1.out.trans (f2.mono (by have := hi1.out; omega)), hi1.out⟩
    clear r2 f2
    generalize u1.heap.size = g at *
    clear Q1 B1 D1 hi1
    go_wp2
    go_loopw [9] (fun i wr => ∃ (k : Nat) (X : Nat → Iq), (k : Int) ≤ 150 ∧ (k : Int) ≤ len1 ∧ BP w wr s g c X ∧ i = .int .i64 k) (fun i _ => 150 - (intOf i).toNat)
    case atStart => exact ⟨0, _, by omega, by omega, PP0.out, rfl⟩
    case round =>
      obtain ⟨k, X, hk, hk2, p, rfl⟩ := hrel
      clear PP0
      have HB : Hid (Below s w wr) := p.bel
      have hz : s ≤ wr.heap.size := by have := p.size; have := p.sg; omega
      have tail : (¬ (k : Int) < len1 ∧ decide ((k : Int) < len1) = false) ∨ ((k : Int) < len1 ∧ ¬ (k : Int) < 150) ∨ ((k : Int) < len1 ∧ (k : Int) < 150) := by
        by_cases h : (k : Int) < len1
        · by_cases h2 : (k : Int) < 150
          · exact Or.inr (Or.inr ⟨h, h2⟩)
          · exact Or.inr (Or.inl ⟨h, h2⟩)
        · exact Or.inl ⟨h, decide_eq_false h⟩
      rw [← or_assoc] at tail
      rcases tail with tail | ⟨h, h2⟩
      · clear p
        rcases tail with ⟨h, hd⟩ | ⟨h, h2⟩
        all_goals (
          go_wp2_with fail
          refine (KN.out _).mono ?_
          rintro e w4 ⟨rfl, f4⟩
          go_wp2
          go_ret
          exact ⟨rfl, HB.out.trans (f4.mono hz)⟩)
      · obtain ⟨b0, off, rfl, hA⟩ := trow_cell (wr := wr) HR.out (by rw [HS.out]; exact p.bel) h
        have x0 : wr.cell? ⟨b0, off + k * 3, none⟩ = some (.int .i64 (X1 k 0)) := hA 0 (by simp)
        have x1 : wr.cell? ⟨b0, off + k * 3 + 1, none⟩ = some (.int .i64 (X1 k 1)) := hA 1 (by simp)
        have x2 : wr.cell? ⟨b0, off + k * 3 + 2, none⟩ = some (.int .u64 (X1 k 2)) := hA 2 (by simp)
        have hw2 : (Lit.int .u64 (X1 k 2)).wf = true := HW.out k (by omega)
        clear hA
        generalize X1 k 0 = y0 at *
        generalize X1 k 1 = y1 at *
        generalize X1 k 2 = y2 at *
        obtain ⟨y2, rfl⟩ := Int.eq_ofNat_of_zero_le (show 0 ≤ y2 from (bounds_u64 hw2).1)
        have HY : Hid (y2 < 18446744073709551616) := by unfold Hid; have := (bounds_u64 hw2).2; omega
        have p0 := PZ.new p y0 y1 y2
        obtain ⟨z, hzz⟩ : ∃ z, wr.heap.size = z := ⟨_, rfl⟩
        have HZZ : Hid (wr.heap.size = z) := hzz
        obtain ⟨u0, hu0⟩ : ∃ u0, wr.alloc (.cells #[.int .i64 y0, .int .i64 y1, .int .u64 (y2 : Int)] 33) = u0 := ⟨_, rfl⟩
        have HU0 : Hid (wr.alloc (.cells #[.int .i64 y0, .int .i64 y1, .int .u64 (y2 : Int)] 33) = u0) := hu0
        rw [hu0, hzz] at p0
        have P0 : Hid (PZ w u0 s g c X z y0 y1 y2) := p0
        obtain ⟨i0, i1, i2⟩ := p0.cells
        clear p hw2 p0 hu0 hzz
        go_wp2_with fail
        rw [HU0.out, HZZ.out]
        go_region_held3 (fun w' => w'.cell? ⟨z, 0, none⟩ = some (.int .i64 y0) ∧ w'.cell? ⟨z, 1, none⟩ = some (.int .i64 y1) ∧ w'.cell? ⟨z, 2, none⟩ = some (.int .u64 (y2 : Int))) (go_keep)
          (first | (go_at_call 12; refine (pz_do HY.out P0.out ?_).mono ?_; exact ⟨rfl, rfl, rfl, rfl⟩; rintro e v1 ⟨rfl, X3, p1⟩; obtain ⟨k0, k1, k2⟩ := p1.cells; have P1 : Hid (PZ w v1 s g c X3 z y0 y1 y2) := p1; clear p1; obtain ⟨rb, hrb⟩ : ∃ rb, rdB X3 y1 = rb := ⟨_, rfl⟩; have HRB : Hid (rdB X3 y1 = rb) := hrb; have rb1 : (rb != rb) = false := (by simp); clear hrb) | (go_at_call 13; refine (pz_ready P1.out ?_).mono ?_; exact ⟨rfl, rfl, rfl, rfl⟩; rintro e v2 ⟨rfl, p2⟩; rw [HRB.out]; obtain ⟨l0, l1, l2⟩ := p2.cells; have P2 : Hid (PZ w v2 s g c X3 z y0 y1 y2) := p2; clear p2) | (go_at_call 14; refine (pz_rready P2.out ?_).mono ?_; exact ⟨rfl, rfl, rfl, rfl⟩; rintro e v3 ⟨rfl, p3⟩; rw [HRB.out]; obtain ⟨m0, m1, m2⟩ := p3.cells; have P3 : Hid (PZ w v3 s g c X3 z y0 y1 y2) := p3; clear p3) | (go_at_call 16; refine (pz_list P3.out ?_).mono ?_; exact ⟨rfl, rfl, rfl, rfl⟩; rintro e v4 ⟨a4, n4, c4, rfl, p4, r4⟩; obtain ⟨n0, n1, n2⟩ := p4.cells; have P4 : Hid (PZ w v4 s g c X3 z y0 y1 y2) := p4; have R4 : Hid (Row v4 (.slice a4 n4 c4) (KK (fun i => (X3 i).wt) 16)) := r4; clear p4 r4) | (go_at_call 17; refine (pz_rlist P4.out R4.out ?_).mono ?_; exact ⟨rfl, rfl, rfl, rfl⟩; rintro e v5 ⟨a5, n5, c5, rfl, p5, r5, t5⟩; obtain ⟨o0, o1, o2⟩ := p5.cells; have P5 : Hid (PZ w v5 s g c X3 z y0 y1 y2) := p5; have R5 : Hid (Row v5 (.slice a4 n4 c4) (KK (fun i => (X3 i).wt) 16)) := r5; have T5 : Hid (Row v5 (.slice a5 n5 c5) (KK (fun i => (X3 i).wt) 16)) := t5; clear p5 r5 t5) | (go_at_call 15; refine (pz_ints P5.out R5.out T5.out ?_).mono ?_; exact ⟨rfl, rfl, rfl, rfl⟩; rintro e v6 ⟨rfl, p6⟩; obtain ⟨r0, r1, r2⟩ := p6.cells; have P6 : Hid (PZ w v6 s g c X3 z y0 y1 y2) := p6; clear p6))
        clear P0 P1 P2 P3 P4 P5 R4 R5 T5 x0 x1 x2 i0 i1 i2 k0 k1 k2 l0 l1 l2 m0 m1 m2 n0 n1 n2 o0 o1 o2 HU0 HZZ HRB rb1
        have T3 : Hid (∀ w1 : World, Sm w1 v6 → _) := fun w1 e => pz_get (n := y1) P6.out e
        generalize ht6 : gtX X3 y1 = t at *
        have HT6 : Hid (gtX X3 y1 = t) := ht6
        clear ht6
        unfold iqv at T3
        go_wp2_with fail
        refine (T3.out _ ⟨rfl, rfl, rfl, rfl⟩).mono ?_
        rintro e u7 ⟨rfl, p7⟩
        have p8 := PX.new p7 t
        obtain ⟨u8, hu8⟩ : ∃ u8, u7.alloc (.cells #[.bool t.wt, .bool t.ms, .bool t.pd, .int .u64 (t.bs : Int)] 41) = u8 := ⟨_, rfl⟩
        have HU8 : Hid (u7.alloc (.cells #[.bool t.wt, .bool t.ms, .bool t.pd, .int .u64 (t.bs : Int)] 41) = u8) := hu8
        obtain ⟨x, hx7⟩ : ∃ x, u7.heap.size = x := ⟨_, rfl⟩
        have HX7 : Hid (u7.heap.size = x) := hx7
        rw [hu8, hx7] at p8
        have P8 : Hid (PX w u8 s g c X3 z y0 y1 y2 x t) := p8
        clear p7 T3 P6 r0 r1 r2 hu8 hx7
        cases eh : is y1 with
        | false =>
          have EH : Hid (is y1 = false) := eh
          rw [show atE y1 = 3 by unfold atE; rw [eh]; rfl]
          have c8 := p8.no
          clear p8 eh
          go_wp2_with fail
          rw [HU8.out, HX7.out]
          refine wp_region_held_drew (S := fun w' => w'.cell? ⟨z, 1, none⟩ = some (.int .i64 y1)) (by kernel_rfl) (by go_keep) (fun hHeld => ?_)
          refine wpAnyH_take (i := 0) (oi := { dst := some 81, op := Op.move (Operand.tmp 7), type := 27, pos := "law.go:74", after := #[], guard := none }) (v := ?va0) rfl (by kernel_rfl) (by kernel_rfl) (by kernel_rfl) (fun _ _ _ h => h) (Or.inl ⟨by rfl, ?ha0⟩) (by assumption) ?ra0
          case ha0 => (intro wz hSw; (try dsimp only at hSw); go_simp <;> with_reducible rfl)
          try simp only [Act.put, List.setIfInBounds_toArray, List.set_cons_zero, List.set_cons_succ]
          refine wpAnyH_take (i := 1) (oi := { dst := some 82, op := Op.fieldAddr 33 (Operand.tmp 10) 1, type := 0, pos := "law.go:74", after := #[], guard := none }) (v := ?va1) rfl (by kernel_rfl) (by kernel_rfl) (by kernel_rfl) (fun _ _ _ h => h) (Or.inl ⟨by rfl, ?ha1⟩) (by assumption) ?ra1
          case ha1 => (intro wz hSw; (try dsimp only at hSw); go_simp <;> with_reducible rfl)
          try simp only [Act.put, List.setIfInBounds_toArray, List.set_cons_zero, List.set_cons_succ]
          refine wpAnyH_take (i := 2) (oi := { dst := some 83, op := Op.load 3 (Operand.tmp 82), type := 3, pos := "law.go:74", after := #[{ on := 1, ground := Ground.data }], guard := none }) (v := ?va2) rfl (by kernel_rfl) (by kernel_rfl) (by kernel_rfl) (fun _ _ _ h => h) (Or.inl ⟨by rfl, ?ha2⟩) (by assumption) ?ra2
          case ha2 => (intro wz hSw; (try dsimp only at hSw); go_simp <;> with_reducible rfl)
          try simp only [Act.put, List.setIfInBounds_toArray, List.set_cons_zero, List.set_cons_succ]
          refine wpAnyH_take (i := 4) (oi := { dst := some 85, op := Op.move (Operand.tmp 12), type := 24, pos := "law.go:74", after := #[], guard := none }) (v := ?va4) rfl (by kernel_rfl) (by kernel_rfl) (by kernel_rfl) (fun _ _ _ h => h) (Or.inl ⟨by rfl, ?ha4⟩) (by assumption) ?ra4
          case ha4 => (intro wz hSw; (try dsimp only at hSw); go_simp <;> with_reducible rfl)
          try simp only [Act.put, List.setIfInBounds_toArray, List.set_cons_zero, List.set_cons_succ]
          refine wpAnyH_take (i := 5) (oi := { dst := some 86, op := Op.binOp BinOp.eql 24 (Operand.tmp 85) (Operand.const (Value.int IntKind.i64 0)) 24, type := 4, pos := "law.go:74", after := #[{ on := 4, ground := Ground.data }], guard := none }) (v := ?va5) rfl (by kernel_rfl) (by kernel_rfl) (by kernel_rfl) (fun _ _ _ h => h) (Or.inl ⟨by rfl, ?ha5⟩) (by assumption) ?ra5
          case ha5 => (intro wz hSw; (try dsimp only at hSw); go_simp <;> with_reducible rfl)
          try simp only [Act.put, List.setIfInBounds_toArray, List.set_cons_zero, List.set_cons_succ]
          refine wpAnyH_ready (rs := [3]) (by kernel_rfl) (by simp) ?_
          refine AllReadyH.cons (o := { dst := some 84, op := Op.call { callee := Callee.value (Operand.func 19), args := #[Operand.tmp 81, Operand.tmp 83], argTypes := #[27, 3] }, type := 4, pos := "law.go:74", after := #[{ on := 0, ground := Ground.data }, { on := 2, ground := Ground.data }], guard := none }) rfl (fun K hK => ?_) AllReadyH.nil
          go_simp
          refine (px_is P8.out ?_).mono ?_
          · exact ⟨rfl, rfl, rfl, rfl⟩
          rintro e pa ⟨rfl, p⟩
          rw [EH.out]
          have cPA := p.no
          have PA : Hid (PX w pa s g c X3 z y0 y1 y2 x t) := p
          clear p
          (try go_wp2_with fail)
          refine hK.out _ _ ?sa3 (fun hHeld => ?ta3)
          case sa3 => go_keep
          clear hK K
          try simp only [Act.put, List.setIfInBounds_toArray, List.set_cons_zero, List.set_cons_succ]
          refine wpAnyH_take (i := 6) (oi := { dst := some 87, op := Op.binOp BinOp.neq 4 (Operand.tmp 84) (Operand.tmp 86) 4, type := 4, pos := "law.go:74", after := #[{ on := 3, ground := Ground.data }, { on := 5, ground := Ground.data }], guard := none }) (v := ?va6) rfl (by kernel_rfl) (by kernel_rfl) (by kernel_rfl) (fun _ _ _ h => h) (Or.inl ⟨by rfl, ?ha6⟩) (by assumption) ?ra6
          case ha6 => (intro wz hSw; (try dsimp only at hSw); go_simp <;> with_reducible rfl)
          try simp only [Act.put, List.setIfInBounds_toArray, List.set_cons_zero, List.set_cons_succ]
          refine wpAnyH_take (i := 7) (oi := { dst := some 88, op := Op.move (Operand.tmp 87), type := 4, pos := "law.go:74", after := #[{ on := 6, ground := Ground.data }, { on := 3, ground := Ground.chain }], guard := none }) (v := ?va7) rfl (by kernel_rfl) (by kernel_rfl) (by kernel_rfl) (fun _ _ _ h => h) (Or.inl ⟨by rfl, ?ha7⟩) (by assumption) ?ra7
          case ha7 => (intro wz hSw; (try dsimp only at hSw); go_simp <;> with_reducible rfl)
          try simp only [Act.put, List.setIfInBounds_toArray, List.set_cons_zero, List.set_cons_succ]
          refine wpAnyH_take (i := 8) (oi := { dst := some 89, op := Op.move (Operand.tmp 7), type := 27, pos := "law.go:74", after := #[{ on := 7, ground := Ground.guard }], guard := some (7, false) }) (v := ?va8) rfl (by kernel_rfl) (by kernel_rfl) (by kernel_rfl) (fun _ _ _ h => h) (Or.inl ⟨by rfl, ?ha8⟩) (by assumption) ?ra8
          case ha8 => (intro wz hSw; (try dsimp only at hSw); go_simp <;> with_reducible rfl)
          try simp only [Act.put, List.setIfInBounds_toArray, List.set_cons_zero, List.set_cons_succ]
          refine wpAnyH_take (i := 9) (oi := { dst := some 90, op := Op.fieldAddr 33 (Operand.tmp 10) 1, type := 0, pos := "law.go:74", after := #[{ on := 7, ground := Ground.guard }], guard := some (7, false) }) (v := ?va9) rfl (by kernel_rfl) (by kernel_rfl) (by kernel_rfl) (fun _ _ _ h => h) (Or.inl ⟨by rfl, ?ha9⟩) (by assumption) ?ra9
          case ha9 => (intro wz hSw; (try dsimp only at hSw); go_simp <;> with_reducible rfl)
          try simp only [Act.put, List.setIfInBounds_toArray, List.set_cons_zero, List.set_cons_succ]
          refine wpAnyH_take (i := 10) (oi := { dst := some 91, op := Op.load 3 (Operand.tmp 90), type := 3, pos := "law.go:74", after := #[{ on := 9, ground := Ground.data }, { on := 7, ground := Ground.guard }], guard := some (7, false) }) (v := ?va10) rfl (by kernel_rfl) (by kernel_rfl) (by kernel_rfl) (fun _ _ _ h => h) (Or.inl ⟨by rfl, ?ha10⟩) (by assumption) ?ra10
          case ha10 => (intro wz hSw; (try dsimp only at hSw); go_simp <;> with_reducible rfl)
          try simp only [Act.put, List.setIfInBounds_toArray, List.set_cons_zero, List.set_cons_succ]
          refine wpAnyH_ready (rs := [11]) (by kernel_rfl) (by simp) ?_
          refine AllReadyH.cons (o := { dst := some 92, op := Op.call { callee := Callee.value (Operand.func 19), args := #[Operand.tmp 89, Operand.tmp 91], argTypes := #[27, 3] }, type := 4, pos := "law.go:74", after := #[{ on := 8, ground := Ground.data }, { on := 10, ground := Ground.data }, { on := 7, ground := Ground.chain }, { on := 7, ground := Ground.guard }], guard := some (7, false) }) rfl (fun K hK => ?_) AllReadyH.nil
          go_simp
          refine (px_is PA.out ?_).mono ?_
          · exact ⟨rfl, rfl, rfl, rfl⟩
          rintro e pb ⟨rfl, p⟩
          rw [EH.out]
          have cPB := p.no
          have PB : Hid (PX w pb s g c X3 z y0 y1 y2 x t) := p
          clear p
          (try go_wp2_with fail)
          refine hK.out _ _ ?sa11 (fun hHeld => ?ta11)
          case sa11 => go_keep
          clear hK K
          try simp only [Act.put, List.setIfInBounds_toArray, List.set_cons_zero, List.set_cons_succ]
          refine wpAnyH_take (i := 12) (oi := { dst := some 93, op := Op.move (Operand.tmp 92), type := 4, pos := "law.go:74", after := #[{ on := 11, ground := Ground.data }, { on := 11, ground := Ground.chain }, { on := 7, ground := Ground.guard }], guard := some (7, false) }) (v := ?va12) rfl (by kernel_rfl) (by kernel_rfl) (by kernel_rfl) (fun _ _ _ h => h) (Or.inl ⟨by rfl, ?ha12⟩) (by assumption) ?ra12
          case ha12 => (intro wz hSw; (try dsimp only at hSw); go_simp <;> with_reducible rfl)
          try simp only [Act.put, List.setIfInBounds_toArray, List.set_cons_zero, List.set_cons_succ]
          refine wpAnyH_take (i := 13) (oi := { dst := some 94, op := Op.load 41 (Operand.tmp 11), type := 41, pos := "law.go:74", after := #[{ on := 12, ground := Ground.guard }], guard := some (12, true) }) (v := undef) rfl (by kernel_rfl) (by kernel_rfl) (by kernel_rfl) (fun _ _ _ h => h) (Or.inr ⟨by rfl, rfl⟩) (by assumption) ?_
          try simp only [Act.put, List.setIfInBounds_toArray, List.set_cons_zero, List.set_cons_succ]
          refine wpAnyH_take (i := 14) (oi := { dst := some 95, op := Op.move (Operand.tmp 7), type := 27, pos := "law.go:74", after := #[{ on := 12, ground := Ground.guard }], guard := some (12, true) }) (v := undef) rfl (by kernel_rfl) (by kernel_rfl) (by kernel_rfl) (fun _ _ _ h => h) (Or.inr ⟨by rfl, rfl⟩) (by assumption) ?_
          try simp only [Act.put, List.setIfInBounds_toArray, List.set_cons_zero, List.set_cons_succ]
          refine wpAnyH_take (i := 15) (oi := { dst := some 96, op := Op.nilCheck (Operand.tmp 95), type := 0, pos := "law.go:74", after := #[{ on := 14, ground := Ground.data }, { on := 12, ground := Ground.guard }], guard := some (12, true) }) (v := undef) rfl (by kernel_rfl) (by kernel_rfl) (by kernel_rfl) (fun _ _ _ h => h) (Or.inr ⟨by rfl, rfl⟩) (by assumption) ?_
          try simp only [Act.put, List.setIfInBounds_toArray, List.set_cons_zero, List.set_cons_succ]
          refine wpAnyH_take (i := 16) (oi := { dst := some 97, op := Op.fieldAddr 49 (Operand.tmp 96) 1, type := 0, pos := "law.go:74", after := #[{ on := 15, ground := Ground.data }, { on := 12, ground := Ground.guard }], guard := some (12, true) }) (v := undef) rfl (by kernel_rfl) (by kernel_rfl) (by kernel_rfl) (fun _ _ _ h => h) (Or.inr ⟨by rfl, rfl⟩) (by assumption) ?_
          try simp only [Act.put, List.setIfInBounds_toArray, List.set_cons_zero, List.set_cons_succ]
          refine wpAnyH_take (i := 17) (oi := { dst := some 98, op := Op.load 47 (Operand.tmp 97), type := 47, pos := "law.go:74", after := #[{ on := 16, ground := Ground.data }, { on := 12, ground := Ground.guard }], guard := some (12, true) }) (v := undef) rfl (by kernel_rfl) (by kernel_rfl) (by kernel_rfl) (fun _ _ _ h => h) (Or.inr ⟨by rfl, rfl⟩) (by assumption) ?_
          try simp only [Act.put, List.setIfInBounds_toArray, List.set_cons_zero, List.set_cons_succ]
          refine wpAnyH_take (i := 18) (oi := { dst := some 99, op := Op.fieldAddr 33 (Operand.tmp 10) 1, type := 0, pos := "law.go:74", after := #[{ on := 12, ground := Ground.guard }], guard := some (12, true) }) (v := undef) rfl (by kernel_rfl) (by kernel_rfl) (by kernel_rfl) (fun _ _ _ h => h) (Or.inr ⟨by rfl, rfl⟩) (by assumption) ?_
          try simp only [Act.put, List.setIfInBounds_toArray, List.set_cons_zero, List.set_cons_succ]
          refine wpAnyH_take (i := 19) (oi := { dst := some 100, op := Op.load 3 (Operand.tmp 99), type := 3, pos := "law.go:74", after := #[{ on := 18, ground := Ground.data }, { on := 12, ground := Ground.guard }], guard := some (12, true) }) (v := undef) rfl (by kernel_rfl) (by kernel_rfl) (by kernel_rfl) (fun _ _ _ h => h) (Or.inr ⟨by rfl, rfl⟩) (by assumption) ?_
          try simp only [Act.put, List.setIfInBounds_toArray, List.set_cons_zero, List.set_cons_succ]
          refine wpAnyH_take (i := 20) (oi := { dst := some 101, op := Op.indexAddr 47 (Operand.tmp 98) (Operand.tmp 100), type := 0, pos := "law.go:74", after := #[{ on := 17, ground := Ground.data }, { on := 19, ground := Ground.data }, { on := 12, ground := Ground.guard }], guard := some (12, true) }) (v := undef) rfl (by kernel_rfl) (by kernel_rfl) (by kernel_rfl) (fun _ _ _ h => h) (Or.inr ⟨by rfl, rfl⟩) (by assumption) ?_
          try simp only [Act.put, List.setIfInBounds_toArray, List.set_cons_zero, List.set_cons_succ]
          refine wpAnyH_take (i := 21) (oi := { dst := some 102, op := Op.load 46 (Operand.tmp 101), type := 46, pos := "law.go:74", after := #[{ on := 20, ground := Ground.data }, { on := 12, ground := Ground.guard }], guard := some (12, true) }) (v := undef) rfl (by kernel_rfl) (by kernel_rfl) (by kernel_rfl) (fun _ _ _ h => h) (Or.inr ⟨by rfl, rfl⟩) (by assumption) ?_
          try simp only [Act.put, List.setIfInBounds_toArray, List.set_cons_zero, List.set_cons_succ]
          refine wpAnyH_take (i := 22) (oi := { dst := some 103, op := Op.call { callee := Callee.value (Operand.func 20), args := #[Operand.tmp 94, Operand.tmp 102], argTypes := #[41, 46] }, type := 4, pos := "law.go:74", after := #[{ on := 13, ground := Ground.data }, { on := 21, ground := Ground.data }, { on := 12, ground := Ground.chain }, { on := 12, ground := Ground.guard }], guard := some (12, true) }) (v := undef) rfl (by kernel_rfl) (by kernel_rfl) (by kernel_rfl) (fun _ _ _ h => h) (Or.inr ⟨by rfl, rfl⟩) (by assumption) ?_
          try simp only [Act.put, List.setIfInBounds_toArray, List.set_cons_zero, List.set_cons_succ]
          refine wpAnyH_take (i := 23) (oi := { dst := some 104, op := Op.unOp UnOp.not 4 (Operand.tmp 103), type := 4, pos := "law.go:74", after := #[{ on := 22, ground := Ground.data }, { on := 12, ground := Ground.guard }], guard := some (12, true) }) (v := undef) rfl (by kernel_rfl) (by kernel_rfl) (by kernel_rfl) (fun _ _ _ h => h) (Or.inr ⟨by rfl, rfl⟩) (by assumption) ?_
          try simp only [Act.put, List.setIfInBounds_toArray, List.set_cons_zero, List.set_cons_succ]
          refine wpAnyH_take (i := 24) (oi := { dst := some 105, op := Op.pick (Operand.tmp 93) (Operand.tmp 104) (Operand.const (Value.bool false)), type := 4, pos := "law.go:74", after := #[{ on := 12, ground := Ground.data }, { on := 23, ground := Ground.data }, { on := 7, ground := Ground.guard }], guard := some (7, false) }) (v := ?va24) rfl (by kernel_rfl) (by kernel_rfl) (by kernel_rfl) (fun _ _ _ h => h) (Or.inl ⟨by rfl, ?ha24⟩) (by assumption) ?ra24
          case ha24 => (intro wz hSw; (try dsimp only at hSw); go_simp <;> with_reducible rfl)
          try simp only [Act.put, List.setIfInBounds_toArray, List.set_cons_zero, List.set_cons_succ]
          refine wpAnyH_take (i := 25) (oi := { dst := some 106, op := Op.pick (Operand.tmp 88) (Operand.const (Value.bool true)) (Operand.tmp 105), type := 4, pos := "law.go:74", after := #[{ on := 7, ground := Ground.data }, { on := 24, ground := Ground.data }], guard := none }) (v := ?va25) rfl (by kernel_rfl) (by kernel_rfl) (by kernel_rfl) (fun _ _ _ h => h) (Or.inl ⟨by rfl, ?ha25⟩) (by assumption) ?ra25
          case ha25 => (intro wz hSw; (try dsimp only at hSw); go_simp <;> with_reducible rfl)
          try simp only [Act.put, List.setIfInBounds_toArray, List.set_cons_zero, List.set_cons_succ]
          refine wpAnyH_take (i := 26) (oi := { dst := some 107, op := Op.move (Operand.tmp 106), type := 4, pos := "law.go:74", after := #[{ on := 25, ground := Ground.data }, { on := 22, ground := Ground.chain }], guard := none }) (v := ?va26) rfl (by kernel_rfl) (by kernel_rfl) (by kernel_rfl) (fun _ _ _ h => h) (Or.inl ⟨by rfl, ?ha26⟩) (by assumption) ?ra26
          case ha26 => (intro wz hSw; (try dsimp only at hSw); go_simp <;> with_reducible rfl)
          try simp only [Act.put, List.setIfInBounds_toArray, List.set_cons_zero, List.set_cons_succ]
          refine wpAnyH_take (i := 27) (oi := { dst := some 108, op := Op.move (Operand.tmp 7), type := 27, pos := "law.go:74", after := #[{ on := 26, ground := Ground.guard }], guard := some (26, false) }) (v := ?va27) rfl (by kernel_rfl) (by kernel_rfl) (by kernel_rfl) (fun _ _ _ h => h) (Or.inl ⟨by rfl, ?ha27⟩) (by assumption) ?ra27
          case ha27 => (intro wz hSw; (try dsimp only at hSw); go_simp <;> with_reducible rfl)
          try simp only [Act.put, List.setIfInBounds_toArray, List.set_cons_zero, List.set_cons_succ]
          refine wpAnyH_take (i := 28) (oi := { dst := some 109, op := Op.fieldAddr 33 (Operand.tmp 10) 1, type := 0, pos := "law.go:74", after := #[{ on := 26, ground := Ground.guard }], guard := some (26, false) }) (v := ?va28) rfl (by kernel_rfl) (by kernel_rfl) (by kernel_rfl) (fun _ _ _ h => h) (Or.inl ⟨by rfl, ?ha28⟩) (by assumption) ?ra28
          case ha28 => (intro wz hSw; (try dsimp only at hSw); go_simp <;> with_reducible rfl)
          try simp only [Act.put, List.setIfInBounds_toArray, List.set_cons_zero, List.set_cons_succ]
          refine wpAnyH_take (i := 29) (oi := { dst := some 110, op := Op.load 3 (Operand.tmp 109), type := 3, pos := "law.go:74", after := #[{ on := 28, ground := Ground.data }, { on := 26, ground := Ground.guard }], guard := some (26, false) }) (v := ?va29) rfl (by kernel_rfl) (by kernel_rfl) (by kernel_rfl) (fun _ _ _ h => h) (Or.inl ⟨by rfl, ?ha29⟩) (by assumption) ?ra29
          case ha29 => (intro wz hSw; (try dsimp only at hSw); go_simp <;> with_reducible rfl)
          try simp only [Act.put, List.setIfInBounds_toArray, List.set_cons_zero, List.set_cons_succ]
          refine wpAnyH_ready (rs := [30]) (by kernel_rfl) (by simp) ?_
          refine AllReadyH.cons (o := { dst := some 111, op := Op.call { callee := Callee.value (Operand.func 19), args := #[Operand.tmp 108, Operand.tmp 110], argTypes := #[27, 3] }, type := 4, pos := "law.go:74", after := #[{ on := 27, ground := Ground.data }, { on := 29, ground := Ground.data }, { on := 26, ground := Ground.chain }, { on := 26, ground := Ground.guard }], guard := some (26, false) }) rfl (fun K hK => ?_) AllReadyH.nil
          go_simp
          refine (px_is PB.out ?_).mono ?_
          · exact ⟨rfl, rfl, rfl, rfl⟩
          rintro e pe ⟨rfl, p⟩
          rw [EH.out]
          have cPE := p.no
          have PE : Hid (PX w pe s g c X3 z y0 y1 y2 x t) := p
          clear p
          (try go_wp2_with fail)
          refine hK.out _ _ ?sa30 (fun hHeld => ?ta30)
          case sa30 => go_keep
          clear hK K
          try simp only [Act.put, List.setIfInBounds_toArray, List.set_cons_zero, List.set_cons_succ]
          refine wpAnyH_take (i := 31) (oi := { dst := some 112, op := Op.unOp UnOp.not 4 (Operand.tmp 111), type := 4, pos := "law.go:74", after := #[{ on := 30, ground := Ground.data }, { on := 26, ground := Ground.guard }], guard := some (26, false) }) (v := ?va31) rfl (by kernel_rfl) (by kernel_rfl) (by kernel_rfl) (fun _ _ _ h => h) (Or.inl ⟨by rfl, ?ha31⟩) (by assumption) ?ra31
          case ha31 => (intro wz hSw; (try dsimp only at hSw); go_simp <;> with_reducible rfl)
          try simp only [Act.put, List.setIfInBounds_toArray, List.set_cons_zero, List.set_cons_succ]
          refine wpAnyH_take (i := 32) (oi := { dst := some 113, op := Op.move (Operand.tmp 112), type := 4, pos := "law.go:74", after := #[{ on := 31, ground := Ground.data }, { on := 30, ground := Ground.chain }, { on := 26, ground := Ground.guard }], guard := some (26, false) }) (v := ?va32) rfl (by kernel_rfl) (by kernel_rfl) (by kernel_rfl) (fun _ _ _ h => h) (Or.inl ⟨by rfl, ?ha32⟩) (by assumption) ?ra32
          case ha32 => (intro wz hSw; (try dsimp only at hSw); go_simp <;> with_reducible rfl)
          try simp only [Act.put, List.setIfInBounds_toArray, List.set_cons_zero, List.set_cons_succ]
          refine wpAnyH_take (i := 33) (oi := { dst := some 114, op := Op.move (Operand.tmp 12), type := 24, pos := "law.go:74", after := #[{ on := 32, ground := Ground.guard }], guard := some (32, true) }) (v := ?va33) rfl (by kernel_rfl) (by kernel_rfl) (by kernel_rfl) (fun _ _ _ h => h) (Or.inl ⟨by rfl, ?ha33⟩) (by assumption) ?ra33
          case ha33 => (intro wz hSw; (try dsimp only at hSw); go_simp <;> with_reducible rfl)
          try simp only [Act.put, List.setIfInBounds_toArray, List.set_cons_zero, List.set_cons_succ]
          refine wpAnyH_take (i := 34) (oi := { dst := some 115, op := Op.binOp BinOp.neq 24 (Operand.tmp 114) (Operand.const (Value.int IntKind.i64 3)) 24, type := 4, pos := "law.go:74", after := #[{ on := 33, ground := Ground.data }, { on := 32, ground := Ground.guard }], guard := some (32, true) }) (v := ?va34) rfl (by kernel_rfl) (by kernel_rfl) (by kernel_rfl) (fun _ _ _ h => h) (Or.inl ⟨by rfl, ?ha34⟩) (by assumption) ?ra34
          case ha34 => (intro wz hSw; (try dsimp only at hSw); go_simp <;> with_reducible rfl)
          try simp only [Act.put, List.setIfInBounds_toArray, List.set_cons_zero, List.set_cons_succ]
          refine wpAnyH_take (i := 35) (oi := { dst := some 116, op := Op.pick (Operand.tmp 113) (Operand.tmp 115) (Operand.const (Value.bool false)), type := 4, pos := "law.go:74", after := #[{ on := 32, ground := Ground.data }, { on := 34, ground := Ground.data }, { on := 26, ground := Ground.guard }], guard := some (26, false) }) (v := ?va35) rfl (by kernel_rfl) (by kernel_rfl) (by kernel_rfl) (fun _ _ _ h => h) (Or.inl ⟨by rfl, ?ha35⟩) (by assumption) ?ra35
          case ha35 => (intro wz hSw; (try dsimp only at hSw); go_simp <;> with_reducible rfl)
          try simp only [Act.put, List.setIfInBounds_toArray, List.set_cons_zero, List.set_cons_succ]
          refine wpAnyH_take (i := 36) (oi := { dst := some 117, op := Op.pick (Operand.tmp 107) (Operand.const (Value.bool true)) (Operand.tmp 116), type := 4, pos := "law.go:74", after := #[{ on := 26, ground := Ground.data }, { on := 35, ground := Ground.data }], guard := none }) (v := ?va36) rfl (by kernel_rfl) (by kernel_rfl) (by kernel_rfl) (fun _ _ _ h => h) (Or.inl ⟨by rfl, ?ha36⟩) (by assumption) ?ra36
          case ha36 => (intro wz hSw; (try dsimp only at hSw); go_simp <;> with_reducible rfl)
          try simp only [Act.put, List.setIfInBounds_toArray, List.set_cons_zero, List.set_cons_succ]
          refine wpAnyH_done (by kernel_rfl) ?_ _
          go_wp2
          go_roundw
          case rel => exact ⟨k + 1, X3, by omega, by omega, PE.out.pz.bp.sm ⟨rfl, rfl, rfl, rfl⟩, by go_num⟩
          case measure => simp [intOf]; omega
        | true =>
          have EH : Hid (is y1 = true) := eh
          rw [show atE y1 = 0 by unfold atE; rw [eh]; rfl]
          obtain ⟨i, hi, rfl, e2⟩ := is_some eh
          have et : Hid (X3 i = t) := by unfold Hid; rw [← HT6.out]; unfold gtX; rw [eh, e2]; rfl
          have HI : Hid (i < 16) := hi
          have hi2 : (i : Int) < 16 := by omega
          obtain ⟨c0, c1, c2, c3, c4, c5, c6, c7, c8, c9⟩ := p8.yes hi et.out
          clear p8 eh e2 HT6
          go_wp2_with fail
          rw [HU8.out, HX7.out]
          refine wp_region_held_drew (S := fun w' => w'.cell? ⟨z, 1, none⟩ = some (.int .i64 (i : Int)) ∧ w'.cell? ⟨x, 0, none⟩ = some (.bool t.wt) ∧ w'.cell? ⟨x, 1, none⟩ = some (.bool t.ms) ∧ w'.cell? ⟨x, 2, none⟩ = some (.bool t.pd) ∧ w'.cell? ⟨x, 3, none⟩ = some (.int .u64 (t.bs : Int)) ∧ w'.cell? ⟨g + 1, 1, none⟩ = some (.slice (some ⟨g, 0, none⟩) 16 16) ∧ w'.cell? ⟨g, i * 4, none⟩ = some (.bool t.wt) ∧ w'.cell? ⟨g, i * 4 + 1, none⟩ = some (.bool t.ms) ∧ w'.cell? ⟨g, i * 4 + 2, none⟩ = some (.bool t.pd) ∧ w'.cell? ⟨g, i * 4 + 3, none⟩ = some (.int .u64 (t.bs : Int))) (by kernel_rfl) (by go_keep) (fun hHeld => ?_)
          refine wpAnyH_take (i := 0) (oi := { dst := some 81, op := Op.move (Operand.tmp 7), type := 27, pos := "law.go:74", after := #[], guard := none }) (v := ?vb0) rfl (by kernel_rfl) (by kernel_rfl) (by kernel_rfl) (fun _ _ _ h => h) (Or.inl ⟨by rfl, ?hb0⟩) (by assumption) ?rb0
          case hb0 => (intro wz hSw; (try dsimp only at hSw); go_simp <;> with_reducible rfl)
          try simp only [Act.put, List.setIfInBounds_toArray, List.set_cons_zero, List.set_cons_succ]
          refine wpAnyH_take (i := 1) (oi := { dst := some 82, op := Op.fieldAddr 33 (Operand.tmp 10) 1, type := 0, pos := "law.go:74", after := #[], guard := none }) (v := ?vb1) rfl (by kernel_rfl) (by kernel_rfl) (by kernel_rfl) (fun _ _ _ h => h) (Or.inl ⟨by rfl, ?hb1⟩) (by assumption) ?rb1
          case hb1 => (intro wz hSw; (try dsimp only at hSw); go_simp <;> with_reducible rfl)
          try simp only [Act.put, List.setIfInBounds_toArray, List.set_cons_zero, List.set_cons_succ]
          refine wpAnyH_take (i := 2) (oi := { dst := some 83, op := Op.load 3 (Operand.tmp 82), type := 3, pos := "law.go:74", after := #[{ on := 1, ground := Ground.data }], guard := none }) (v := ?vb2) rfl (by kernel_rfl) (by kernel_rfl) (by kernel_rfl) (fun _ _ _ h => h) (Or.inl ⟨by rfl, ?hb2⟩) (by assumption) ?rb2
          case hb2 => (intro wz hSw; (try dsimp only at hSw); go_simp <;> with_reducible rfl)
          try simp only [Act.put, List.setIfInBounds_toArray, List.set_cons_zero, List.set_cons_succ]
          refine wpAnyH_take (i := 4) (oi := { dst := some 85, op := Op.move (Operand.tmp 12), type := 24, pos := "law.go:74", after := #[], guard := none }) (v := ?vb4) rfl (by kernel_rfl) (by kernel_rfl) (by kernel_rfl) (fun _ _ _ h => h) (Or.inl ⟨by rfl, ?hb4⟩) (by assumption) ?rb4
          case hb4 => (intro wz hSw; (try dsimp only at hSw); go_simp <;> with_reducible rfl)
          try simp only [Act.put, List.setIfInBounds_toArray, List.set_cons_zero, List.set_cons_succ]
          refine wpAnyH_take (i := 5) (oi := { dst := some 86, op := Op.binOp BinOp.eql 24 (Operand.tmp 85) (Operand.const (Value.int IntKind.i64 0)) 24, type := 4, pos := "law.go:74", after := #[{ on := 4, ground := Ground.data }], guard := none }) (v := ?vb5) rfl (by kernel_rfl) (by kernel_rfl) (by kernel_rfl) (fun _ _ _ h => h) (Or.inl ⟨by rfl, ?hb5⟩) (by assumption) ?rb5
          case hb5 => (intro wz hSw; (try dsimp only at hSw); go_simp <;> with_reducible rfl)
          try simp only [Act.put, List.setIfInBounds_toArray, List.set_cons_zero, List.set_cons_succ]
          refine wpAnyH_ready (rs := [3]) (by kernel_rfl) (by simp) ?_
          refine AllReadyH.cons (o := { dst := some 84, op := Op.call { callee := Callee.value (Operand.func 19), args := #[Operand.tmp 81, Operand.tmp 83], argTypes := #[27, 3] }, type := 4, pos := "law.go:74", after := #[{ on := 0, ground := Ground.data }, { on := 2, ground := Ground.data }], guard := none }) rfl (fun K hK => ?_) AllReadyH.nil
          go_simp
          refine (px_is P8.out ?_).mono ?_
          · exact ⟨rfl, rfl, rfl, rfl⟩
          rintro e pa ⟨rfl, p⟩
          rw [EH.out]
          obtain ⟨c0PA, c1PA, c2PA, c3PA, c4PA, c5PA, c6PA, c7PA, c8PA, c9PA⟩ := p.yes HI.out et.out
          have PA : Hid (PX w pa s g c X3 z y0 (i : Int) y2 x t) := p
          clear p
          (try go_wp2_with fail)
          refine hK.out _ _ ?sb3 (fun hHeld => ?tb3)
          case sb3 => go_keep
          clear hK K
          try simp only [Act.put, List.setIfInBounds_toArray, List.set_cons_zero, List.set_cons_succ]
          refine wpAnyH_take (i := 6) (oi := { dst := some 87, op := Op.binOp BinOp.neq 4 (Operand.tmp 84) (Operand.tmp 86) 4, type := 4, pos := "law.go:74", after := #[{ on := 3, ground := Ground.data }, { on := 5, ground := Ground.data }], guard := none }) (v := ?vb6) rfl (by kernel_rfl) (by kernel_rfl) (by kernel_rfl) (fun _ _ _ h => h) (Or.inl ⟨by rfl, ?hb6⟩) (by assumption) ?rb6
          case hb6 => (intro wz hSw; (try dsimp only at hSw); go_simp <;> with_reducible rfl)
          try simp only [Act.put, List.setIfInBounds_toArray, List.set_cons_zero, List.set_cons_succ]
          refine wpAnyH_take (i := 7) (oi := { dst := some 88, op := Op.move (Operand.tmp 87), type := 4, pos := "law.go:74", after := #[{ on := 6, ground := Ground.data }, { on := 3, ground := Ground.chain }], guard := none }) (v := ?vb7) rfl (by kernel_rfl) (by kernel_rfl) (by kernel_rfl) (fun _ _ _ h => h) (Or.inl ⟨by rfl, ?hb7⟩) (by assumption) ?rb7
          case hb7 => (intro wz hSw; (try dsimp only at hSw); go_simp <;> with_reducible rfl)
          try simp only [Act.put, List.setIfInBounds_toArray, List.set_cons_zero, List.set_cons_succ]
          refine wpAnyH_take (i := 8) (oi := { dst := some 89, op := Op.move (Operand.tmp 7), type := 27, pos := "law.go:74", after := #[{ on := 7, ground := Ground.guard }], guard := some (7, false) }) (v := ?vb8) rfl (by kernel_rfl) (by kernel_rfl) (by kernel_rfl) (fun _ _ _ h => h) (Or.inl ⟨by rfl, ?hb8⟩) (by assumption) ?rb8
          case hb8 => (intro wz hSw; (try dsimp only at hSw); go_simp <;> with_reducible rfl)
          try simp only [Act.put, List.setIfInBounds_toArray, List.set_cons_zero, List.set_cons_succ]
          refine wpAnyH_take (i := 9) (oi := { dst := some 90, op := Op.fieldAddr 33 (Operand.tmp 10) 1, type := 0, pos := "law.go:74", after := #[{ on := 7, ground := Ground.guard }], guard := some (7, false) }) (v := ?vb9) rfl (by kernel_rfl) (by kernel_rfl) (by kernel_rfl) (fun _ _ _ h => h) (Or.inl ⟨by rfl, ?hb9⟩) (by assumption) ?rb9
          case hb9 => (intro wz hSw; (try dsimp only at hSw); go_simp <;> with_reducible rfl)
          try simp only [Act.put, List.setIfInBounds_toArray, List.set_cons_zero, List.set_cons_succ]
          refine wpAnyH_take (i := 10) (oi := { dst := some 91, op := Op.load 3 (Operand.tmp 90), type := 3, pos := "law.go:74", after := #[{ on := 9, ground := Ground.data }, { on := 7, ground := Ground.guard }], guard := some (7, false) }) (v := ?vb10) rfl (by kernel_rfl) (by kernel_rfl) (by kernel_rfl) (fun _ _ _ h => h) (Or.inl ⟨by rfl, ?hb10⟩) (by assumption) ?rb10
          case hb10 => (intro wz hSw; (try dsimp only at hSw); go_simp <;> with_reducible rfl)
          try simp only [Act.put, List.setIfInBounds_toArray, List.set_cons_zero, List.set_cons_succ]
          refine wpAnyH_ready (rs := [11]) (by kernel_rfl) (by simp) ?_
          refine AllReadyH.cons (o := { dst := some 92, op := Op.call { callee := Callee.value (Operand.func 19), args := #[Operand.tmp 89, Operand.tmp 91], argTypes := #[27, 3] }, type := 4, pos := "law.go:74", after := #[{ on := 8, ground := Ground.data }, { on := 10, ground := Ground.data }, { on := 7, ground := Ground.chain }, { on := 7, ground := Ground.guard }], guard := some (7, false) }) rfl (fun K hK => ?_) AllReadyH.nil
          go_simp
          refine (px_is PA.out ?_).mono ?_
          · exact ⟨rfl, rfl, rfl, rfl⟩
          rintro e pb ⟨rfl, p⟩
          rw [EH.out]
          obtain ⟨c0PB, c1PB, c2PB, c3PB, c4PB, c5PB, c6PB, c7PB, c8PB, c9PB⟩ := p.yes HI.out et.out
          have PB : Hid (PX w pb s g c X3 z y0 (i : Int) y2 x t) := p
          clear p
          (try go_wp2_with fail)
          refine hK.out _ _ ?sb11 (fun hHeld => ?tb11)
          case sb11 => go_keep
          clear hK K
          try simp only [Act.put, List.setIfInBounds_toArray, List.set_cons_zero, List.set_cons_succ]
          refine wpAnyH_take (i := 12) (oi := { dst := some 93, op := Op.move (Operand.tmp 92), type := 4, pos := "law.go:74", after := #[{ on := 11, ground := Ground.data }, { on := 11, ground := Ground.chain }, { on := 7, ground := Ground.guard }], guard := some (7, false) }) (v := ?vb12) rfl (by kernel_rfl) (by kernel_rfl) (by kernel_rfl) (fun _ _ _ h => h) (Or.inl ⟨by rfl, ?hb12⟩) (by assumption) ?rb12
          case hb12 => (intro wz hSw; (try dsimp only at hSw); go_simp <;> with_reducible rfl)
          try simp only [Act.put, List.setIfInBounds_toArray, List.set_cons_zero, List.set_cons_succ]
          refine wpAnyH_take (i := 13) (oi := { dst := some 94, op := Op.load 41 (Operand.tmp 11), type := 41, pos := "law.go:74", after := #[{ on := 12, ground := Ground.guard }], guard := some (12, true) }) (v := ?vb13) rfl (by kernel_rfl) (by kernel_rfl) (by kernel_rfl) (fun _ _ _ h => h) (Or.inl ⟨by rfl, ?hb13⟩) (by assumption) ?rb13
          case hb13 => (intro wz hSw; (try dsimp only at hSw); go_simp <;> with_reducible rfl)
          try simp only [Act.put, List.setIfInBounds_toArray, List.set_cons_zero, List.set_cons_succ]
          refine wpAnyH_take (i := 14) (oi := { dst := some 95, op := Op.move (Operand.tmp 7), type := 27, pos := "law.go:74", after := #[{ on := 12, ground := Ground.guard }], guard := some (12, true) }) (v := ?vb14) rfl (by kernel_rfl) (by kernel_rfl) (by kernel_rfl) (fun _ _ _ h => h) (Or.inl ⟨by rfl, ?hb14⟩) (by assumption) ?rb14
          case hb14 => (intro wz hSw; (try dsimp only at hSw); go_simp <;> with_reducible rfl)
          try simp only [Act.put, List.setIfInBounds_toArray, List.set_cons_zero, List.set_cons_succ]
          refine wpAnyH_take (i := 15) (oi := { dst := some 96, op := Op.nilCheck (Operand.tmp 95), type := 0, pos := "law.go:74", after := #[{ on := 14, ground := Ground.data }, { on := 12, ground := Ground.guard }], guard := some (12, true) }) (v := ?vb15) rfl (by kernel_rfl) (by kernel_rfl) (by kernel_rfl) (fun _ _ _ h => h) (Or.inl ⟨by rfl, ?hb15⟩) (by assumption) ?rb15
          case hb15 => (intro wz hSw; (try dsimp only at hSw); go_simp <;> with_reducible rfl)
          try simp only [Act.put, List.setIfInBounds_toArray, List.set_cons_zero, List.set_cons_succ]
          refine wpAnyH_take (i := 16) (oi := { dst := some 97, op := Op.fieldAddr 49 (Operand.tmp 96) 1, type := 0, pos := "law.go:74", after := #[{ on := 15, ground := Ground.data }, { on := 12, ground := Ground.guard }], guard := some (12, true) }) (v := ?vb16) rfl (by kernel_rfl) (by kernel_rfl) (by kernel_rfl) (fun _ _ _ h => h) (Or.inl ⟨by rfl, ?hb16⟩) (by assumption) ?rb16
          case hb16 => (intro wz hSw; (try dsimp only at hSw); go_simp <;> with_reducible rfl)
          try simp only [Act.put, List.setIfInBounds_toArray, List.set_cons_zero, List.set_cons_succ]
          refine wpAnyH_take (i := 17) (oi := { dst := some 98, op := Op.load 47 (Operand.tmp 97), type := 47, pos := "law.go:74", after := #[{ on := 16, ground := Ground.data }, { on := 12, ground := Ground.guard }], guard := some (12, true) }) (v := ?vb17) rfl (by kernel_rfl) (by kernel_rfl) (by kernel_rfl) (fun _ _ _ h => h) (Or.inl ⟨by rfl, ?hb17⟩) (by assumption) ?rb17
          case hb17 => (intro wz hSw; (try dsimp only at hSw); go_simp <;> with_reducible rfl)
          try simp only [Act.put, List.setIfInBounds_toArray, List.set_cons_zero, List.set_cons_succ]
          refine wpAnyH_take (i := 18) (oi := { dst := some 99, op := Op.fieldAddr 33 (Operand.tmp 10) 1, type := 0, pos := "law.go:74", after := #[{ on := 12, ground := Ground.guard }], guard := some (12, true) }) (v := ?vb18) rfl (by kernel_rfl) (by kernel_rfl) (by kernel_rfl) (fun _ _ _ h => h) (Or.inl ⟨by rfl, ?hb18⟩) (by assumption) ?rb18
          case hb18 => (intro wz hSw; (try dsimp only at hSw); go_simp <;> with_reducible rfl)
          try simp only [Act.put, List.setIfInBounds_toArray, List.set_cons_zero, List.set_cons_succ]
          refine wpAnyH_take (i := 19) (oi := { dst := some 100, op := Op.load 3 (Operand.tmp 99), type := 3, pos := "law.go:74", after := #[{ on := 18, ground := Ground.data }, { on := 12, ground := Ground.guard }], guard := some (12, true) }) (v := ?vb19) rfl (by kernel_rfl) (by kernel_rfl) (by kernel_rfl) (fun _ _ _ h => h) (Or.inl ⟨by rfl, ?hb19⟩) (by assumption) ?rb19
          case hb19 => (intro wz hSw; (try dsimp only at hSw); go_simp <;> with_reducible rfl)
          try simp only [Act.put, List.setIfInBounds_toArray, List.set_cons_zero, List.set_cons_succ]
          refine wpAnyH_take (i := 20) (oi := { dst := some 101, op := Op.indexAddr 47 (Operand.tmp 98) (Operand.tmp 100), type := 0, pos := "law.go:74", after := #[{ on := 17, ground := Ground.data }, { on := 19, ground := Ground.data }, { on := 12, ground := Ground.guard }], guard := some (12, true) }) (v := ?vb20) rfl (by kernel_rfl) (by kernel_rfl) (by kernel_rfl) (fun _ _ _ h => h) (Or.inl ⟨by rfl, ?hb20⟩) (by assumption) ?rb20
          case hb20 => (intro wz hSw; (try dsimp only at hSw); go_simp <;> with_reducible rfl)
          try simp only [Act.put, List.setIfInBounds_toArray, List.set_cons_zero, List.set_cons_succ]
          refine wpAnyH_take (i := 21) (oi := { dst := some 102, op := Op.load 46 (Operand.tmp 101), type := 46, pos := "law.go:74", after := #[{ on := 20, ground := Ground.data }, { on := 12, ground := Ground.guard }], guard := some (12, true) }) (v := ?vb21) rfl (by kernel_rfl) (by kernel_rfl) (by kernel_rfl) (fun _ _ _ h => h) (Or.inl ⟨by rfl, ?hb21⟩) (by assumption) ?rb21
          case hb21 => (intro wz hSw; (try dsimp only at hSw); go_simp <;> with_reducible rfl)
          try simp only [Act.put, List.setIfInBounds_toArray, List.set_cons_zero, List.set_cons_succ]
          refine wpAnyH_ready (rs := [22]) (by kernel_rfl) (by simp) ?_
          refine AllReadyH.cons (o := { dst := some 103, op := Op.call { callee := Callee.value (Operand.func 20), args := #[Operand.tmp 94, Operand.tmp 102], argTypes := #[41, 46] }, type := 4, pos := "law.go:74", after := #[{ on := 13, ground := Ground.data }, { on := 21, ground := Ground.data }, { on := 12, ground := Ground.chain }, { on := 12, ground := Ground.guard }], guard := some (12, true) }) rfl (fun K hK => ?_) AllReadyH.nil
          go_simp
          refine (px_same PB.out ?_).mono ?_
          · exact ⟨rfl, rfl, rfl, rfl⟩
          rintro e pd ⟨rfl, p⟩
          obtain ⟨c0PD, c1PD, c2PD, c3PD, c4PD, c5PD, c6PD, c7PD, c8PD, c9PD⟩ := p.yes HI.out et.out
          have PD : Hid (PX w pd s g c X3 z y0 (i : Int) y2 x t) := p
          clear p
          (try go_wp2_with fail)
          refine hK.out _ _ ?sb22 (fun hHeld => ?tb22)
          case sb22 => go_keep
          clear hK K
          try simp only [Act.put, List.setIfInBounds_toArray, List.set_cons_zero, List.set_cons_succ]
          refine wpAnyH_take (i := 23) (oi := { dst := some 104, op := Op.unOp UnOp.not 4 (Operand.tmp 103), type := 4, pos := "law.go:74", after := #[{ on := 22, ground := Ground.data }, { on := 12, ground := Ground.guard }], guard := some (12, true) }) (v := ?vb23) rfl (by kernel_rfl) (by kernel_rfl) (by kernel_rfl) (fun _ _ _ h => h) (Or.inl ⟨by rfl, ?hb23⟩) (by assumption) ?rb23
          case hb23 => (intro wz hSw; (try dsimp only at hSw); go_simp <;> with_reducible rfl)
          try simp only [Act.put, List.setIfInBounds_toArray, List.set_cons_zero, List.set_cons_succ]
          refine wpAnyH_take (i := 24) (oi := { dst := some 105, op := Op.pick (Operand.tmp 93) (Operand.tmp 104) (Operand.const (Value.bool false)), type := 4, pos := "law.go:74", after := #[{ on := 12, ground := Ground.data }, { on := 23, ground := Ground.data }, { on := 7, ground := Ground.guard }], guard := some (7, false) }) (v := ?vb24) rfl (by kernel_rfl) (by kernel_rfl) (by kernel_rfl) (fun _ _ _ h => h) (Or.inl ⟨by rfl, ?hb24⟩) (by assumption) ?rb24
          case hb24 => (intro wz hSw; (try dsimp only at hSw); go_simp <;> with_reducible rfl)
          try simp only [Act.put, List.setIfInBounds_toArray, List.set_cons_zero, List.set_cons_succ]
          refine wpAnyH_take (i := 25) (oi := { dst := some 106, op := Op.pick (Operand.tmp 88) (Operand.const (Value.bool true)) (Operand.tmp 105), type := 4, pos := "law.go:74", after := #[{ on := 7, ground := Ground.data }, { on := 24, ground := Ground.data }], guard := none }) (v := ?vb25) rfl (by kernel_rfl) (by kernel_rfl) (by kernel_rfl) (fun _ _ _ h => h) (Or.inl ⟨by rfl, ?hb25⟩) (by assumption) ?rb25
          case hb25 => (intro wz hSw; (try dsimp only at hSw); go_simp <;> with_reducible rfl)
          try simp only [Act.put, List.setIfInBounds_toArray, List.set_cons_zero, List.set_cons_succ]
          refine wpAnyH_take (i := 26) (oi := { dst := some 107, op := Op.move (Operand.tmp 106), type := 4, pos := "law.go:74", after := #[{ on := 25, ground := Ground.data }, { on := 22, ground := Ground.chain }], guard := none }) (v := ?vb26) rfl (by kernel_rfl) (by kernel_rfl) (by kernel_rfl) (fun _ _ _ h => h) (Or.inl ⟨by rfl, ?hb26⟩) (by assumption) ?rb26
          case hb26 => (intro wz hSw; (try dsimp only at hSw); go_simp <;> with_reducible rfl)
          try simp only [Act.put, List.setIfInBounds_toArray, List.set_cons_zero, List.set_cons_succ]
          refine wpAnyH_take (i := 27) (oi := { dst := some 108, op := Op.move (Operand.tmp 7), type := 27, pos := "law.go:74", after := #[{ on := 26, ground := Ground.guard }], guard := some (26, false) }) (v := ?vb27) rfl (by kernel_rfl) (by kernel_rfl) (by kernel_rfl) (fun _ _ _ h => h) (Or.inl ⟨by rfl, ?hb27⟩) (by assumption) ?rb27
          case hb27 => (intro wz hSw; (try dsimp only at hSw); go_simp <;> with_reducible rfl)
          try simp only [Act.put, List.setIfInBounds_toArray, List.set_cons_zero, List.set_cons_succ]
          refine wpAnyH_take (i := 28) (oi := { dst := some 109, op := Op.fieldAddr 33 (Operand.tmp 10) 1, type := 0, pos := "law.go:74", after := #[{ on := 26, ground := Ground.guard }], guard := some (26, false) }) (v := ?vb28) rfl (by kernel_rfl) (by kernel_rfl) (by kernel_rfl) (fun _ _ _ h => h) (Or.inl ⟨by rfl, ?hb28⟩) (by assumption) ?rb28
          case hb28 => (intro wz hSw; (try dsimp only at hSw); go_simp <;> with_reducible rfl)
          try simp only [Act.put, List.setIfInBounds_toArray, List.set_cons_zero, List.set_cons_succ]
          refine wpAnyH_take (i := 29) (oi := { dst := some 110, op := Op.load 3 (Operand.tmp 109), type := 3, pos := "law.go:74", after := #[{ on := 28, ground := Ground.data }, { on := 26, ground := Ground.guard }], guard := some (26, false) }) (v := ?vb29) rfl (by kernel_rfl) (by kernel_rfl) (by kernel_rfl) (fun _ _ _ h => h) (Or.inl ⟨by rfl, ?hb29⟩) (by assumption) ?rb29
          case hb29 => (intro wz hSw; (try dsimp only at hSw); go_simp <;> with_reducible rfl)
          try simp only [Act.put, List.setIfInBounds_toArray, List.set_cons_zero, List.set_cons_succ]
          refine wpAnyH_ready (rs := [30]) (by kernel_rfl) (by simp) ?_
          refine AllReadyH.cons (o := { dst := some 111, op := Op.call { callee := Callee.value (Operand.func 19), args := #[Operand.tmp 108, Operand.tmp 110], argTypes := #[27, 3] }, type := 4, pos := "law.go:74", after := #[{ on := 27, ground := Ground.data }, { on := 29, ground := Ground.data }, { on := 26, ground := Ground.chain }, { on := 26, ground := Ground.guard }], guard := some (26, false) }) rfl (fun K hK => ?_) AllReadyH.nil
          go_simp
          refine (px_is PD.out ?_).mono ?_
          · exact ⟨rfl, rfl, rfl, rfl⟩
          rintro e pe ⟨rfl, p⟩
          rw [EH.out]
          obtain ⟨c0PE, c1PE, c2PE, c3PE, c4PE, c5PE, c6PE, c7PE, c8PE, c9PE⟩ := p.yes HI.out et.out
          have PE : Hid (PX w pe s g c X3 z y0 (i : Int) y2 x t) := p
          clear p
          (try go_wp2_with fail)
          refine hK.out _ _ ?sb30 (fun hHeld => ?tb30)
          case sb30 => go_keep
          clear hK K
          try simp only [Act.put, List.setIfInBounds_toArray, List.set_cons_zero, List.set_cons_succ]
          refine wpAnyH_take (i := 31) (oi := { dst := some 112, op := Op.unOp UnOp.not 4 (Operand.tmp 111), type := 4, pos := "law.go:74", after := #[{ on := 30, ground := Ground.data }, { on := 26, ground := Ground.guard }], guard := some (26, false) }) (v := ?vb31) rfl (by kernel_rfl) (by kernel_rfl) (by kernel_rfl) (fun _ _ _ h => h) (Or.inl ⟨by rfl, ?hb31⟩) (by assumption) ?rb31
          case hb31 => (intro wz hSw; (try dsimp only at hSw); go_simp <;> with_reducible rfl)
          try simp only [Act.put, List.setIfInBounds_toArray, List.set_cons_zero, List.set_cons_succ]
          refine wpAnyH_take (i := 32) (oi := { dst := some 113, op := Op.move (Operand.tmp 112), type := 4, pos := "law.go:74", after := #[{ on := 31, ground := Ground.data }, { on := 30, ground := Ground.chain }, { on := 26, ground := Ground.guard }], guard := some (26, false) }) (v := ?vb32) rfl (by kernel_rfl) (by kernel_rfl) (by kernel_rfl) (fun _ _ _ h => h) (Or.inl ⟨by rfl, ?hb32⟩) (by assumption) ?rb32
          case hb32 => (intro wz hSw; (try dsimp only at hSw); go_simp <;> with_reducible rfl)
          try simp only [Act.put, List.setIfInBounds_toArray, List.set_cons_zero, List.set_cons_succ]
          refine wpAnyH_take (i := 33) (oi := { dst := some 114, op := Op.move (Operand.tmp 12), type := 24, pos := "law.go:74", after := #[{ on := 32, ground := Ground.guard }], guard := some (32, true) }) (v := undef) rfl (by kernel_rfl) (by kernel_rfl) (by kernel_rfl) (fun _ _ _ h => h) (Or.inr ⟨by rfl, rfl⟩) (by assumption) ?_
          try simp only [Act.put, List.setIfInBounds_toArray, List.set_cons_zero, List.set_cons_succ]
          refine wpAnyH_take (i := 34) (oi := { dst := some 115, op := Op.binOp BinOp.neq 24 (Operand.tmp 114) (Operand.const (Value.int IntKind.i64 3)) 24, type := 4, pos := "law.go:74", after := #[{ on := 33, ground := Ground.data }, { on := 32, ground := Ground.guard }], guard := some (32, true) }) (v := undef) rfl (by kernel_rfl) (by kernel_rfl) (by kernel_rfl) (fun _ _ _ h => h) (Or.inr ⟨by rfl, rfl⟩) (by assumption) ?_
          try simp only [Act.put, List.setIfInBounds_toArray, List.set_cons_zero, List.set_cons_succ]
          refine wpAnyH_take (i := 35) (oi := { dst := some 116, op := Op.pick (Operand.tmp 113) (Operand.tmp 115) (Operand.const (Value.bool false)), type := 4, pos := "law.go:74", after := #[{ on := 32, ground := Ground.data }, { on := 34, ground := Ground.data }, { on := 26, ground := Ground.guard }], guard := some (26, false) }) (v := ?vb35) rfl (by kernel_rfl) (by kernel_rfl) (by kernel_rfl) (fun _ _ _ h => h) (Or.inl ⟨by rfl, ?hb35⟩) (by assumption) ?rb35
          case hb35 => (intro wz hSw; (try dsimp only at hSw); go_simp <;> with_reducible rfl)
          try simp only [Act.put, List.setIfInBounds_toArray, List.set_cons_zero, List.set_cons_succ]
          refine wpAnyH_take (i := 36) (oi := { dst := some 117, op := Op.pick (Operand.tmp 107) (Operand.const (Value.bool true)) (Operand.tmp 116), type := 4, pos := "law.go:74", after := #[{ on := 26, ground := Ground.data }, { on := 35, ground := Ground.data }], guard := none }) (v := ?vb36) rfl (by kernel_rfl) (by kernel_rfl) (by kernel_rfl) (fun _ _ _ h => h) (Or.inl ⟨by rfl, ?hb36⟩) (by assumption) ?rb36
          case hb36 => (intro wz hSw; (try dsimp only at hSw); go_simp <;> with_reducible rfl)
          try simp only [Act.put, List.setIfInBounds_toArray, List.set_cons_zero, List.set_cons_succ]
          refine wpAnyH_done (by kernel_rfl) ?_ _
          go_wp2
          go_roundw
          case rel => exact ⟨k + 1, X3, by omega, by omega, PE.out.pz.bp.sm ⟨rfl, rfl, rfl, rfl⟩, by go_num⟩
          case measure => simp [intOf]; omega

set_option maxRecDepth 100000 in
theorem lifted (os : Os) (started : os.Started) (H : Type) (enc : TypeId × Value → H) :
    ReturnsInHanded {} Try.checked os 3 .any (Rows.irqPlaysSpec.pre6 enc Try.prog Try.f3 Rows.irqPlaysRow.domain false) (Rows.irqPlaysSpec.post enc Try.prog Try.f3 false true false false) := by
  refine returnsInHanded_of_change (C := Try.checked) own started (by kernel_rfl) Try.func3
    (ChangeSpec.witness6 (enc := enc) (C := Try.checked) false ⟨#[], #[.int .i64 0, .slice none 0 0], []⟩ 8 (by kernel_rfl) (by kernel_rfl) (by kernel_rfl) (by kernel_rfl)) ?_
  intro W base args ds gs before hval0 hW hcnd _
  have hval : ∀ (j : Nat) t v, Try.f3.params[j]? = some t → args[j]? = some v → Value.okWide Try.prog W .any base t v := hval0
  have hW' := hW
  obtain ⟨p, q, hA0, hV, rfl, hfz, hnd⟩ := hW
  have hA : DataW.TrodAll enc Try.prog W 0 (fun _ => true) true Try.f3.params.toList args.toList ds p := hA0
  rw [Try.params3] at hA hval
  obtain ⟨v0, vs0, d0, ds0, p0, q0, hargs, rfl, rfl, h0, r0⟩ := trodAll_cons hA
  obtain ⟨v1, vs1, d1, ds1, p1, q1, rfl, rfl, rfl, h1, r1⟩ := trodAll_cons r0
  obtain ⟨rfl, rfl, rfl⟩ := trodAll_nil r1
  obtain rfl : args = #[v0, v1] := by cases args; simp_all
  obtain ⟨rfl, rfl⟩ := trodVars_none hV
  obtain ⟨a0, rfl, rfl, rfl, w0⟩ := open_int Try.underlying3 (hval 0 3 v0 rfl rfl) h0
  obtain ⟨a1, len1, cap1, rfl⟩ := okWide_slice Try.underlying22 (hval 1 22 v1 rfl rfl)
  have k1 := h1
  have lt1 : ∀ x ∈ p1, x.block < W.heap.size := by obtain ⟨m, hm⟩ := k1; exact DataW.trod_lt m _ _ _ hm
  obtain ⟨X1, w1, z1⟩ : ∃ X : Nat → Nat → Int, TRow W (.slice a1 len1 cap1) len1 [1, 1, 2] X ∧ ∀ i, i < len1 → ∀ j, j < [1, 1, 2].length → kwf ([1, 1, 2].getD j 1) (X i j) := by
    obtain ⟨fuel, hf⟩ := h1
    exact open_recx [1, 1, 2] Try.underlying22 Try.underlying33 (by kernel_rfl) rfl (by decide) (fun | 0, _ => ⟨_, rfl, rfl, by kernel_rfl, Try.underlying3⟩ | 1, _ => ⟨_, rfl, rfl, by kernel_rfl, Try.underlying3⟩ | 2, _ => ⟨_, rfl, rfl, by kernel_rfl, Try.underlying31⟩ | n + 3, h => absurd h (by simp only [List.length]; omega)) hf
  clear hA0 hval0
  refine (walk a0 a1 len1 cap1 X1 W w0 w1 z1).mono fun e W' ⟨he, bel⟩ => ?_
  subst he
  exact ⟨_, rfl, _, _, _, [], _, [], hW', trodAll_mk1 (shut_bool Try.underlying4 _), (trodAll_cons_mk (shut_int Try.underlying3 w0) (trodAll_cons_mk (Below.trod laidOut (by kernel_rfl) (of_decide_eq_true (by kernel_rfl)) k1 bel lt1) trodAll_mk0)), rfl, bel.frame _, fun h => by cases h⟩

theorem over : Rows.IrqPlaysSaid :=
  OpenClaim.holds_of_wide 3 Try.f3 rfl rfl rfl rfl rfl rfl rfl ⟨rfl, rfl, rfl, rfl, rfl⟩ rfl rfl rfl rfl rfl (by kernel_rfl) Try.func3 (by kernel_rfl)
    (of_decide_eq_true (by kernel_rfl)) (by unfold Func.isWrapper; first | (rw [if_pos (by decide +kernel)]; kernel_rfl) | (rw [if_neg (by decide +kernel)]; exact ⟨rfl, rfl⟩))
    (fun os started H enc _ => lifted os started H enc)
end Go.Proofs.Ythhgmnkgeombhaa.irqPlays

namespace Go.Proofs.Ythhgmnkgeombhaa
open Go
theorem irqPlays_holds : Rows.IrqPlaysSaid := irqPlays.over
#print axioms irqPlays_holds
end Go.Proofs.Ythhgmnkgeombhaa
