/- Proved: for every number cpus and every list acts, davitlaw19.GatePlays(cpus, acts) returns true: a gate of any number of cores that is played with answers what the document says: each answer, what it is, how many readers there are, and how many on a core (150 acts at most, as the law itself says), and acts is left alone; no condition. -/
import Derived.Test.YtbmdfoohabipjaaRows
import Derived.Test.YtbmdfoohabipjaaFo
import Derived.Test.YtbmdfoohabipjaaEc
import Derived.Test.YtbmdfoohabipjaaEe
import Derived.Test.YtbmdfoohabipjaaZy
import Derived.WalkKit
import Derived.ProofKit
import Derived.OpenShut
import Derived.Stop.Joined
import Derived.ShutString
import Derived.ChangeOld
import Derived.Below
import Derived.Carry
import Derived.Test.YtbmdfoohabipjaaFs
import Derived.Deep.RegionHeldLaw
namespace Go.Proofs.Ytbmdfoohabipjaa.gatePlays
open Go.ChangeShapes Go.WideShapes Go.ChangeAt Go.RowKit
open Pm Em
set_option linter.unusedVariables false
set_option linter.unusedSimpArgs false

theorem own : ownKnob Try.prog.godebug = none := by kernel_rfl
theorem laidOut : laidOutB Try.prog = true := by kernel_rfl

set_option maxRecDepth 100000 in
set_option maxHeartbeats 4000000 in
theorem walk (a0 : Int) (a1 : Option Addr) (len1 cap1 : Nat) (X1 : Nat → Nat → Int) (w : World) (w0 : (Lit.int .i64 a0).wf = true) (w1 : SRow w (.slice a1 len1 cap1) len1 [true, true] X1) (z1 : ∀ i, i < len1 → ∀ j, j < [true, true].length → [true, true].getD j true = true → (Lit.int .i64 (X1 i j)).wf = true) :
    Calls Try.prog 3 #[.int .i64 a0, .slice a1 len1 cap1] w fun e w' => e = .returned (.bool true) ∧ Below w.heap.size w w' := by
  have KN : Hid (∀ w1, _) := fun w1 => gknown_yes w1
  by_cases wrong : a0 < 1 ∨ 64 < a0
  · have C : Hid (∀ w, _) := fun w => gnew_bad a0 w wrong
    have D : Hid (∀ w, _) := fun w => rgnew_bad a0 w wrong
    clear wrong w0 w1 z1
    go_enter Try.func3, Try.ntmps3
    go_wp2_with fail
    refine (C.out _).mono ?_
    rintro e u1 ⟨rfl, rfl⟩
    go_wp2_with fail
    refine (D.out _).mono ?_
    rintro e u2 ⟨rfl, rfl⟩
    go_wp2_with fail
    refine (KN.out _).mono ?_
    rintro e u3 ⟨rfl, hb⟩
    go_wp2
    go_ret
    exact ⟨rfl, hb⟩
  · obtain ⟨p, rfl⟩ := Int.eq_ofNat_of_zero_le (show 0 ≤ a0 by omega)
    have m1 : (1 : Int) ≤ p := by omega
    have m2 : (p : Int) ≤ 64 := by omega
    have C : Hid (∀ _ : Unit, _) := fun _ => gnew_any p w m1 m2
    have D : Hid (∀ w1, _) := fun w1 => rgnew_any p w1 m1 m2
    have HR : Hid (SRow w (.slice a1 len1 cap1) len1 [true, true] X1) := w1
    obtain ⟨s, hsz⟩ : ∃ s, w.heap.size = s := ⟨_, rfl⟩
    have HS : Hid (w.heap.size = s) := hsz
    rw [hsz] at C ⊢
    clear wrong w0 w1 z1 hsz
    go_enter Try.func3, Try.ntmps3
    go_wp2_with fail
    refine (C.out ()).mono ?_
    rintro e u1 ⟨rfl, q1, z1, f1⟩
    have Q1 : Hid (GT u1 (s + 2) s 0 (List.replicate p 0)) := q1
    have B1 : Hid (Fr s [] w u1) := f1
    have D1 : Hid (∀ _ : Unit, _) := fun _ => D.out u1
    rw [z1, show s + 3 + 1 = s + 4 from rfl] at D1
    have Z1 : Hid (u1.heap.size = s + 3) := z1
    clear q1 f1 z1
    go_wp2_with fail
    refine (D1.out ()).mono ?_
    rintro e u2 ⟨rfl, r2, f2⟩
    have PP0 : Hid (GG w u2 s 0 0 (List.replicate p 0) (List.replicate p 0)) := ⟨Q1.out.keep f2 ⟨by omega, by omega⟩ ⟨by simp, by simp⟩, r2, (B1.out.below (by simp)).trans ((f2.less (by omega)).below (by simp))⟩
    clear r2 f2 Q1 B1 D1 Z1
    go_wp2
    go_loopw [9] (fun i wr => ∃ (k : Nat) (st : Int) (L : List Int), (k : Int) ≤ 150 ∧ (k : Int) ≤ len1 ∧ GG w wr s st st L L ∧ Hid (L.length = p) ∧ i = .int .i64 k) (fun i _ => 150 - (intOf i).toNat)
    case atStart => exact ⟨0, _, _, by omega, by omega, PP0.out, (by simp [Hid]), rfl⟩
    case round =>
      obtain ⟨k, st, L, hk, hk2, q, hL, rfl⟩ := hrel
      clear PP0
      have HB : Hid (Below s w wr) := q.bel
      have hz : s ≤ wr.heap.size := by have := q.hi; omega
      have tail : (¬ (k : Int) < len1 ∧ decide ((k : Int) < len1) = false) ∨ ((k : Int) < len1 ∧ ¬ (k : Int) < 150) ∨ ((k : Int) < len1 ∧ (k : Int) < 150) := by
        by_cases h : (k : Int) < len1
        · by_cases h2 : (k : Int) < 150
          · exact Or.inr (Or.inr ⟨h, h2⟩)
          · exact Or.inr (Or.inl ⟨h, h2⟩)
        · exact Or.inl ⟨h, decide_eq_false h⟩
      rw [← or_assoc] at tail
      rcases tail with tail | ⟨h, h2⟩
      · clear q hL
        rcases tail with ⟨h, hd⟩ | ⟨h, h2⟩
        all_goals (
          go_wp2_with fail
          refine (KN.out _).mono ?_
          rintro e w4 ⟨rfl, f4⟩
          go_wp2
          go_ret
          exact ⟨rfl, HB.out.trans (f4.mono hz)⟩)
      · obtain ⟨b0, off, rfl, hA⟩ := srow_cell (wr := wr) HR.out (by rw [HS.out]; exact q.bel) h
        have x0 : wr.cell? ⟨b0, off + k * 2, none⟩ = some (.int .i64 (X1 k 0)) := hA 0 (by simp)
        have x1 : wr.cell? ⟨b0, off + k * 2 + 1, none⟩ = some (.int .i64 (X1 k 1)) := hA 1 (by simp)
        clear hA
        generalize X1 k 0 = y0 at *
        generalize X1 k 1 = y1 at *
        have q0 : GG w (wr.alloc (.cells #[.int .i64 y0, .int .i64 y1] 32)) s st st L L ∧ AG (wr.alloc (.cells #[.int .i64 y0, .int .i64 y1] 32)) s wr.heap.size y0 y1 := ⟨q.keep ((Below.refl _ _).alloc (Nat.le_refl _) _), Blk.new wr [.int .i64 y0, .int .i64 y1] _, q.hi⟩
        obtain ⟨z, hzz⟩ : ∃ z, wr.heap.size = z := ⟨_, rfl⟩
        have HZZ : Hid (wr.heap.size = z) := hzz
        obtain ⟨u0, hu0⟩ : ∃ u0, wr.alloc (.cells #[.int .i64 y0, .int .i64 y1] 32) = u0 := ⟨_, rfl⟩
        have HU0 : Hid (wr.alloc (.cells #[.int .i64 y0, .int .i64 y1] 32) = u0) := hu0
        rw [hu0, hzz] at q0
        have Q0 : Hid (GG w u0 s st st L L) := q0.1
        have A0 : Hid (AG u0 s z y0 y1) := q0.2
        obtain ⟨i0, i1⟩ := q0.2.cells
        clear q q0 hu0 hzz
        go_wp2_with fail
        rw [HU0.out, HZZ.out]
        refine wp_region_held_drew (S := fun w' => w'.cell? ⟨z, 0, none⟩ = some (.int .i64 y0) ∧ w'.cell? ⟨z, 1, none⟩ = some (.int .i64 y1)) (by kernel_rfl) (by go_keep) (fun hHeld => ?_)
        refine wpAnyH_take (i := 0) (oi := { dst := some 49, op := Op.move (Operand.tmp 5), type := 23, pos := "law.go:59", after := #[], guard := none }) (v := ?va0) rfl (by kernel_rfl) (by kernel_rfl) (by kernel_rfl) (fun _ _ _ h => h) (Or.inl ⟨by rfl, ?ha0⟩) (by assumption) ?ra0
        case ha0 => (intro wz hSw; (try dsimp only at hSw); go_simp <;> with_reducible rfl)
        try simp only [Act.put, List.setIfInBounds_toArray, List.set_cons_zero, List.set_cons_succ]
        refine wpAnyH_take (i := 1) (oi := { dst := some 50, op := Op.move (Operand.tmp 7), type := 27, pos := "law.go:59", after := #[], guard := none }) (v := ?va1) rfl (by kernel_rfl) (by kernel_rfl) (by kernel_rfl) (fun _ _ _ h => h) (Or.inl ⟨by rfl, ?ha1⟩) (by assumption) ?ra1
        case ha1 => (intro wz hSw; (try dsimp only at hSw); go_simp <;> with_reducible rfl)
        try simp only [Act.put, List.setIfInBounds_toArray, List.set_cons_zero, List.set_cons_succ]
        refine wpAnyH_take (i := 2) (oi := { dst := some 51, op := Op.load 32 (Operand.tmp 10), type := 32, pos := "law.go:59", after := #[], guard := none }) (v := ?va2) rfl (by kernel_rfl) (by kernel_rfl) (by kernel_rfl) (fun _ _ _ h => h) (Or.inl ⟨by rfl, ?ha2⟩) (by assumption) ?ra2
        case ha2 => (intro wz hSw; (try dsimp only at hSw); go_simp <;> with_reducible rfl)
        try simp only [Act.put, List.setIfInBounds_toArray, List.set_cons_zero, List.set_cons_succ]
        refine wpAnyH_ready (rs := [3]) (by kernel_rfl) (by simp) ?_
        refine AllReadyH.cons (o := { dst := some 52, op := Op.call { callee := Callee.value (Operand.func 12), args := #[Operand.tmp 49, Operand.tmp 50, Operand.tmp 51], argTypes := #[23, 27, 32] }, type := 4, pos := "law.go:59", after := #[{ on := 0, ground := Ground.data }, { on := 1, ground := Ground.data }, { on := 2, ground := Ground.data }], guard := none }) rfl (fun K hK => ?_) AllReadyH.nil
        go_simp
        refine (gg_do y0 y1 Q0.out ?_).mono ?_
        · exact ⟨rfl, rfl, rfl, rfl⟩
        rintro e v1 ⟨rfl, st2, L2, q1, t1, l1, -⟩
        have T1 : Hid (AG v1 s z y0 y1) := t1 _ _ _ A0.out
        obtain ⟨k0, k1⟩ := T1.out.cells
        have k2 := q1.r.c1
        have P1 : Hid (GG w v1 s st2 st2 L2 L2) := q1
        have L1 : Hid (L2.length = p) := l1.trans hL.out
        clear q1 t1 l1
        (try go_wp2_with fail)
        refine hK.out _ _ ?sa3 (fun hHeld => ?ta3)
        case sa3 => go_keep
        clear hK K
        try simp only [Act.put, List.setIfInBounds_toArray, List.set_cons_zero, List.set_cons_succ]
        refine wpAnyH_turn (S' := fun w' => w'.cell? ⟨z, 0, none⟩ = some (.int .i64 y0) ∧ w'.cell? ⟨z, 1, none⟩ = some (.int .i64 y1) ∧ w'.cell? ⟨s + 4, 1, none⟩ = some (.int .i64 st2)) (fun _ h => ⟨h.1, h.2.1⟩) _ _ _ _ ?_
        have hHeld : (fun w' : World => w'.cell? ⟨z, 0, none⟩ = some (.int .i64 y0) ∧ w'.cell? ⟨z, 1, none⟩ = some (.int .i64 y1) ∧ w'.cell? ⟨s + 4, 1, none⟩ = some (.int .i64 st2)) v1 := ⟨k0, k1, k2⟩
        have n1 : (st2 != st2) = false := by simp
        obtain ⟨m, hm⟩ : ∃ m, L2.sum = m := ⟨_, rfl⟩
        have HM : Hid (L2.sum = m) := hm
        have n2 : (m != m) = false := by simp
        clear hm
        refine wpAnyH_take (i := 4) (oi := { dst := some 53, op := Op.unOp UnOp.not 4 (Operand.tmp 52), type := 4, pos := "law.go:59", after := #[{ on := 3, ground := Ground.data }], guard := none }) (v := ?va4) rfl (by kernel_rfl) (by kernel_rfl) (by kernel_rfl) (fun _ _ _ h => h) (Or.inl ⟨by rfl, ?ha4⟩) (by assumption) ?ra4
        case ha4 => (intro wz hSw; (try dsimp only at hSw); go_simp <;> with_reducible rfl)
        try simp only [Act.put, List.setIfInBounds_toArray, List.set_cons_zero, List.set_cons_succ]
        refine wpAnyH_take (i := 5) (oi := { dst := some 54, op := Op.move (Operand.tmp 53), type := 4, pos := "law.go:59", after := #[{ on := 4, ground := Ground.data }, { on := 3, ground := Ground.chain }], guard := none }) (v := ?va5) rfl (by kernel_rfl) (by kernel_rfl) (by kernel_rfl) (fun _ _ _ h => h) (Or.inl ⟨by rfl, ?ha5⟩) (by assumption) ?ra5
        case ha5 => (intro wz hSw; (try dsimp only at hSw); go_simp <;> with_reducible rfl)
        try simp only [Act.put, List.setIfInBounds_toArray, List.set_cons_zero, List.set_cons_succ]
        refine wpAnyH_take (i := 6) (oi := { dst := some 55, op := Op.move (Operand.tmp 5), type := 23, pos := "law.go:59", after := #[{ on := 5, ground := Ground.guard }], guard := some (5, false) }) (v := ?va6) rfl (by kernel_rfl) (by kernel_rfl) (by kernel_rfl) (fun _ _ _ h => h) (Or.inl ⟨by rfl, ?ha6⟩) (by assumption) ?ra6
        case ha6 => (intro wz hSw; (try dsimp only at hSw); go_simp <;> with_reducible rfl)
        try simp only [Act.put, List.setIfInBounds_toArray, List.set_cons_zero, List.set_cons_succ]
        refine wpAnyH_take (i := 8) (oi := { dst := some 57, op := Op.move (Operand.tmp 7), type := 27, pos := "law.go:59", after := #[{ on := 5, ground := Ground.guard }], guard := some (5, false) }) (v := ?va8) rfl (by kernel_rfl) (by kernel_rfl) (by kernel_rfl) (fun _ _ _ h => h) (Or.inl ⟨by rfl, ?ha8⟩) (by assumption) ?ra8
        case ha8 => (intro wz hSw; (try dsimp only at hSw); go_simp <;> with_reducible rfl)
        try simp only [Act.put, List.setIfInBounds_toArray, List.set_cons_zero, List.set_cons_succ]
        refine wpAnyH_take (i := 9) (oi := { dst := some 58, op := Op.nilCheck (Operand.tmp 57), type := 0, pos := "law.go:59", after := #[{ on := 8, ground := Ground.data }, { on := 5, ground := Ground.guard }], guard := some (5, false) }) (v := ?va9) rfl (by kernel_rfl) (by kernel_rfl) (by kernel_rfl) (fun _ _ _ h => h) (Or.inl ⟨by rfl, ?ha9⟩) (by assumption) ?ra9
        case ha9 => (intro wz hSw; (try dsimp only at hSw); go_simp <;> with_reducible rfl)
        try simp only [Act.put, List.setIfInBounds_toArray, List.set_cons_zero, List.set_cons_succ]
        refine wpAnyH_take (i := 10) (oi := { dst := some 59, op := Op.fieldAddr 37 (Operand.tmp 58) 1, type := 0, pos := "law.go:59", after := #[{ on := 9, ground := Ground.data }, { on := 5, ground := Ground.guard }], guard := some (5, false) }) (v := ?va10) rfl (by kernel_rfl) (by kernel_rfl) (by kernel_rfl) (fun _ _ _ h => h) (Or.inl ⟨by rfl, ?ha10⟩) (by assumption) ?ra10
        case ha10 => (intro wz hSw; (try dsimp only at hSw); go_simp <;> with_reducible rfl)
        try simp only [Act.put, List.setIfInBounds_toArray, List.set_cons_zero, List.set_cons_succ]
        refine wpAnyH_take (i := 11) (oi := { dst := some 60, op := Op.load 3 (Operand.tmp 59), type := 3, pos := "law.go:59", after := #[{ on := 10, ground := Ground.data }, { on := 5, ground := Ground.guard }], guard := some (5, false) }) (v := ?va11) rfl (by kernel_rfl) (by kernel_rfl) (by kernel_rfl) (fun _ _ _ h => h) (Or.inl ⟨by rfl, ?ha11⟩) (by assumption) ?ra11
        case ha11 => (intro wz hSw; (try dsimp only at hSw); go_simp <;> with_reducible rfl)
        try simp only [Act.put, List.setIfInBounds_toArray, List.set_cons_zero, List.set_cons_succ]
        refine wpAnyH_ready (rs := [7]) (by kernel_rfl) (by simp) ?_
        refine AllReadyH.cons (o := { dst := some 56, op := Op.call { callee := Callee.value (Operand.func 13), args := #[Operand.tmp 55], argTypes := #[23] }, type := 3, pos := "law.go:59", after := #[{ on := 6, ground := Ground.data }, { on := 5, ground := Ground.chain }, { on := 5, ground := Ground.guard }], guard := some (5, false) }) rfl (fun K hK => ?_) AllReadyH.nil
        go_simp
        refine (gg_state P1.out ?_).mono ?_
        · exact ⟨rfl, rfl, rfl, rfl⟩
        rintro e v2 ⟨rfl, q, t⟩
        have T2 : Hid (AG v2 s z y0 y1) := t _ _ _ T1.out
        obtain ⟨k02, k12⟩ := T2.out.cells
        have k22 := q.r.c1
        have P2 : Hid (GG w v2 s st2 st2 L2 L2) := q
        clear q t
        (try go_wp2_with fail)
        refine hK.out _ _ ?sa7 (fun hHeld => ?ta7)
        case sa7 => go_keep
        clear hK K
        try simp only [Act.put, List.setIfInBounds_toArray, List.set_cons_zero, List.set_cons_succ]
        refine wpAnyH_take (i := 12) (oi := { dst := some 61, op := Op.binOp BinOp.neq 3 (Operand.tmp 56) (Operand.tmp 60) 3, type := 4, pos := "law.go:59", after := #[{ on := 7, ground := Ground.data }, { on := 11, ground := Ground.data }, { on := 5, ground := Ground.guard }], guard := some (5, false) }) (v := ?va12) rfl (by kernel_rfl) (by kernel_rfl) (by kernel_rfl) (fun _ _ _ h => h) (Or.inl ⟨by rfl, ?ha12⟩) (by assumption) ?ra12
        case ha12 => (intro wz hSw; (try dsimp only at hSw); go_simp <;> with_reducible rfl)
        try simp only [Act.put, List.setIfInBounds_toArray, List.set_cons_zero, List.set_cons_succ]
        refine wpAnyH_take (i := 13) (oi := { dst := some 62, op := Op.pick (Operand.tmp 54) (Operand.const (Value.bool true)) (Operand.tmp 61), type := 4, pos := "law.go:59", after := #[{ on := 5, ground := Ground.data }, { on := 12, ground := Ground.data }], guard := none }) (v := ?va13) rfl (by kernel_rfl) (by kernel_rfl) (by kernel_rfl) (fun _ _ _ h => h) (Or.inl ⟨by rfl, ?ha13⟩) (by assumption) ?ra13
        case ha13 => (intro wz hSw; (try dsimp only at hSw); go_simp <;> with_reducible rfl)
        try simp only [Act.put, List.setIfInBounds_toArray, List.set_cons_zero, List.set_cons_succ]
        refine wpAnyH_take (i := 14) (oi := { dst := some 63, op := Op.move (Operand.tmp 62), type := 4, pos := "law.go:59", after := #[{ on := 13, ground := Ground.data }, { on := 7, ground := Ground.chain }], guard := none }) (v := ?va14) rfl (by kernel_rfl) (by kernel_rfl) (by kernel_rfl) (fun _ _ _ h => h) (Or.inl ⟨by rfl, ?ha14⟩) (by assumption) ?ra14
        case ha14 => (intro wz hSw; (try dsimp only at hSw); go_simp <;> with_reducible rfl)
        try simp only [Act.put, List.setIfInBounds_toArray, List.set_cons_zero, List.set_cons_succ]
        refine wpAnyH_take (i := 15) (oi := { dst := some 64, op := Op.move (Operand.tmp 5), type := 23, pos := "law.go:59", after := #[{ on := 14, ground := Ground.guard }], guard := some (14, false) }) (v := ?va15) rfl (by kernel_rfl) (by kernel_rfl) (by kernel_rfl) (fun _ _ _ h => h) (Or.inl ⟨by rfl, ?ha15⟩) (by assumption) ?ra15
        case ha15 => (intro wz hSw; (try dsimp only at hSw); go_simp <;> with_reducible rfl)
        try simp only [Act.put, List.setIfInBounds_toArray, List.set_cons_zero, List.set_cons_succ]
        refine wpAnyH_take (i := 17) (oi := { dst := some 66, op := Op.move (Operand.tmp 7), type := 27, pos := "law.go:59", after := #[{ on := 14, ground := Ground.guard }], guard := some (14, false) }) (v := ?va17) rfl (by kernel_rfl) (by kernel_rfl) (by kernel_rfl) (fun _ _ _ h => h) (Or.inl ⟨by rfl, ?ha17⟩) (by assumption) ?ra17
        case ha17 => (intro wz hSw; (try dsimp only at hSw); go_simp <;> with_reducible rfl)
        try simp only [Act.put, List.setIfInBounds_toArray, List.set_cons_zero, List.set_cons_succ]
        refine wpAnyH_ready (rs := [16]) (by kernel_rfl) (by simp) ?_
        refine AllReadyH.cons (o := { dst := some 65, op := Op.call { callee := Callee.value (Operand.func 14), args := #[Operand.tmp 64], argTypes := #[23] }, type := 3, pos := "law.go:59", after := #[{ on := 15, ground := Ground.data }, { on := 14, ground := Ground.chain }, { on := 14, ground := Ground.guard }], guard := some (14, false) }) rfl (fun K hK => ?_) AllReadyH.nil
        go_simp
        refine (gg_readers P2.out ?_).mono ?_
        · exact ⟨rfl, rfl, rfl, rfl⟩
        rintro e v3 ⟨rfl, q, t⟩
        rw [HM.out]
        have T3 : Hid (AG v3 s z y0 y1) := t _ _ _ T2.out
        obtain ⟨k03, k13⟩ := T3.out.cells
        have k23 := q.r.c1
        have P3 : Hid (GG w v3 s st2 st2 L2 L2) := q
        clear q t
        (try go_wp2_with fail)
        refine hK.out _ _ ?sa16 (fun hHeld => ?ta16)
        case sa16 => go_keep
        clear hK K
        try simp only [Act.put, List.setIfInBounds_toArray, List.set_cons_zero, List.set_cons_succ]
        refine wpAnyH_ready (rs := [18]) (by kernel_rfl) (by simp) ?_
        refine AllReadyH.cons (o := { dst := some 67, op := Op.call { callee := Callee.value (Operand.func 15), args := #[Operand.tmp 66], argTypes := #[27] }, type := 3, pos := "law.go:59", after := #[{ on := 17, ground := Ground.data }, { on := 16, ground := Ground.chain }, { on := 14, ground := Ground.guard }], guard := some (14, false) }) rfl (fun K hK => ?_) AllReadyH.nil
        go_simp
        refine (gg_rreaders P3.out ?_).mono ?_
        · exact ⟨rfl, rfl, rfl, rfl⟩
        rintro e v4 ⟨rfl, q, t⟩
        rw [HM.out]
        have T4 : Hid (AG v4 s z y0 y1) := t _ _ _ T3.out
        obtain ⟨k04, k14⟩ := T4.out.cells
        have k24 := q.r.c1
        have P4 : Hid (GG w v4 s st2 st2 L2 L2) := q
        clear q t
        (try go_wp2_with fail)
        refine hK.out _ _ ?sa18 (fun hHeld => ?ta18)
        case sa18 => go_keep
        clear hK K
        try simp only [Act.put, List.setIfInBounds_toArray, List.set_cons_zero, List.set_cons_succ]
        refine wpAnyH_take (i := 19) (oi := { dst := some 68, op := Op.binOp BinOp.neq 3 (Operand.tmp 65) (Operand.tmp 67) 3, type := 4, pos := "law.go:59", after := #[{ on := 16, ground := Ground.data }, { on := 18, ground := Ground.data }, { on := 14, ground := Ground.guard }], guard := some (14, false) }) (v := ?va19) rfl (by kernel_rfl) (by kernel_rfl) (by kernel_rfl) (fun _ _ _ h => h) (Or.inl ⟨by rfl, ?ha19⟩) (by assumption) ?ra19
        case ha19 => (intro wz hSw; (try dsimp only at hSw); go_simp <;> with_reducible rfl)
        try simp only [Act.put, List.setIfInBounds_toArray, List.set_cons_zero, List.set_cons_succ]
        refine wpAnyH_take (i := 20) (oi := { dst := some 69, op := Op.pick (Operand.tmp 63) (Operand.const (Value.bool true)) (Operand.tmp 68), type := 4, pos := "law.go:59", after := #[{ on := 14, ground := Ground.data }, { on := 19, ground := Ground.data }], guard := none }) (v := ?va20) rfl (by kernel_rfl) (by kernel_rfl) (by kernel_rfl) (fun _ _ _ h => h) (Or.inl ⟨by rfl, ?ha20⟩) (by assumption) ?ra20
        case ha20 => (intro wz hSw; (try dsimp only at hSw); go_simp <;> with_reducible rfl)
        try simp only [Act.put, List.setIfInBounds_toArray, List.set_cons_zero, List.set_cons_succ]
        refine wpAnyH_done (by kernel_rfl) ?_ _
        clear Q0 A0 P1 P2 P3 T1 T2 T3 x0 x1 i0 i1 k0 k1 k2 k02 k12 k22 k03 k13 k23 HU0 HZZ HM n1 n2 hL
        obtain ⟨g, hg⟩ : ∃ g, gtN L2 y1 = g := ⟨_, rfl⟩
        have n3 : (g != g) = false := by simp
        have ON : Hid (∀ w1, Sm w1 v4 → _) := fun w1 e => gg_on y1 P4.out (w1 := w1) e
        rw [hg] at ON
        cases i : ic L2 y1 with
        | false =>
          rw [show gtN L2 y1 = 0 from if_neg (by rw [i]; simp)] at hg
          subst hg
          have hc : y1 < 0 ∨ (0 ≤ y1 ∧ (p : Int) ≤ y1) := by
            have a := of_decide_eq_false i
            have b := L1.out
            omega
          clear i
          rcases hc with hc | ⟨hc, hc2⟩
          all_goals (
            go_wp2_with fail
            refine (ON.out _ ⟨rfl, rfl, rfl, rfl⟩).mono ?_
            rintro e v5 ⟨rfl, q5, t5⟩
            have P5 : Hid (GG w v5 s st2 st2 L2 L2) := q5
            clear q5 t5
            go_wp2
            go_roundw
            case rel => exact ⟨k + 1, st2, L2, by omega, by omega, P5.out, L1.out, by go_num⟩
            case measure => simp [intOf]; omega)
        | true =>
          obtain ⟨c0, c1, c2⟩ := ic_lt i
          obtain ⟨j, rfl⟩ := Int.eq_ofNat_of_zero_le c0
          have hj : (j : Int) < p := by have := L1.out; omega
          have e1 := P4.out.r.c0
          have e2 := P4.out.r.at j (by omega)
          rw [show L2.getD j 0 = g by rw [← hg, show gtN L2 (j : Int) = at' L2 j from if_pos i]; unfold at'; rw [Int.toNat_natCast]] at e2
          rw [L1.out] at e1
          clear i c0 c1 c2 hg
          go_wp2_with fail
          go_quiet (fail)
          go_wp2_with fail
          refine (ON.out _ ?_).mono ?_
          · exact ⟨rfl, rfl, rfl, rfl⟩
          rintro e v5 ⟨rfl, q5, t5⟩
          have P5 : Hid (GG w v5 s st2 st2 L2 L2) := q5
          clear q5 t5
          go_wp2
          go_roundw
          case rel => exact ⟨k + 1, st2, L2, by omega, by omega, P5.out, L1.out, by go_num⟩
          case measure => simp [intOf]; omega

set_option maxRecDepth 100000 in
theorem lifted (os : Os) (started : os.Started) (H : Type) (enc : TypeId × Value → H) :
    ReturnsInHanded {} Try.checked os 3 .any (Rows.gatePlaysSpec.pre6 enc Try.prog Try.f3 Rows.gatePlaysRow.domain false) (Rows.gatePlaysSpec.post enc Try.prog Try.f3 false true false false) := by
  refine returnsInHanded_of_change (C := Try.checked) own started (by kernel_rfl) Try.func3
    (ChangeSpec.witness6 (enc := enc) (C := Try.checked) false ⟨#[], #[.int .i64 0, .slice none 0 0], []⟩ 8 (by kernel_rfl) (by kernel_rfl) (by kernel_rfl) (by kernel_rfl)) ?_
  intro W base args ds gs before hval0 hW hcnd _
  have hval : ∀ (j : Nat) t v, Try.f3.params[j]? = some t → args[j]? = some v → Value.okWide Try.prog W .any base t v := hval0
  have hW' := hW
  obtain ⟨p, q, hA0, hV, rfl, hfz, hnd⟩ := hW
  have hA : DataW.TrodAll enc Try.prog W 0 (fun _ => true) true Try.f3.params.toList args.toList ds p := hA0
  rw [Try.params3] at hA hval
  obtain ⟨v0, vs0, d0, ds0, p0, q0, hargs, rfl, rfl, h0, r0⟩ := trodAll_cons hA
  obtain ⟨v1, vs1, d1, ds1, p1, q1, rfl, rfl, rfl, h1, r1⟩ := trodAll_cons r0
  obtain ⟨rfl, rfl, rfl⟩ := trodAll_nil r1
  obtain rfl : args = #[v0, v1] := by cases args; simp_all
  obtain ⟨rfl, rfl⟩ := trodVars_none hV
  obtain ⟨a0, rfl, rfl, rfl, w0⟩ := open_int Try.underlying3 (hval 0 3 v0 rfl rfl) h0
  obtain ⟨a1, len1, cap1, rfl⟩ := okWide_slice Try.underlying22 (hval 1 22 v1 rfl rfl)
  have k1 := h1
  have lt1 : ∀ x ∈ p1, x.block < W.heap.size := by obtain ⟨m, hm⟩ := k1; exact DataW.trod_lt m _ _ _ hm
  obtain ⟨X1, w1, z1⟩ : ∃ X : Nat → Nat → Int, SRow W (.slice a1 len1 cap1) len1 [true, true] X ∧ ∀ i, i < len1 → ∀ j, j < [true, true].length → [true, true].getD j true = true → (Lit.int .i64 (X i j)).wf = true := by
    obtain ⟨fuel, hf⟩ := h1
    exact open_recs [true, true] Try.underlying22 Try.underlying32 (by kernel_rfl) rfl (by decide) (fun | 0, _ => ⟨_, rfl, rfl, by kernel_rfl, Try.underlying3⟩ | 1, _ => ⟨_, rfl, rfl, by kernel_rfl, Try.underlying3⟩ | n + 2, h => absurd h (by simp only [List.length]; omega)) hf
  clear hA0 hval0
  refine (walk a0 a1 len1 cap1 X1 W w0 w1 z1).mono fun e W' ⟨he, bel⟩ => ?_
  subst he
  exact ⟨_, rfl, _, _, _, [], _, [], hW', trodAll_mk1 (shut_bool Try.underlying4 _), (trodAll_cons_mk (shut_int Try.underlying3 w0) (trodAll_cons_mk (Below.trod laidOut (by kernel_rfl) (of_decide_eq_true (by kernel_rfl)) k1 bel lt1) trodAll_mk0)), rfl, bel.frame _, fun h => by cases h⟩

theorem over : Rows.GatePlaysSaid :=
  OpenClaim.holds_of_wide 3 Try.f3 rfl rfl rfl rfl rfl rfl rfl ⟨rfl, rfl, rfl, rfl, rfl⟩ rfl rfl rfl rfl rfl (by kernel_rfl) Try.func3 (by kernel_rfl)
    (of_decide_eq_true (by kernel_rfl)) (by unfold Func.isWrapper; first | (rw [if_pos (by decide +kernel)]; kernel_rfl) | (rw [if_neg (by decide +kernel)]; exact ⟨rfl, rfl⟩))
    (fun os started H enc _ => lifted os started H enc)
end Go.Proofs.Ytbmdfoohabipjaa.gatePlays

namespace Go.Proofs.Ytbmdfoohabipjaa
open Go
theorem gatePlays_holds : Rows.GatePlaysSaid := gatePlays.over
#print axioms gatePlays_holds
end Go.Proofs.Ytbmdfoohabipjaa
