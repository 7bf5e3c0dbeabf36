/- Records as lines: the laws of records there and back, and of lists of records. -/
import Derived.Test.YtnmbacegcbjfaaaDoorRows
import Derived.Test.YtnmbacegcbjfaaaDoorSx1
import Derived.Deep.RegionHeld3
import Derived.WalkKit
import Derived.ProofKit
import Derived.OpenShut
import Derived.BigQuiet
import Derived.WalkSmall
import Derived.WalkSpells
namespace Go.Proofs.YtnmbacegcbjfaaaDoor
open Go.ChangeShapes Go.WideShapes Go.ChangeAt Go.RowKit
open Wd Mm
set_option linter.unusedVariables false
set_option linter.unusedSimpArgs false
set_option maxRecDepth 100000

open Sv

set_option maxHeartbeats 8000000 in
theorem both_law (r : Sv.R) (hr : r.wf) (l : List UInt8) (w : World) (g : GW w) : Calls Tryd.prog 5 #[.agg (R.vals r).toArray, .string (sb l)] w fun e w' => e = .returned (.bool true) ∧ Below w.heap.size w w' := by
  have CK : Hid (∀ u, Below w.heap.size w u → _) := fun u b => known_yes u (g.below b)
  have CL : Hid (∀ u, Below w.heap.size w u → _) := fun u b => line_any r hr u (g.below b)
  have hl98 := rl_len r hr
  have CB : Hid (∀ u, Below w.heap.size w u → _) := fun u b => back_any (rl r) (by omega) u (g.below b)
  have BA : Hid (Below w.heap.size w (w.alloc (.cells (R.vals r).toArray 28))) := (Below.refl _ _).alloc (Nat.le_refl _) _
  have KA : Hid (Blk (w.alloc (.cells (R.vals r).toArray 28)) w.heap.size (R.vals r) 28) := Blk.new w _ _
  have LL : (200 < l.length) ∨ (¬ 200 < l.length) := Decidable.em _
  by_cases hk : isR r.k
  · have hb := bkR_some (bkp_rl hr hk)
    rw [hb] at CB
    have t1 : (1 : Int) ≤ r.k := hk.1
    have t2 : r.k ≤ 7 := hk.2
    generalize rl r = Z at *
    obtain ⟨k, c, i, n, y⟩ := r
    dsimp only [R.vals] at *
    clear hb hk hr hl98
    rcases LL with h | h
    · have h1 : (200 : Int) < (l.length : Int) := by omega
      clear g h
      go_enter Tryd.func5, Tryd.ntmps5
      go_wp2_with fail
      refine (CL.out _ BA.out).mono ?_
      rintro e u1 ⟨rfl, b1⟩
      have B1 : Hid (Below w.heap.size w u1) := BA.out.trans (b1.mono BA.out.size)
      have K1 : Hid (Blk u1 w.heap.size [.int .i64 k, .int .i64 c, .int .i64 i, .int .i64 n, .int .i64 y] 28) := Blk.keep KA.out (Fr.of_below b1) (Blk.lt KA.out) (by simp)
      clear b1 CL BA KA
      go_wp2_with fail
      refine (CB.out _ B1.out).mono ?_
      rintro e u2 ⟨rfl, b2⟩
      have K2 : Blk u2 w.heap.size [.int .i64 k, .int .i64 c, .int .i64 i, .int .i64 n, .int .i64 y] 28 := Blk.keep K1.out (Fr.of_below b2) (Blk.lt K1.out) (by simp)
      have K3 : Blk (u2.alloc (.cells #[.int .i64 k, .int .i64 c, .int .i64 i, .int .i64 n, .int .i64 y] 28)) w.heap.size [.int .i64 k, .int .i64 c, .int .i64 i, .int .i64 n, .int .i64 y] 28 := K2.alloc _
      have K4 : Blk (u2.alloc (.cells #[.int .i64 k, .int .i64 c, .int .i64 i, .int .i64 n, .int .i64 y] 28)) u2.heap.size [.int .i64 k, .int .i64 c, .int .i64 i, .int .i64 n, .int .i64 y] 28 := Blk.new u2 _ _
      have BB : Hid (Below w.heap.size w (u2.alloc (.cells #[.int .i64 k, .int .i64 c, .int .i64 i, .int .i64 n, .int .i64 y] 28))) := (B1.out.trans (b2.mono B1.out.size)).alloc (Nat.le_trans B1.out.size b2.size) _
      have k0 := K3.cell 0
      have k1 := K3.cell 1
      have k2 := K3.cell 2
      have k3 := K3.cell 3
      have k4 := K3.cell 4
      have m0 := K4.cell 0
      have m1 := K4.cell 1
      have m2 := K4.cell 2
      have m3 := K4.cell 3
      have m4 := K4.cell 4
      simp only [List.getElem?_cons_zero, List.getElem?_cons_succ] at k0 k1 k2 k3 k4 m0 m1 m2 m3 m4
      clear b2 K1 B1 K2 K3 K4 CB
      go_wp2_with fail
      refine (CK.out _ BB.out).mono ?_
      rintro e u3 ⟨rfl, b3⟩
      go_wp2
      go_ret
      exact ⟨rfl, BB.out.trans (b3.mono BB.out.size)⟩
    · have h1 : ¬ (200 : Int) < (l.length : Int) := by omega
      have h2 : decide ((200 : Int) < (l.length : Int)) = false := decide_eq_false h1
      have CC : Hid (∀ u, Below w.heap.size w u → _) := fun u b => back_any l (by omega) u (g.below b)
      rcases bk_two l with ⟨r2, _, hw2, _, he2, hb2⟩ | ⟨_, hb2⟩
      · have CM : Hid (∀ u, Below w.heap.size w u → _) := fun u b => line_any r2 hw2 u (g.below b)
        rw [hb2] at CC
        rw [he2] at CM
        obtain ⟨kq, cq, iq, nq, yq⟩ := r2
        dsimp only [R.vals] at CC CM
        clear g h hb2 hw2 he2
        go_enter Tryd.func5, Tryd.ntmps5
        go_wp2_with fail
        refine (CL.out _ BA.out).mono ?_
        rintro e u1 ⟨rfl, b1⟩
        have B1 : Hid (Below w.heap.size w u1) := BA.out.trans (b1.mono BA.out.size)
        have K1 : Hid (Blk u1 w.heap.size [.int .i64 k, .int .i64 c, .int .i64 i, .int .i64 n, .int .i64 y] 28) := Blk.keep KA.out (Fr.of_below b1) (Blk.lt KA.out) (by simp)
        clear b1 CL BA KA
        go_wp2_with fail
        refine (CB.out _ B1.out).mono ?_
        rintro e u2 ⟨rfl, b2⟩
        have K2 : Blk u2 w.heap.size [.int .i64 k, .int .i64 c, .int .i64 i, .int .i64 n, .int .i64 y] 28 := Blk.keep K1.out (Fr.of_below b2) (Blk.lt K1.out) (by simp)
        have K3 : Blk (u2.alloc (.cells #[.int .i64 k, .int .i64 c, .int .i64 i, .int .i64 n, .int .i64 y] 28)) w.heap.size [.int .i64 k, .int .i64 c, .int .i64 i, .int .i64 n, .int .i64 y] 28 := K2.alloc _
        have K4 : Blk (u2.alloc (.cells #[.int .i64 k, .int .i64 c, .int .i64 i, .int .i64 n, .int .i64 y] 28)) u2.heap.size [.int .i64 k, .int .i64 c, .int .i64 i, .int .i64 n, .int .i64 y] 28 := Blk.new u2 _ _
        have BB : Hid (Below w.heap.size w (u2.alloc (.cells #[.int .i64 k, .int .i64 c, .int .i64 i, .int .i64 n, .int .i64 y] 28))) := (B1.out.trans (b2.mono B1.out.size)).alloc (Nat.le_trans B1.out.size b2.size) _
        have k0 := K3.cell 0
        have k1 := K3.cell 1
        have k2 := K3.cell 2
        have k3 := K3.cell 3
        have k4 := K3.cell 4
        have m0 := K4.cell 0
        have m1 := K4.cell 1
        have m2 := K4.cell 2
        have m3 := K4.cell 3
        have m4 := K4.cell 4
        simp only [List.getElem?_cons_zero, List.getElem?_cons_succ] at k0 k1 k2 k3 k4 m0 m1 m2 m3 m4
        clear b2 K1 B1 K2 K3 K4 CB
        go_wp2_with fail
        refine (CC.out _ BB.out).mono ?_
        rintro e u3 ⟨rfl, b3⟩
        have K5 : Blk (u3.alloc (.cells #[.int .i64 kq, .int .i64 cq, .int .i64 iq, .int .i64 nq, .int .i64 yq] 28)) u3.heap.size [.int .i64 kq, .int .i64 cq, .int .i64 iq, .int .i64 nq, .int .i64 yq] 28 := Blk.new u3 _ _
        have BC : Hid (Below w.heap.size w (u3.alloc (.cells #[.int .i64 kq, .int .i64 cq, .int .i64 iq, .int .i64 nq, .int .i64 yq] 28))) := (BB.out.trans (b3.mono BB.out.size)).alloc (Nat.le_trans BB.out.size b3.size) _
        have l0 := K5.cell 0
        have l1 := K5.cell 1
        have l2 := K5.cell 2
        have l3 := K5.cell 3
        have l4 := K5.cell 4
        simp only [List.getElem?_cons_zero, List.getElem?_cons_succ] at l0 l1 l2 l3 l4
        clear b3 CC K5 BB k0 k1 k2 k3 k4 m0 m1 m2 m3 m4
        go_wp2_with fail
        refine (CM.out _ BC.out).mono ?_
        rintro e u4 ⟨rfl, b4⟩
        have BD : Hid (Below w.heap.size w u4) := BC.out.trans (b4.mono BC.out.size)
        clear b4 CM
        go_wp2_with fail
        refine (CK.out _ BD.out).mono ?_
        rintro e u5 ⟨rfl, b5⟩
        go_wp2
        go_ret
        exact ⟨rfl, BD.out.trans (b5.mono BD.out.size)⟩
      · rw [hb2] at CC
        dsimp only [R.vals, R0] at CC
        clear g h hb2
        go_enter Tryd.func5, Tryd.ntmps5
        go_wp2_with fail
        refine (CL.out _ BA.out).mono ?_
        rintro e u1 ⟨rfl, b1⟩
        have B1 : Hid (Below w.heap.size w u1) := BA.out.trans (b1.mono BA.out.size)
        have K1 : Hid (Blk u1 w.heap.size [.int .i64 k, .int .i64 c, .int .i64 i, .int .i64 n, .int .i64 y] 28) := Blk.keep KA.out (Fr.of_below b1) (Blk.lt KA.out) (by simp)
        clear b1 CL BA KA
        go_wp2_with fail
        refine (CB.out _ B1.out).mono ?_
        rintro e u2 ⟨rfl, b2⟩
        have K2 : Blk u2 w.heap.size [.int .i64 k, .int .i64 c, .int .i64 i, .int .i64 n, .int .i64 y] 28 := Blk.keep K1.out (Fr.of_below b2) (Blk.lt K1.out) (by simp)
        have K3 : Blk (u2.alloc (.cells #[.int .i64 k, .int .i64 c, .int .i64 i, .int .i64 n, .int .i64 y] 28)) w.heap.size [.int .i64 k, .int .i64 c, .int .i64 i, .int .i64 n, .int .i64 y] 28 := K2.alloc _
        have K4 : Blk (u2.alloc (.cells #[.int .i64 k, .int .i64 c, .int .i64 i, .int .i64 n, .int .i64 y] 28)) u2.heap.size [.int .i64 k, .int .i64 c, .int .i64 i, .int .i64 n, .int .i64 y] 28 := Blk.new u2 _ _
        have BB : Hid (Below w.heap.size w (u2.alloc (.cells #[.int .i64 k, .int .i64 c, .int .i64 i, .int .i64 n, .int .i64 y] 28))) := (B1.out.trans (b2.mono B1.out.size)).alloc (Nat.le_trans B1.out.size b2.size) _
        have k0 := K3.cell 0
        have k1 := K3.cell 1
        have k2 := K3.cell 2
        have k3 := K3.cell 3
        have k4 := K3.cell 4
        have m0 := K4.cell 0
        have m1 := K4.cell 1
        have m2 := K4.cell 2
        have m3 := K4.cell 3
        have m4 := K4.cell 4
        simp only [List.getElem?_cons_zero, List.getElem?_cons_succ] at k0 k1 k2 k3 k4 m0 m1 m2 m3 m4
        clear b2 K1 B1 K2 K3 K4 CB
        go_wp2_with fail
        refine (CC.out _ BB.out).mono ?_
        rintro e u3 ⟨rfl, b3⟩
        have K5 : Blk (u3.alloc (.cells #[.int .i64 0, .int .i64 0, .int .i64 0, .int .i64 0, .int .i64 0] 28)) u3.heap.size [.int .i64 0, .int .i64 0, .int .i64 0, .int .i64 0, .int .i64 0] 28 := Blk.new u3 _ _
        have BC : Hid (Below w.heap.size w (u3.alloc (.cells #[.int .i64 0, .int .i64 0, .int .i64 0, .int .i64 0, .int .i64 0] 28))) := (BB.out.trans (b3.mono BB.out.size)).alloc (Nat.le_trans BB.out.size b3.size) _
        have l0 := K5.cell 0
        have l1 := K5.cell 1
        have l2 := K5.cell 2
        have l3 := K5.cell 3
        have l4 := K5.cell 4
        simp only [List.getElem?_cons_zero, List.getElem?_cons_succ] at l0 l1 l2 l3 l4
        clear b3 CC K5 BB k0 k1 k2 k3 k4 m0 m1 m2 m3 m4
        go_wp2_with fail
        refine (CK.out _ BC.out).mono ?_
        rintro e u5 ⟨rfl, b5⟩
        go_wp2
        go_ret
        exact ⟨rfl, BC.out.trans (b5.mono BC.out.size)⟩
  · have e0 := rl_no hk
    rw [e0] at CL CB
    rw [bkR_none bkp_nil] at CB
    have hk2 : r.k < 1 ∨ ¬ r.k ≤ 7 ∧ (1 : Int) ≤ r.k := by unfold isR at hk; omega
    have q0 : (([] : List UInt8) == []) = true := rfl
    obtain ⟨k, c, i, n, y⟩ := r
    dsimp only [R.vals, R0] at *
    clear e0 hk hr hl98
    rcases hk2 with t1 | ⟨t2, t1⟩
    · have t3 : ¬ (1 : Int) ≤ k := by omega
      have t4 : decide ((1 : Int) ≤ k) = false := decide_eq_false t3
      rcases LL with h | h
      · have h1 : (200 : Int) < (l.length : Int) := by omega
        clear g h
        go_enter Tryd.func5, Tryd.ntmps5
        go_wp2_with fail
        refine (CL.out _ BA.out).mono ?_
        rintro e u1 ⟨rfl, b1⟩
        have B1 : Hid (Below w.heap.size w u1) := BA.out.trans (b1.mono BA.out.size)
        have K1 : Hid (Blk u1 w.heap.size [.int .i64 k, .int .i64 c, .int .i64 i, .int .i64 n, .int .i64 y] 28) := Blk.keep KA.out (Fr.of_below b1) (Blk.lt KA.out) (by simp)
        clear b1 CL BA KA
        go_wp2_with fail
        refine (CB.out _ B1.out).mono ?_
        rintro e u2 ⟨rfl, b2⟩
        have K2 : Blk u2 w.heap.size [.int .i64 k, .int .i64 c, .int .i64 i, .int .i64 n, .int .i64 y] 28 := Blk.keep K1.out (Fr.of_below b2) (Blk.lt K1.out) (by simp)
        have K3 : Blk (u2.alloc (.cells #[.int .i64 0, .int .i64 0, .int .i64 0, .int .i64 0, .int .i64 0] 28)) w.heap.size [.int .i64 k, .int .i64 c, .int .i64 i, .int .i64 n, .int .i64 y] 28 := K2.alloc _
        have K4 : Blk (u2.alloc (.cells #[.int .i64 0, .int .i64 0, .int .i64 0, .int .i64 0, .int .i64 0] 28)) u2.heap.size [.int .i64 0, .int .i64 0, .int .i64 0, .int .i64 0, .int .i64 0] 28 := Blk.new u2 _ _
        have BB : Hid (Below w.heap.size w (u2.alloc (.cells #[.int .i64 0, .int .i64 0, .int .i64 0, .int .i64 0, .int .i64 0] 28))) := (B1.out.trans (b2.mono B1.out.size)).alloc (Nat.le_trans B1.out.size b2.size) _
        have k0 := K3.cell 0
        have k1 := K3.cell 1
        have k2 := K3.cell 2
        have k3 := K3.cell 3
        have k4 := K3.cell 4
        have m0 := K4.cell 0
        have m1 := K4.cell 1
        have m2 := K4.cell 2
        have m3 := K4.cell 3
        have m4 := K4.cell 4
        simp only [List.getElem?_cons_zero, List.getElem?_cons_succ] at k0 k1 k2 k3 k4 m0 m1 m2 m3 m4
        clear b2 K1 B1 K2 K3 K4 CB
        go_wp2_with fail
        refine (CK.out _ BB.out).mono ?_
        rintro e u3 ⟨rfl, b3⟩
        go_wp2
        go_ret
        exact ⟨rfl, BB.out.trans (b3.mono BB.out.size)⟩
      · have h1 : ¬ (200 : Int) < (l.length : Int) := by omega
        have h2 : decide ((200 : Int) < (l.length : Int)) = false := decide_eq_false h1
        have CC : Hid (∀ u, Below w.heap.size w u → _) := fun u b => back_any l (by omega) u (g.below b)
        rcases bk_two l with ⟨r2, _, hw2, _, he2, hb2⟩ | ⟨_, hb2⟩
        · have CM : Hid (∀ u, Below w.heap.size w u → _) := fun u b => line_any r2 hw2 u (g.below b)
          rw [hb2] at CC
          rw [he2] at CM
          obtain ⟨kq, cq, iq, nq, yq⟩ := r2
          dsimp only [R.vals] at CC CM
          clear g h hb2 hw2 he2
          go_enter Tryd.func5, Tryd.ntmps5
          go_wp2_with fail
          refine (CL.out _ BA.out).mono ?_
          rintro e u1 ⟨rfl, b1⟩
          have B1 : Hid (Below w.heap.size w u1) := BA.out.trans (b1.mono BA.out.size)
          have K1 : Hid (Blk u1 w.heap.size [.int .i64 k, .int .i64 c, .int .i64 i, .int .i64 n, .int .i64 y] 28) := Blk.keep KA.out (Fr.of_below b1) (Blk.lt KA.out) (by simp)
          clear b1 CL BA KA
          go_wp2_with fail
          refine (CB.out _ B1.out).mono ?_
          rintro e u2 ⟨rfl, b2⟩
          have K2 : Blk u2 w.heap.size [.int .i64 k, .int .i64 c, .int .i64 i, .int .i64 n, .int .i64 y] 28 := Blk.keep K1.out (Fr.of_below b2) (Blk.lt K1.out) (by simp)
          have K3 : Blk (u2.alloc (.cells #[.int .i64 0, .int .i64 0, .int .i64 0, .int .i64 0, .int .i64 0] 28)) w.heap.size [.int .i64 k, .int .i64 c, .int .i64 i, .int .i64 n, .int .i64 y] 28 := K2.alloc _
          have K4 : Blk (u2.alloc (.cells #[.int .i64 0, .int .i64 0, .int .i64 0, .int .i64 0, .int .i64 0] 28)) u2.heap.size [.int .i64 0, .int .i64 0, .int .i64 0, .int .i64 0, .int .i64 0] 28 := Blk.new u2 _ _
          have BB : Hid (Below w.heap.size w (u2.alloc (.cells #[.int .i64 0, .int .i64 0, .int .i64 0, .int .i64 0, .int .i64 0] 28))) := (B1.out.trans (b2.mono B1.out.size)).alloc (Nat.le_trans B1.out.size b2.size) _
          have k0 := K3.cell 0
          have k1 := K3.cell 1
          have k2 := K3.cell 2
          have k3 := K3.cell 3
          have k4 := K3.cell 4
          have m0 := K4.cell 0
          have m1 := K4.cell 1
          have m2 := K4.cell 2
          have m3 := K4.cell 3
          have m4 := K4.cell 4
          simp only [List.getElem?_cons_zero, List.getElem?_cons_succ] at k0 k1 k2 k3 k4 m0 m1 m2 m3 m4
          clear b2 K1 B1 K2 K3 K4 CB
          go_wp2_with fail
          refine (CC.out _ BB.out).mono ?_
          rintro e u3 ⟨rfl, b3⟩
          have K5 : Blk (u3.alloc (.cells #[.int .i64 kq, .int .i64 cq, .int .i64 iq, .int .i64 nq, .int .i64 yq] 28)) u3.heap.size [.int .i64 kq, .int .i64 cq, .int .i64 iq, .int .i64 nq, .int .i64 yq] 28 := Blk.new u3 _ _
          have BC : Hid (Below w.heap.size w (u3.alloc (.cells #[.int .i64 kq, .int .i64 cq, .int .i64 iq, .int .i64 nq, .int .i64 yq] 28))) := (BB.out.trans (b3.mono BB.out.size)).alloc (Nat.le_trans BB.out.size b3.size) _
          have l0 := K5.cell 0
          have l1 := K5.cell 1
          have l2 := K5.cell 2
          have l3 := K5.cell 3
          have l4 := K5.cell 4
          simp only [List.getElem?_cons_zero, List.getElem?_cons_succ] at l0 l1 l2 l3 l4
          clear b3 CC K5 BB k0 k1 k2 k3 k4 m0 m1 m2 m3 m4
          go_wp2_with fail
          refine (CM.out _ BC.out).mono ?_
          rintro e u4 ⟨rfl, b4⟩
          have BD : Hid (Below w.heap.size w u4) := BC.out.trans (b4.mono BC.out.size)
          clear b4 CM
          go_wp2_with fail
          refine (CK.out _ BD.out).mono ?_
          rintro e u5 ⟨rfl, b5⟩
          go_wp2
          go_ret
          exact ⟨rfl, BD.out.trans (b5.mono BD.out.size)⟩
        · rw [hb2] at CC
          dsimp only [R.vals, R0] at CC
          clear g h hb2
          go_enter Tryd.func5, Tryd.ntmps5
          go_wp2_with fail
          refine (CL.out _ BA.out).mono ?_
          rintro e u1 ⟨rfl, b1⟩
          have B1 : Hid (Below w.heap.size w u1) := BA.out.trans (b1.mono BA.out.size)
          have K1 : Hid (Blk u1 w.heap.size [.int .i64 k, .int .i64 c, .int .i64 i, .int .i64 n, .int .i64 y] 28) := Blk.keep KA.out (Fr.of_below b1) (Blk.lt KA.out) (by simp)
          clear b1 CL BA KA
          go_wp2_with fail
          refine (CB.out _ B1.out).mono ?_
          rintro e u2 ⟨rfl, b2⟩
          have K2 : Blk u2 w.heap.size [.int .i64 k, .int .i64 c, .int .i64 i, .int .i64 n, .int .i64 y] 28 := Blk.keep K1.out (Fr.of_below b2) (Blk.lt K1.out) (by simp)
          have K3 : Blk (u2.alloc (.cells #[.int .i64 0, .int .i64 0, .int .i64 0, .int .i64 0, .int .i64 0] 28)) w.heap.size [.int .i64 k, .int .i64 c, .int .i64 i, .int .i64 n, .int .i64 y] 28 := K2.alloc _
          have K4 : Blk (u2.alloc (.cells #[.int .i64 0, .int .i64 0, .int .i64 0, .int .i64 0, .int .i64 0] 28)) u2.heap.size [.int .i64 0, .int .i64 0, .int .i64 0, .int .i64 0, .int .i64 0] 28 := Blk.new u2 _ _
          have BB : Hid (Below w.heap.size w (u2.alloc (.cells #[.int .i64 0, .int .i64 0, .int .i64 0, .int .i64 0, .int .i64 0] 28))) := (B1.out.trans (b2.mono B1.out.size)).alloc (Nat.le_trans B1.out.size b2.size) _
          have k0 := K3.cell 0
          have k1 := K3.cell 1
          have k2 := K3.cell 2
          have k3 := K3.cell 3
          have k4 := K3.cell 4
          have m0 := K4.cell 0
          have m1 := K4.cell 1
          have m2 := K4.cell 2
          have m3 := K4.cell 3
          have m4 := K4.cell 4
          simp only [List.getElem?_cons_zero, List.getElem?_cons_succ] at k0 k1 k2 k3 k4 m0 m1 m2 m3 m4
          clear b2 K1 B1 K2 K3 K4 CB
          go_wp2_with fail
          refine (CC.out _ BB.out).mono ?_
          rintro e u3 ⟨rfl, b3⟩
          have K5 : Blk (u3.alloc (.cells #[.int .i64 0, .int .i64 0, .int .i64 0, .int .i64 0, .int .i64 0] 28)) u3.heap.size [.int .i64 0, .int .i64 0, .int .i64 0, .int .i64 0, .int .i64 0] 28 := Blk.new u3 _ _
          have BC : Hid (Below w.heap.size w (u3.alloc (.cells #[.int .i64 0, .int .i64 0, .int .i64 0, .int .i64 0, .int .i64 0] 28))) := (BB.out.trans (b3.mono BB.out.size)).alloc (Nat.le_trans BB.out.size b3.size) _
          have l0 := K5.cell 0
          have l1 := K5.cell 1
          have l2 := K5.cell 2
          have l3 := K5.cell 3
          have l4 := K5.cell 4
          simp only [List.getElem?_cons_zero, List.getElem?_cons_succ] at l0 l1 l2 l3 l4
          clear b3 CC K5 BB k0 k1 k2 k3 k4 m0 m1 m2 m3 m4
          go_wp2_with fail
          refine (CK.out _ BC.out).mono ?_
          rintro e u5 ⟨rfl, b5⟩
          go_wp2
          go_ret
          exact ⟨rfl, BC.out.trans (b5.mono BC.out.size)⟩
    · have t4 : decide (k ≤ 7) = false := decide_eq_false t2
      rcases LL with h | h
      · have h1 : (200 : Int) < (l.length : Int) := by omega
        clear g h
        go_enter Tryd.func5, Tryd.ntmps5
        go_wp2_with fail
        refine (CL.out _ BA.out).mono ?_
        rintro e u1 ⟨rfl, b1⟩
        have B1 : Hid (Below w.heap.size w u1) := BA.out.trans (b1.mono BA.out.size)
        have K1 : Hid (Blk u1 w.heap.size [.int .i64 k, .int .i64 c, .int .i64 i, .int .i64 n, .int .i64 y] 28) := Blk.keep KA.out (Fr.of_below b1) (Blk.lt KA.out) (by simp)
        clear b1 CL BA KA
        go_wp2_with fail
        refine (CB.out _ B1.out).mono ?_
        rintro e u2 ⟨rfl, b2⟩
        have K2 : Blk u2 w.heap.size [.int .i64 k, .int .i64 c, .int .i64 i, .int .i64 n, .int .i64 y] 28 := Blk.keep K1.out (Fr.of_below b2) (Blk.lt K1.out) (by simp)
        have K3 : Blk (u2.alloc (.cells #[.int .i64 0, .int .i64 0, .int .i64 0, .int .i64 0, .int .i64 0] 28)) w.heap.size [.int .i64 k, .int .i64 c, .int .i64 i, .int .i64 n, .int .i64 y] 28 := K2.alloc _
        have K4 : Blk (u2.alloc (.cells #[.int .i64 0, .int .i64 0, .int .i64 0, .int .i64 0, .int .i64 0] 28)) u2.heap.size [.int .i64 0, .int .i64 0, .int .i64 0, .int .i64 0, .int .i64 0] 28 := Blk.new u2 _ _
        have BB : Hid (Below w.heap.size w (u2.alloc (.cells #[.int .i64 0, .int .i64 0, .int .i64 0, .int .i64 0, .int .i64 0] 28))) := (B1.out.trans (b2.mono B1.out.size)).alloc (Nat.le_trans B1.out.size b2.size) _
        have k0 := K3.cell 0
        have k1 := K3.cell 1
        have k2 := K3.cell 2
        have k3 := K3.cell 3
        have k4 := K3.cell 4
        have m0 := K4.cell 0
        have m1 := K4.cell 1
        have m2 := K4.cell 2
        have m3 := K4.cell 3
        have m4 := K4.cell 4
        simp only [List.getElem?_cons_zero, List.getElem?_cons_succ] at k0 k1 k2 k3 k4 m0 m1 m2 m3 m4
        clear b2 K1 B1 K2 K3 K4 CB
        go_wp2_with fail
        refine (CK.out _ BB.out).mono ?_
        rintro e u3 ⟨rfl, b3⟩
        go_wp2
        go_ret
        exact ⟨rfl, BB.out.trans (b3.mono BB.out.size)⟩
      · have h1 : ¬ (200 : Int) < (l.length : Int) := by omega
        have h2 : decide ((200 : Int) < (l.length : Int)) = false := decide_eq_false h1
        have CC : Hid (∀ u, Below w.heap.size w u → _) := fun u b => back_any l (by omega) u (g.below b)
        rcases bk_two l with ⟨r2, _, hw2, _, he2, hb2⟩ | ⟨_, hb2⟩
        · have CM : Hid (∀ u, Below w.heap.size w u → _) := fun u b => line_any r2 hw2 u (g.below b)
          rw [hb2] at CC
          rw [he2] at CM
          obtain ⟨kq, cq, iq, nq, yq⟩ := r2
          dsimp only [R.vals] at CC CM
          clear g h hb2 hw2 he2
          go_enter Tryd.func5, Tryd.ntmps5
          go_wp2_with fail
          refine (CL.out _ BA.out).mono ?_
          rintro e u1 ⟨rfl, b1⟩
          have B1 : Hid (Below w.heap.size w u1) := BA.out.trans (b1.mono BA.out.size)
          have K1 : Hid (Blk u1 w.heap.size [.int .i64 k, .int .i64 c, .int .i64 i, .int .i64 n, .int .i64 y] 28) := Blk.keep KA.out (Fr.of_below b1) (Blk.lt KA.out) (by simp)
          clear b1 CL BA KA
          go_wp2_with fail
          refine (CB.out _ B1.out).mono ?_
          rintro e u2 ⟨rfl, b2⟩
          have K2 : Blk u2 w.heap.size [.int .i64 k, .int .i64 c, .int .i64 i, .int .i64 n, .int .i64 y] 28 := Blk.keep K1.out (Fr.of_below b2) (Blk.lt K1.out) (by simp)
          have K3 : Blk (u2.alloc (.cells #[.int .i64 0, .int .i64 0, .int .i64 0, .int .i64 0, .int .i64 0] 28)) w.heap.size [.int .i64 k, .int .i64 c, .int .i64 i, .int .i64 n, .int .i64 y] 28 := K2.alloc _
          have K4 : Blk (u2.alloc (.cells #[.int .i64 0, .int .i64 0, .int .i64 0, .int .i64 0, .int .i64 0] 28)) u2.heap.size [.int .i64 0, .int .i64 0, .int .i64 0, .int .i64 0, .int .i64 0] 28 := Blk.new u2 _ _
          have BB : Hid (Below w.heap.size w (u2.alloc (.cells #[.int .i64 0, .int .i64 0, .int .i64 0, .int .i64 0, .int .i64 0] 28))) := (B1.out.trans (b2.mono B1.out.size)).alloc (Nat.le_trans B1.out.size b2.size) _
          have k0 := K3.cell 0
          have k1 := K3.cell 1
          have k2 := K3.cell 2
          have k3 := K3.cell 3
          have k4 := K3.cell 4
          have m0 := K4.cell 0
          have m1 := K4.cell 1
          have m2 := K4.cell 2
          have m3 := K4.cell 3
          have m4 := K4.cell 4
          simp only [List.getElem?_cons_zero, List.getElem?_cons_succ] at k0 k1 k2 k3 k4 m0 m1 m2 m3 m4
          clear b2 K1 B1 K2 K3 K4 CB
          go_wp2_with fail
          refine (CC.out _ BB.out).mono ?_
          rintro e u3 ⟨rfl, b3⟩
          have K5 : Blk (u3.alloc (.cells #[.int .i64 kq, .int .i64 cq, .int .i64 iq, .int .i64 nq, .int .i64 yq] 28)) u3.heap.size [.int .i64 kq, .int .i64 cq, .int .i64 iq, .int .i64 nq, .int .i64 yq] 28 := Blk.new u3 _ _
          have BC : Hid (Below w.heap.size w (u3.alloc (.cells #[.int .i64 kq, .int .i64 cq, .int .i64 iq, .int .i64 nq, .int .i64 yq] 28))) := (BB.out.trans (b3.mono BB.out.size)).alloc (Nat.le_trans BB.out.size b3.size) _
          have l0 := K5.cell 0
          have l1 := K5.cell 1
          have l2 := K5.cell 2
          have l3 := K5.cell 3
          have l4 := K5.cell 4
          simp only [List.getElem?_cons_zero, List.getElem?_cons_succ] at l0 l1 l2 l3 l4
          clear b3 CC K5 BB k0 k1 k2 k3 k4 m0 m1 m2 m3 m4
          go_wp2_with fail
          refine (CM.out _ BC.out).mono ?_
          rintro e u4 ⟨rfl, b4⟩
          have BD : Hid (Below w.heap.size w u4) := BC.out.trans (b4.mono BC.out.size)
          clear b4 CM
          go_wp2_with fail
          refine (CK.out _ BD.out).mono ?_
          rintro e u5 ⟨rfl, b5⟩
          go_wp2
          go_ret
          exact ⟨rfl, BD.out.trans (b5.mono BD.out.size)⟩
        · rw [hb2] at CC
          dsimp only [R.vals, R0] at CC
          clear g h hb2
          go_enter Tryd.func5, Tryd.ntmps5
          go_wp2_with fail
          refine (CL.out _ BA.out).mono ?_
          rintro e u1 ⟨rfl, b1⟩
          have B1 : Hid (Below w.heap.size w u1) := BA.out.trans (b1.mono BA.out.size)
          have K1 : Hid (Blk u1 w.heap.size [.int .i64 k, .int .i64 c, .int .i64 i, .int .i64 n, .int .i64 y] 28) := Blk.keep KA.out (Fr.of_below b1) (Blk.lt KA.out) (by simp)
          clear b1 CL BA KA
          go_wp2_with fail
          refine (CB.out _ B1.out).mono ?_
          rintro e u2 ⟨rfl, b2⟩
          have K2 : Blk u2 w.heap.size [.int .i64 k, .int .i64 c, .int .i64 i, .int .i64 n, .int .i64 y] 28 := Blk.keep K1.out (Fr.of_below b2) (Blk.lt K1.out) (by simp)
          have K3 : Blk (u2.alloc (.cells #[.int .i64 0, .int .i64 0, .int .i64 0, .int .i64 0, .int .i64 0] 28)) w.heap.size [.int .i64 k, .int .i64 c, .int .i64 i, .int .i64 n, .int .i64 y] 28 := K2.alloc _
          have K4 : Blk (u2.alloc (.cells #[.int .i64 0, .int .i64 0, .int .i64 0, .int .i64 0, .int .i64 0] 28)) u2.heap.size [.int .i64 0, .int .i64 0, .int .i64 0, .int .i64 0, .int .i64 0] 28 := Blk.new u2 _ _
          have BB : Hid (Below w.heap.size w (u2.alloc (.cells #[.int .i64 0, .int .i64 0, .int .i64 0, .int .i64 0, .int .i64 0] 28))) := (B1.out.trans (b2.mono B1.out.size)).alloc (Nat.le_trans B1.out.size b2.size) _
          have k0 := K3.cell 0
          have k1 := K3.cell 1
          have k2 := K3.cell 2
          have k3 := K3.cell 3
          have k4 := K3.cell 4
          have m0 := K4.cell 0
          have m1 := K4.cell 1
          have m2 := K4.cell 2
          have m3 := K4.cell 3
          have m4 := K4.cell 4
          simp only [List.getElem?_cons_zero, List.getElem?_cons_succ] at k0 k1 k2 k3 k4 m0 m1 m2 m3 m4
          clear b2 K1 B1 K2 K3 K4 CB
          go_wp2_with fail
          refine (CC.out _ BB.out).mono ?_
          rintro e u3 ⟨rfl, b3⟩
          have K5 : Blk (u3.alloc (.cells #[.int .i64 0, .int .i64 0, .int .i64 0, .int .i64 0, .int .i64 0] 28)) u3.heap.size [.int .i64 0, .int .i64 0, .int .i64 0, .int .i64 0, .int .i64 0] 28 := Blk.new u3 _ _
          have BC : Hid (Below w.heap.size w (u3.alloc (.cells #[.int .i64 0, .int .i64 0, .int .i64 0, .int .i64 0, .int .i64 0] 28))) := (BB.out.trans (b3.mono BB.out.size)).alloc (Nat.le_trans BB.out.size b3.size) _
          have l0 := K5.cell 0
          have l1 := K5.cell 1
          have l2 := K5.cell 2
          have l3 := K5.cell 3
          have l4 := K5.cell 4
          simp only [List.getElem?_cons_zero, List.getElem?_cons_succ] at l0 l1 l2 l3 l4
          clear b3 CC K5 BB k0 k1 k2 k3 k4 m0 m1 m2 m3 m4
          go_wp2_with fail
          refine (CK.out _ BC.out).mono ?_
          rintro e u5 ⟨rfl, b5⟩
          go_wp2
          go_ret
          exact ⟨rfl, BC.out.trans (b5.mono BC.out.size)⟩
end Go.Proofs.YtnmbacegcbjfaaaDoor
