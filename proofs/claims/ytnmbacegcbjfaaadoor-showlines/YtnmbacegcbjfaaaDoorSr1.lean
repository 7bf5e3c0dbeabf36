/- Records as lines: the document's line of a record. -/
import Derived.Test.YtnmbacegcbjfaaaDoorRows
import Derived.Test.YtnmbacegcbjfaaaDoorSv1
import Derived.Test.YtnmbacegcbjfaaaDoorWsd
import Derived.WalkKit
import Derived.ProofKit
import Derived.OpenShut
import Derived.BigQuiet
import Derived.WalkSmall
import Derived.WalkSpells
namespace Go.Proofs.YtnmbacegcbjfaaaDoor
open Go.ChangeShapes Go.WideShapes Go.ChangeAt Go.RowKit
open Wd Mm
set_option linter.unusedVariables false
set_option linter.unusedSimpArgs false
set_option maxRecDepth 100000

open Sv

def nrI (k : Int) : List UInt8 := if isR k then nrk k.toNat else []
set_option maxHeartbeats 2000000 in
theorem rrname_any (k : Int) (w : World) :
    Calls Tryd.prog 18 #[.int .i64 k] w fun e w' => e = .returned (.string (sb (nrI k))) ∧ Below w.heap.size w w' := by
  have HB : Hid (∀ o, Below w.heap.size w (w.alloc o)) := fun o => (Below.refl _ _).alloc (Nat.le_refl _) _
  by_cases h : isR k
  · have e : nrI k = nrk k.toNat := if_pos h
    unfold isR at h
    obtain rfl | rfl | rfl | rfl | rfl | rfl | rfl : k = 1 ∨ k = 2 ∨ k = 3 ∨ k = 4 ∨ k = 5 ∨ k = 6 ∨ k = 7 := by omega
    all_goals
      rw [e]
      clear e h
      go_enter Tryd.func18, Tryd.ntmps18
      go_wp2
      go_ret
      exact ⟨rfl, HB.out _⟩
  · have e : nrI k = [] := if_neg h
    rw [e]
    unfold isR at h
    by_cases h1 : k < 1
    · clear e h
      go_enter Tryd.func18, Tryd.ntmps18
      go_wp2
      go_ret
      exact ⟨rfl, HB.out _⟩
    · have h2 : 8 ≤ k := by omega
      have h3 : decide (k < 1) = false := decide_eq_false h1
      clear e h
      go_enter Tryd.func18, Tryd.ntmps18
      go_wp2
      go_ret
      exact ⟨rfl, HB.out _⟩

set_option maxHeartbeats 1000000 in
theorem rrfield_any (s : List UInt8) (l : UInt8) (n : Int) (hs : s.length ≤ 1000) (hn : inR n) (w : World) :
    Calls Tryd.prog 19 #[.string (sb s), .string (sb [l]), .int .i64 n] w fun e w' => e = .returned (.string (sb (s ++ fw l n))) ∧ w' = w := by
  have C : Hid (∀ w, _) := fun w => rnum_any n hn w
  have hl := Lib.itoa_length_le n hn.1 hn.2
  by_cases h : n = 0
  · have e : fw l n = [] := if_pos h
    have q : (n == 0) = true := by rw [beq_iff_eq]; exact h
    rw [e, List.append_nil]
    clear e h hn hl
    go_enter Tryd.func19, Tryd.ntmps19
    go_wp2
    go_ret
    exact ⟨rfl, rfl⟩
  · have e : fw l n = 32 :: l :: Lib.itoa n := if_neg h
    have q : (n == 0) = false := by rw [beq_eq_false_iff_ne]; exact h
    have A1 : ∀ W, (Op.stringOp .add (sb s) (sb [32])).run Tryd.prog W = .ok (.string (sb (s ++ [32]))) W := fun W => add_str _ _ (by simp; omega) W
    have A2 : ∀ W, (Op.stringOp .add (sb (s ++ [32])) (sb [l])).run Tryd.prog W = .ok (.string (sb (s ++ [32, l]))) W := fun W => by
      rw [add_str _ _ (by simp; omega) W]
      simp
    have A3 : ∀ W, (Op.stringOp .add (sb (s ++ [32, l])) (sb (Lib.itoa n))).run Tryd.prog W = .ok (.string (sb (s ++ 32 :: l :: Lib.itoa n))) W := fun W => by
      rw [add_str _ _ (by simp; omega) W]
      simp
    rw [e]
    generalize s ++ 32 :: l :: Lib.itoa n = X at *
    generalize Lib.itoa n = D at *
    generalize s ++ [32, l] = Y at *
    generalize s ++ [32] = Z at *
    clear e h hn hl hs
    go_enter Tryd.func19, Tryd.ntmps19
    go_wp2_with fail
    refine (C.out _).mono ?_
    rintro e u ⟨rfl, rfl⟩
    go_wp2
    go_ret
    exact ⟨rfl, rfl⟩

set_option maxHeartbeats 2000000 in
theorem rrline_any (r : Sv.R) (hr : r.wf) (w : World) :
    Calls Tryd.prog 8 #[.agg (R.vals r).toArray] w fun e w' => e = .returned (.string (sb (rl r))) ∧ Below w.heap.size w w' := by
  have CN : Hid (∀ w, _) := fun w => rrname_any r.k w
  have HA : Hid (Below w.heap.size w (w.alloc (.cells (R.vals r).toArray 28))) := (Below.refl _ _).alloc (Nat.le_refl _) _
  have KB : Hid (Blk (w.alloc (.cells (R.vals r).toArray 28)) w.heap.size (R.vals r) 28) := Blk.new w _ _
  by_cases hk : isR r.k
  · have e0 : nrI r.k = nrk r.k.toNat := if_pos hk
    have n0 := nrk_len r.k.toNat
    have q : (nrk r.k.toNat == []) = false := by
      rw [beq_eq_false_iff_ne]
      have h1 := nrk_pos hk
      exact (nr_no ⟨_, h1.1⟩).2.2.2 h1.2
    have q2 : ¬ nrk r.k.toNat = [] := by simpa using q
    have f1 := fw_len 99 r.c hr.c
    have f2 := fw_len 105 r.i hr.i
    have f3 := fw_len 110 r.n hr.n
    have e1 : rl r = ((nrk r.k.toNat ++ fw 99 r.c) ++ fw 105 r.i ++ fw 110 r.n) ++ fw 101 r.y := by
      rw [rl_yes hk]
      unfold tl
      simp
    have C1 : Hid (∀ w, _) := fun w => rrfield_any (nrk r.k.toNat) 99 r.c (by omega) hr.c w
    have C2 : Hid (∀ w, _) := fun w => rrfield_any (nrk r.k.toNat ++ fw 99 r.c) 105 r.i (by simp; omega) hr.i w
    have C3 : Hid (∀ w, _) := fun w => rrfield_any ((nrk r.k.toNat ++ fw 99 r.c) ++ fw 105 r.i) 110 r.n (by simp; omega) hr.n w
    have C4 : Hid (∀ w, _) := fun w => rrfield_any ((nrk r.k.toNat ++ fw 99 r.c) ++ fw 105 r.i ++ fw 110 r.n) 101 r.y (by simp; omega) hr.y w
    rw [e0] at CN
    rw [e1]
    generalize ((nrk r.k.toNat ++ fw 99 r.c) ++ fw 105 r.i ++ fw 110 r.n) ++ fw 101 r.y = X4 at *
    generalize (nrk r.k.toNat ++ fw 99 r.c) ++ fw 105 r.i ++ fw 110 r.n = X3 at *
    generalize (nrk r.k.toNat ++ fw 99 r.c) ++ fw 105 r.i = X2 at *
    generalize nrk r.k.toNat ++ fw 99 r.c = X1 at *
    generalize nrk r.k.toNat = X0 at *
    obtain ⟨k, c, i, n, y⟩ := r
    dsimp only [R.vals] at HA KB CN C1 C2 C3 C4 ⊢
    clear e0 e1 n0 f1 f2 f3 hk hr
    go_enter Tryd.func8, Tryd.ntmps8
    go_wp2_with fail
    refine (CN.out _).mono ?_
    rintro e u1 ⟨rfl, b1⟩
    have K1 := Blk.keep KB.out (Fr.of_below b1) (Blk.lt KB.out) (by simp)
    have k1 : u1.cell? ⟨w.heap.size, 1, none⟩ = some (.int .i64 c) := K1.cell 1
    have k2 : u1.cell? ⟨w.heap.size, 2, none⟩ = some (.int .i64 i) := K1.cell 2
    have k3 : u1.cell? ⟨w.heap.size, 3, none⟩ = some (.int .i64 n) := K1.cell 3
    have k4 : u1.cell? ⟨w.heap.size, 4, none⟩ = some (.int .i64 y) := K1.cell 4
    have BB : Hid (Below w.heap.size w u1) := HA.out.trans (b1.mono HA.out.size)
    clear K1 b1 HA KB CN
    go_wp2_with fail
    refine (C1.out _).mono ?_
    rintro e u ⟨rfl, rfl⟩
    go_wp2_with fail
    refine (C2.out _).mono ?_
    rintro e u ⟨rfl, rfl⟩
    go_wp2_with fail
    refine (C3.out _).mono ?_
    rintro e u ⟨rfl, rfl⟩
    go_wp2_with fail
    refine (C4.out _).mono ?_
    rintro e u ⟨rfl, rfl⟩
    go_wp2
    go_ret
    exact ⟨rfl, BB.out⟩
  · have e0 : nrI r.k = [] := if_neg hk
    rw [rl_no hk]
    rw [e0] at CN
    have q : (([] : List UInt8) == []) = true := rfl
    obtain ⟨k, c, i, n, y⟩ := r
    dsimp only [R.vals] at HA KB CN ⊢
    clear e0 hk hr KB
    go_enter Tryd.func8, Tryd.ntmps8
    go_wp2_with fail
    refine (CN.out _).mono ?_
    rintro e u1 ⟨rfl, b1⟩
    have BB : Hid (Below w.heap.size w u1) := HA.out.trans (b1.mono HA.out.size)
    clear b1 HA CN
    go_wp2
    go_ret
    exact ⟨rfl, BB.out⟩
end Go.Proofs.YtnmbacegcbjfaaaDoor
