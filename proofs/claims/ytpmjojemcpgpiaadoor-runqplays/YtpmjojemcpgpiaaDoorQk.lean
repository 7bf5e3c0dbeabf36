/- What prio's Back answers and leaves, for every queue. -/
import Derived.Test.YtpmjojemcpgpiaaDoorQd
import Derived.WalkKit
import Derived.ProofKit
import Derived.OpenShut
import Derived.BigQuiet
namespace Go.Proofs.YtpmjojemcpgpiaaDoor
open Go.ChangeShapes Go.WideShapes Go.ChangeAt Go.RowKit
open Fm Qm

set_option maxHeartbeats 1000000 in
theorem pback_any {s m : Nat} {X : Its} (n : Int) (w : World) (h : PQ w s m X) :
    Calls Tryd.prog 52 #[.pointer (some ⟨s, 0, none⟩), .int .i64 n] w fun e w' => e = .returned (.int .i64 (drE X n)) ∧ PQ w' s m (bkX X n) ∧ Fr w.heap.size (zn s) w w' := by
  have HP : Hid (PQ w s m X) := h
  have C : Hid (∀ _ : Unit, _) := fun _ => prio_any n w h
  have D : Hid (∀ w1 : World, Below w.heap.size w w1 → _) := fun w1 b => pdrop_any n w1 (HP.out.below b)
  by_cases c : n ∈ ids X
  · rw [show drE X n = 0 from if_pos c] at D
    rw [show drE X n = 0 from if_pos c, show bkX X n = del X n ++ [(prP X n, n)] from if_pos c]
    have hr := prP_rg h.ok n
    have P : Hid (∀ w1 : World, PQ w1 s m (del X n) → _) := fun w1 h1 => ppush_any (prP X n) n w1 h1
    have hno : ¬(prP X n < 0 ∨ 8 ≤ prP X n) := by omega
    have hl : ¬ m ≤ (del X n).length := by have := del_lt c; have := h.ok.le; omega
    rw [show psE m (del X n) (prP X n) n = 0 by unfold psE; rw [if_neg hno, if_neg (not_del X n), if_neg hl], show psX m (del X n) (prP X n) n = del X n ++ [(prP X n, n)] by unfold psX; rw [if_neg hno, if_neg (not_del X n), if_neg hl]] at P
    generalize prP X n = v at *
    generalize decide (n ∈ ids X) = bb at *
    clear h c hr hno hl
    go_enter Tryd.func52, Tryd.ntmps52
    go_wp2_with fail
    refine (C.out ()).mono ?_
    rintro e w1 ⟨rfl, b1⟩
    have D1 : Hid (∀ _ : Unit, _) := fun _ => D.out w1 b1
    have B1 : Hid (Below w.heap.size w w1) := b1
    clear b1
    go_wp2_with fail
    refine (D1.out ()).mono ?_
    rintro e w2 ⟨rfl, q2, f2⟩
    have P2 : Hid (∀ _ : Unit, _) := fun _ => P.out w2 q2
    clear q2
    go_wp2_with fail
    refine (P2.out ()).mono ?_
    rintro e w3 ⟨rfl, q3, f3⟩
    go_wp2
    go_ret
    exact ⟨rfl, q3, fr_below B1.out (f2.trans (f3.less f2.size)) rfl⟩
  · rw [show drE X n = 4 from if_neg c, del_miss c] at D
    rw [show drE X n = 4 from if_neg c, show bkX X n = X from if_neg c]
    generalize prP X n = v at *
    generalize decide (n ∈ ids X) = bb at *
    clear h c
    go_enter Tryd.func52, Tryd.ntmps52
    go_wp2_with fail
    refine (C.out ()).mono ?_
    rintro e w1 ⟨rfl, b1⟩
    have D1 : Hid (∀ _ : Unit, _) := fun _ => D.out w1 b1
    have B1 : Hid (Below w.heap.size w w1) := b1
    clear b1
    go_wp2_with fail
    refine (D1.out ()).mono ?_
    rintro e w2 ⟨rfl, q2, f2⟩
    go_wp2
    go_ret
    exact ⟨rfl, q2, fr_below B1.out f2 rfl⟩
end Go.Proofs.YtpmjojemcpgpiaaDoor
