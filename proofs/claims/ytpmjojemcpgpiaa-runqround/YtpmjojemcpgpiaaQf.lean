/- The fixed calls of the statements of queues by priorities come out as they must. -/
import Derived.Test.YtpmjojemcpgpiaaQe
import Derived.Test.YtpmjojemcpgpiaaFi
import Derived.WalkKit
import Derived.ProofKit
import Derived.OpenShut
import Derived.BigQuiet
namespace Go.Proofs.Ytpmjojemcpgpiaa
open Go.ChangeShapes Go.WideShapes Go.ChangeAt Go.RowKit
open Fm Qm

theorem zn_ge (s : Nat) : ∀ k ∈ zn s, s ≤ k := fun k hk => ((mem_zn s k).1 hk).1

set_option maxHeartbeats 1000000 in
theorem known_yes (w : World) : Calls Try.prog 10 #[] w fun e w' => e = .returned (.bool true) ∧ Below w.heap.size w w' := by
  have C : Hid (∀ _ : Unit, _) := fun _ => pnew_any 9 w (by decide) (by decide)
  have hP : Hid (∀ k ∈ zn w.heap.size, w.heap.size ≤ k) := zn_ge _
  generalize hs : w.heap.size = s at *
  go_enter Try.func10, Try.ntmps10
  go_wp2_with fail
  refine (C.out ()).mono ?_
  rintro e w1 ⟨rfl, q1, f1, _⟩
  have b1 : Hid (Below s w w1) := f1
  have z1 : s ≤ w1.heap.size := by have := b1.out.size; omega
  have P1 : Hid (∀ _ : Unit, _) := fun _ => ppush_any 1 5 w1 q1
  rw [show psE 9 [] 1 5 = 0 by decide, show psX 9 [] 1 5 = [(1, 5)] by decide] at P1
  clear f1 q1
  go_wp2_with fail
  refine (P1.out ()).mono ?_
  rintro e w2 ⟨rfl, q2, f2⟩
  have b2 : Hid (Below s w w2) := fr_own b1.out f2 z1 hP.out
  have z2 : s ≤ w2.heap.size := by have := b2.out.size; omega
  have P2 : Hid (∀ _ : Unit, _) := fun _ => ppush_any 3 6 w2 q2
  rw [show psE 9 [(1, 5)] 3 6 = 0 by decide, show psX 9 [(1, 5)] 3 6 = [(1, 5), (3, 6)] by decide] at P2
  clear f2 q2
  go_wp2_with fail
  refine (P2.out ()).mono ?_
  rintro e w3 ⟨rfl, q3, f3⟩
  have b3 : Hid (Below s w w3) := fr_own b2.out f3 z2 hP.out
  have z3 : s ≤ w3.heap.size := by have := b3.out.size; omega
  have P3 : Hid (∀ _ : Unit, _) := fun _ => ppush_any 3 7 w3 q3
  rw [show psE 9 [(1, 5), (3, 6)] 3 7 = 0 by decide, show psX 9 [(1, 5), (3, 6)] 3 7 = [(1, 5), (3, 6), (3, 7)] by decide] at P3
  clear f3 q3
  go_wp2_with fail
  refine (P3.out ()).mono ?_
  rintro e w4 ⟨rfl, q4, f4⟩
  have b4 : Hid (Below s w w4) := fr_own b3.out f4 z3 hP.out
  have z4 : s ≤ w4.heap.size := by have := b4.out.size; omega
  have P4 : Hid (∀ _ : Unit, _) := fun _ => pturn_any w4 q4
  rw [show tpE [(1, 5), (3, 6), (3, 7)] = 0 by decide, show tnX [(1, 5), (3, 6), (3, 7)] = [(1, 5), (3, 7), (3, 6)] by decide] at P4
  clear f4 q4
  go_wp2_with fail
  refine (P4.out ()).mono ?_
  rintro e w5 ⟨rfl, q5, f5⟩
  have b5 : Hid (Below s w w5) := fr_own b4.out f5 z4 hP.out
  have z5 : s ≤ w5.heap.size := by have := b5.out.size; omega
  have P5 : Hid (∀ _ : Unit, _) := fun _ => top_any w5 q5
  rw [show tpE [(1, 5), (3, 7), (3, 6)] = 0 by decide, show tpN [(1, 5), (3, 7), (3, 6)] = 7 by decide] at P5
  have HQ : Hid (PQ w5 s 9 [(1, 5), (3, 7), (3, 6)]) := q5
  clear f5 q5
  go_wp2_with fail
  refine (P5.out ()).mono ?_
  rintro e w6 ⟨rfl, f6⟩
  have q6 := HQ.out.below f6
  have b6 : Hid (Below s w w6) := b5.out.trans (f6.mono z5)
  have z6 : s ≤ w6.heap.size := by have := b6.out.size; omega
  have P6 : Hid (∀ _ : Unit, _) := fun _ => plist_any w6 q6
  rw [show cat [(1, 5), (3, 7), (3, 6)] = [7, 6, 5] by decide] at P6
  have HQ6 : Hid (PQ w6 s 9 [(1, 5), (3, 7), (3, 6)]) := q6
  clear f6 q6 HQ
  go_wp2_with fail
  refine (P6.out ()).mono ?_
  rintro e w7 ⟨v, rfl, rw7, f7⟩
  have q7 := HQ6.out.below f7
  have b7 : Hid (Below s w w7) := b6.out.trans (f7.mono z6)
  have z7 : s ≤ w7.heap.size := by have := b7.out.size; omega
  have I : Hid (∀ _ : Unit, _) := fun _ => ints_any [7, 6, 5] v _ (w7.alloc (.cells ([7, 6, 5].map (Value.int .i64)).toArray 3)) (by decide) (Row.keep (B := w7.heap.size) (row_of_owns rw7) ((Fr.refl _ _ _).alloc (Nat.le_refl _) _) (Nat.le_refl _)) (row_new w7 [7, 6, 5] 3 3 3 rfl)
  have L8 : Hid (∀ n : Nat, _) := fun n => plen_any (World.drewN (w7.alloc (.cells ([7, 6, 5].map (Value.int .i64)).toArray 3)) n) ((q7.below ((Below.refl _ w7).alloc (Nat.le_refl _) _)).heap rfl)
  have b8 : Hid (∀ n : Nat, Below s w (World.drewN (w7.alloc (.cells ([7, 6, 5].map (Value.int .i64)).toArray 3)) n)) := fun n => by
    have b := b7.out.alloc z7 (.cells ([7, 6, 5].map (Value.int .i64)).toArray 3)
    exact ⟨b.os, b.tape, b.output, b.size, b.block⟩
  clear rw7 f7 q7 HQ6
  go_wp2_with fail
  refine (I.out ()).mono ?_
  rintro e w8 ⟨rfl, n, rfl⟩
  go_wp2_with fail
  refine (L8.out n).mono ?_
  rintro e w9 ⟨rfl, rfl⟩
  go_wp2
  go_ret
  exact ⟨rfl, b8.out n⟩
end Go.Proofs.Ytpmjojemcpgpiaa
