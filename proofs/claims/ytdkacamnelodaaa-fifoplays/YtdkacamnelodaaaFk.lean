/- That the fixed calls of layer 3's laws come out as they must. -/
import Derived.Test.YtdkacamnelodaaaRows
import Derived.Test.YtdkacamnelodaaaFe
import Derived.WalkKit
import Derived.ProofKit
import Derived.OpenShut
import Derived.BigQuiet
namespace Go.Proofs.Ytdkacamnelodaaa
open Go.ChangeShapes Go.WideShapes Go.ChangeAt Go.RowKit
open Fm

theorem row_new (w : World) (xs : List Int) (t : TypeId) (n cap : Nat) (hn : n = xs.length) : Row (w.alloc (.cells (xs.map (Value.int .i64)).toArray t)) (.slice (some ⟨w.heap.size, 0, none⟩) n cap) xs := by
  subst hn
  exact row_of_blk (Blk.new w _ t) cap

theorem fr_own {B : Nat} {S : List Nat} {w0 w w' : World} (h : Below B w0 w) (f : Fr w.heap.size S w w') (hB : B ≤ w.heap.size) (hS : ∀ k ∈ S, B ≤ k) : Below B w0 w' := h.trans ((f.less hB).below hS)

set_option maxHeartbeats 1000000 in
theorem known_yes (w : World) :
    Calls Try.prog 9 #[] w fun e w' => e = .returned (.bool true) ∧ Below w.heap.size w w' := by
  have C : Hid (∀ _ : Unit, _) := fun _ => new_any 2 w (by decide) (by decide)
  have hP : Hid (∀ k ∈ [w.heap.size + 1, w.heap.size], w.heap.size ≤ k) := by unfold Hid; simp
  generalize hs : w.heap.size = s at *
  go_enter Try.func9, Try.ntmps9
  go_wp2_with fail
  refine (C.out ()).mono ?_
  rintro e w1 ⟨rfl, q1, f1⟩
  have b1 : Hid (Below s w w1) := f1.below (by simp)
  have z1 : s ≤ w1.heap.size := by have := b1.out.size; omega
  have P1 : Hid (∀ _ : Unit, _) := fun _ => push_any 5 w1 q1
  rw [show pE 2 [] 5 = 0 by decide, show pL 2 [] 5 = [5] by decide] at P1
  clear f1 q1
  go_wp2_with fail
  refine (P1.out ()).mono ?_
  rintro e w2 ⟨rfl, ⟨r2, q2⟩, f2⟩
  have b2 : Hid (Below s w w2) := fr_own b1.out f2 z1 hP.out
  have z2 : s ≤ w2.heap.size := by have := b2.out.size; omega
  have P2 : Hid (∀ _ : Unit, _) := fun _ => push_any 7 w2 q2
  rw [show pE 2 [5] 7 = 0 by decide, show pL 2 [5] 7 = [5, 7] by decide] at P2
  clear f2 q2
  go_wp2_with fail
  refine (P2.out ()).mono ?_
  rintro e w3 ⟨rfl, ⟨r3, q3⟩, f3⟩
  have b3 : Hid (Below s w w3) := fr_own b2.out f3 z2 hP.out
  have z3 : s ≤ w3.heap.size := by have := b3.out.size; omega
  have P3 : Hid (∀ _ : Unit, _) := fun _ => push_any 9 w3 q3
  rw [show pE 2 [5, 7] 9 = 5 by decide, show pL 2 [5, 7] 9 = [5, 7] by decide] at P3
  clear f3 q3
  go_wp2_with fail
  refine (P3.out ()).mono ?_
  rintro e w4 ⟨rfl, ⟨r4, q4⟩, f4⟩
  have b4 : Hid (Below s w w4) := fr_own b3.out f4 z3 hP.out
  have z4 : s ≤ w4.heap.size := by have := b4.out.size; omega
  have P4 : Hid (∀ _ : Unit, _) := fun _ => turn_any w4 q4 (by decide)
  rw [show fE [5, 7] = 0 by decide, show tL [5, 7] = [7, 5] by decide] at P4
  clear f4 q4
  go_wp2_with fail
  refine (P4.out ()).mono ?_
  rintro e w5 ⟨rfl, ⟨f', r5, q5⟩, f5⟩
  have b5 : Hid (Below s w w5) := fr_own b4.out f5 z4 hP.out
  have z5 : s ≤ w5.heap.size := by have := b5.out.size; omega
  have P5 : Hid (∀ _ : Unit, _) := fun _ => list_any w5 q5
  clear f5 q5
  go_wp2_with fail
  refine (P5.out ()).mono ?_
  rintro e w6 ⟨v, rfl, rw6, f6⟩
  have b6 : Hid (Below s w w6) := b5.out.trans (f6.mono z5)
  have z6 : s ≤ w6.heap.size := by have := b6.out.size; omega
  have b7 : Hid (∀ o, Below s w (w6.alloc o)) := fun o => b6.out.alloc z6 o
  have I : Hid (∀ _ : Unit, _) := fun _ => ints_any [7, 5] v _ (w6.alloc (.cells ([7, 5].map (Value.int .i64)).toArray 3)) (by decide) (Row.keep (B := w6.heap.size) (row_of_owns rw6) ((Fr.refl _ _ _).alloc (Nat.le_refl _) _) (Nat.le_refl _)) (row_new w6 [7, 5] 3 2 2 rfl)
  clear rw6 f6
  go_wp2_with fail
  refine (I.out ()).mono ?_
  rintro e w7 ⟨rfl, n, rfl⟩
  go_wp2
  go_ret
  have b8 := b7.out (.cells ([7, 5].map (Value.int .i64)).toArray 3)
  exact ⟨rfl, ⟨b8.os, b8.tape, b8.output, b8.size, b8.block⟩⟩
end Go.Proofs.Ytdkacamnelodaaa
