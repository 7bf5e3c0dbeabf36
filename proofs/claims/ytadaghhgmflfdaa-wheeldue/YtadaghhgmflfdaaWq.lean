/- That the fixed calls of layer 13's laws come out as they must; what a wheel that is not there answers. -/
import Derived.Test.YtadaghhgmflfdaaRows
import Derived.Test.YtadaghhgmflfdaaWj
import Derived.Test.YtadaghhgmflfdaaWn
import Derived.Test.YtadaghhgmflfdaaWp
import Derived.Test.YtadaghhgmflfdaaFi
import Derived.WalkKit
import Derived.ProofKit
import Derived.OpenShut
import Derived.BigQuiet
namespace Go.Proofs.Ytadaghhgmflfdaa
open Go.ChangeShapes Go.WideShapes Go.ChangeAt Go.RowKit
open Wm

theorem mv_below {B : Nat} {w0 w w' : World} {F F' : List Nat} (h : Below B w0 w) (m : Mv w w' F F') (hB : B ≤ w.heap.size) (hF : ∀ g ∈ F, B ≤ g) : Below B w0 w' ∧ (∀ g ∈ F', B ≤ g) ∧ B ≤ w'.heap.size := by
  have z := m.fr.size
  refine ⟨fr_own h m.fr hB hF, fun g hg => ?_, by omega⟩
  rcases m.sub g hg with q | q
  · exact hF g q
  · omega

set_option maxRecDepth 100000 in
set_option maxHeartbeats 2000000 in
theorem known_yes (w : World) :
    Calls Try.prog 8 #[] w fun e w' => e = .returned (.bool true) ∧ Below w.heap.size w w' := by
  have C : Hid (∀ _ : Unit, _) := fun _ => wnew_any 5 w (by decide)
  generalize hs : w.heap.size = s at *
  go_enter Try.func8, Try.ntmps8
  go_wp2_with fail
  refine (C.out ()).mono ?_
  rintro e w1 ⟨rfl, q1, b1⟩
  have z1 : s ≤ w1.heap.size := by have := b1.size; omega
  have B1 : Hid (Below s w w1 ∧ (∀ g ∈ [s], s ≤ g) ∧ s ≤ w1.heap.size) := ⟨b1, by simp, z1⟩
  have P1 : Hid (∀ _ : Unit, _) := fun _ => add_any 1 9 (by decide) q1 (by decide)
  rw [show adE [] 1 9 = 0 by decide, show adL [] 1 9 = [(9, 1)] by decide] at P1
  clear q1 b1 z1
  go_wp2_with fail
  refine (P1.out ()).mono ?_
  rintro e w2 ⟨rfl, F2, q2, m2⟩
  have B2 : Hid (_ ∧ _ ∧ _) := mv_below B1.out.1 m2 B1.out.2.2 B1.out.2.1
  have P2 : Hid (∀ _ : Unit, _) := fun _ => add_any 2 7 (by decide) q2 (by decide)
  rw [show adE [(9, 1)] 2 7 = 0 by decide, show adL [(9, 1)] 2 7 = [(7, 2), (9, 1)] by decide] at P2
  clear q2 m2 B1
  go_wp2_with fail
  refine (P2.out ()).mono ?_
  rintro e w3 ⟨rfl, F3, q3, m3⟩
  have B3 : Hid (_ ∧ _ ∧ _) := mv_below B2.out.1 m3 B2.out.2.2 B2.out.2.1
  have P3 : Hid (∀ _ : Unit, _) := fun _ => go_any 8 q3 (by decide)
  rw [show goE 5 8 = 0 by decide, show goN 5 8 = 8 by decide] at P3
  clear q3 m3 B2
  go_wp2_with fail
  refine (P3.out ()).mono ?_
  rintro e w4 ⟨rfl, F4, q4, m4⟩
  have B4 : Hid (_ ∧ _ ∧ _) := mv_below B3.out.1 m4 B3.out.2.2 B3.out.2.1
  have P4 : Hid (∀ _ : Unit, _) := fun _ => next_any q4 (by decide)
  rw [show nxN [(7, 2), (9, 1)] = 7 by decide, show nxE [(7, 2), (9, 1)] = 0 by decide] at P4
  have P5 : Hid (∀ _ : Unit, _) := fun _ => due_any q4 (by decide)
  rw [show ids (duL 8 [(7, 2), (9, 1)]) = [2] by decide] at P5
  have P6 : Hid (∀ w5, Below w4.heap.size w4 w5 → _) := fun w5 b => list_any (q4.below b) (by decide)
  rw [show ids [(7, 2), (9, 1)] = [2, 1] by decide] at P6
  have B5 : Hid (∀ w5, Below w4.heap.size w4 w5 → Below s w w5) := fun w5 b => B4.out.1.trans (b.mono B4.out.2.2)
  clear q4 m4 B3 B4
  go_wp2_with fail
  refine (P4.out ()).mono ?_
  rintro e w5 ⟨rfl, rfl⟩
  go_wp2_with fail
  refine (P5.out ()).mono ?_
  rintro e w6 ⟨v, rfl, g6⟩
  have I : Hid (∀ _ : Unit, _) := fun _ => ints_any [2] v _ (w6.alloc (.cells ([2].map (Value.int .i64)).toArray 3)) (by decide) (Row.keep (B := w6.heap.size) (row_of_owns g6.own) ((Fr.refl _ _ _).alloc (Nat.le_refl _) _) (Nat.le_refl _)) (row_new w6 [2] 3 1 1 rfl)
  have D6 : Hid (∀ n, Below w5.heap.size w5 ((w6.alloc (.cells ([2].map (Value.int .i64)).toArray 3)).drewN n)) := fun n => by
    have b := g6.bel.alloc g6.bel.size (.cells ([2].map (Value.int .i64)).toArray 3)
    exact ⟨b.os, b.tape, b.output, b.size, b.block⟩
  clear g6
  go_wp2_with fail
  refine (I.out ()).mono ?_
  rintro e w7 ⟨rfl, n, rfl⟩
  have d7 := D6.out n
  generalize (w6.alloc (.cells ([2].map (Value.int .i64)).toArray 3)).drewN n = w7 at *
  have P7 : Hid (∀ _ : Unit, _) := fun _ => P6.out w7 d7
  have D7 : Hid (Below w5.heap.size w5 w7) := d7
  clear d7 I D6
  go_wp2_with fail
  refine (P7.out ()).mono ?_
  rintro e w8 ⟨v8, rfl, g8⟩
  have I : Hid (∀ _ : Unit, _) := fun _ => ints_any [2, 1] v8 _ (w8.alloc (.cells ([2, 1].map (Value.int .i64)).toArray 3)) (by decide) (Row.keep (B := w8.heap.size) (row_of_owns g8.own) ((Fr.refl _ _ _).alloc (Nat.le_refl _) _) (Nat.le_refl _)) (row_new w8 [2, 1] 3 2 2 rfl)
  have D8 : Hid (∀ n, Below s w ((w8.alloc (.cells ([2, 1].map (Value.int .i64)).toArray 3)).drewN n)) := fun n => by
    have b := B5.out _ (D7.out.trans ((g8.bel.alloc g8.bel.size (.cells ([2, 1].map (Value.int .i64)).toArray 3)).mono D7.out.size))
    exact ⟨b.os, b.tape, b.output, b.size, b.block⟩
  clear g8
  go_wp2_with fail
  refine (I.out ()).mono ?_
  rintro e w9 ⟨rfl, n, rfl⟩
  go_wp2
  go_ret
  exact ⟨rfl, D8.out n⟩
end Go.Proofs.Ytadaghhgmflfdaa
