/- That the fixed calls of layer 16's laws come out as they must. -/
import Derived.Test.YthhgmnkgeombhaaRows
import Derived.Test.YthhgmnkgeombhaaNb
import Derived.Test.YthhgmnkgeombhaaFi
import Derived.WalkKit
import Derived.ProofKit
import Derived.OpenShut
import Derived.BigQuiet
namespace Go.Proofs.Ythhgmnkgeombhaa
open Go.ChangeShapes Go.WideShapes Go.ChangeAt Go.RowKit
open Mm Nm

def rP0 : Nat → Int := fun _ => -1
def rP1 : Nat → Int := stp (stE 2 3 1) rP0 3 1
def rP2 : Nat → Int := stp (stE 2 5 1) rP1 5 1
def rP3 : Nat → Int := stp (stE 2 3 0) rP2 3 0
theorem rk_1 : stE 2 3 0 = 0 := by decide +kernel
theorem rk_2 : ofN rP3 3 = 0 := by decide +kernel
theorem rk_3 : ofB rP3 3 = true := by decide +kernel
theorem rk_4 : KK (on rP3 1) 16 = [5] := by decide +kernel
theorem rk_5 : cl rP3 16 = 3 := by decide +kernel

theorem rfr {s : Nat} {w0 w w' : World} (h : Below s w0 w) (hz : s ≤ w.heap.size) (f : Fr w.heap.size [s] w w') : Below s w0 w' := fr_own h f hz (by simp)

set_option maxRecDepth 100000 in
set_option maxHeartbeats 1000000 in
theorem rtknown_yes (w : World) :
    Calls Try.prog 30 #[] w fun e w' => e = .returned (.bool true) ∧ Below w.heap.size w w' := by
  have C : Hid (∀ _ : Unit, _) := fun _ => rtnew_any 2 w (by decide) (by decide)
  obtain ⟨s, hs⟩ : ∃ s, w.heap.size = s := ⟨_, rfl⟩
  have HZ : Hid (∀ w1, Below s w w1 → s ≤ w1.heap.size) := fun w1 b => by have := b.size; omega
  rw [hs] at C ⊢
  clear hs
  go_enter Try.func30, Try.ntmps30
  go_wp2_with fail
  refine (C.out ()).mono ?_
  rintro e w1 ⟨rfl, q1, b1, -⟩
  have B1 : Hid (Below s w w1) := b1
  have P1 : Hid (∀ _ : Unit, _) := fun _ => rtset_any 3 1 w1 q1
  clear q1 b1
  go_wp2_with fail
  refine (P1.out ()).mono ?_
  rintro e w2 ⟨rfl, q2, f2⟩
  have q2 : RT w2 s 2 rP1 := q2
  have B2 : Hid (Below s w w2) := rfr B1.out (HZ.out _ B1.out) f2
  have P2 : Hid (∀ _ : Unit, _) := fun _ => rtset_any 5 1 w2 q2
  clear q2 f2
  go_wp2_with fail
  refine (P2.out ()).mono ?_
  rintro e w3 ⟨rfl, q3, f3⟩
  have q3 : RT w3 s 2 rP2 := q3
  have B3 : Hid (Below s w w3) := rfr B2.out (HZ.out _ B2.out) f3
  have P3 : Hid (∀ _ : Unit, _) := fun _ => rtset_any 3 0 w3 q3
  rw [rk_1] at P3
  clear q3 f3
  go_wp2_with fail
  refine (P3.out ()).mono ?_
  rintro e w4 ⟨rfl, q4, f4⟩
  have q4 : RT w4 s 2 rP3 := q4
  have B4 : Hid (Below s w w4) := rfr B3.out (HZ.out _ B3.out) f4
  have P4 : Hid (∀ _ : Unit, _) := fun _ => rtof_any 3 w4 q4
  have Q4 : Hid (RT w4 s 2 rP3) := q4
  rw [rk_2, rk_3] at P4
  clear q4 f4
  go_wp2_with fail
  refine (P4.out ()).mono ?_
  rintro e w5 ⟨rfl, f5⟩
  have B5 : Hid (Below s w w5) := f5.below B4.out
  have Q5 : Hid (RT w5 s 2 rP3) := Q4.out.heap f5.1
  have P5 : Hid (∀ _ : Unit, _) := fun _ => rton_any 1 w5 Q5.out
  clear f5
  go_wp2_with fail
  refine (P5.out ()).mono ?_
  rintro e w6 ⟨v, rfl, g6⟩
  have B6 : Hid (Below s w w6) := B5.out.trans (g6.bel.mono (HZ.out _ B5.out))
  have Q6 : Hid (RT w6 s 2 rP3) := Q5.out.below g6.bel
  have g9 := gat_row g6
  rw [rk_4] at g9
  have I : Hid (∀ _ : Unit, _) := fun _ => ints_any [5] v _ (w6.alloc (.cells ([5].map (Value.int .i64)).toArray 3)) (by decide) (Row.keep (B := w6.heap.size) g9 ((Fr.refl _ _ _).alloc (Nat.le_refl _) _) (Nat.le_refl _)) (row_new w6 [5] 3 1 1 rfl)
  have BA : Hid (Below w6.heap.size w6 (w6.alloc (.cells ([5].map (Value.int .i64)).toArray 3))) := (Below.refl _ _).alloc (Nat.le_refl _) _
  clear g6 g9
  go_wp2_with fail
  refine (I.out ()).mono ?_
  rintro e w7 ⟨rfl, n, rfl⟩
  have b7 : Below w6.heap.size w6 ((w6.alloc (.cells ([5].map (Value.int .i64)).toArray 3)).drewN n) := ⟨BA.out.os, BA.out.tape, BA.out.output, BA.out.size, BA.out.block⟩
  have P7 : Hid (∀ _ : Unit, _) := fun _ => rtcores_any _ (Q6.out.below b7)
  rw [rk_5] at P7
  have B7 : Hid (Below s w ((w6.alloc (.cells ([5].map (Value.int .i64)).toArray 3)).drewN n)) := B6.out.trans (b7.mono (HZ.out _ B6.out))
  clear b7
  go_wp2_with fail
  refine (P7.out ()).mono ?_
  rintro e w8 ⟨rfl, b8⟩
  have B8 : Hid (Below s w w8) := B7.out.trans (b8.mono (HZ.out _ B7.out))
  clear b8
  go_wp2
  go_ret
  exact ⟨rfl, B8.out⟩
end Go.Proofs.Ythhgmnkgeombhaa
