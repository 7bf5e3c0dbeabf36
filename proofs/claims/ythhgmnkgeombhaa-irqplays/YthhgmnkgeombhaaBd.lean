/- That the fixed calls of layer 15's laws come out as they must. -/
import Derived.Test.YthhgmnkgeombhaaRows
import Derived.Test.YthhgmnkgeombhaaBb
import Derived.Test.YthhgmnkgeombhaaBc
import Derived.Test.YthhgmnkgeombhaaFi
import Derived.WalkKit
import Derived.ProofKit
import Derived.OpenShut
import Derived.BigQuiet
namespace Go.Proofs.Ythhgmnkgeombhaa
open Go.ChangeShapes Go.WideShapes Go.ChangeAt Go.RowKit
open Mm Bm

def iX0 : Nat → Iq := fun _ => zi
def iX1 : Nat → Iq := stp (rqE 2 iX0 3 1) iX0 3 (nw 1)
def iX2 : Nat → Iq := stp (hsE iX1 3 true) iX1 3 { iX1 3 with ms := true }
def iX3 : Nat → Iq := stp (waE iX2 3) iX2 3 { iX2 3 with pd := true }
def iX4 : Nat → Iq := stp (hsE iX3 3 false) iX3 3 { iX3 3 with ms := false }
theorem ik_1 : rqE 2 iX0 3 1 = 0 := by decide +kernel
theorem ik_2 : hsE iX1 3 true = 0 := by decide +kernel
theorem ik_3 : waE iX2 3 = 0 := by decide +kernel
theorem ik_4 : rdB iX3 3 = false := by decide +kernel
theorem ik_5 : hsE iX3 3 false = 0 := by decide +kernel
theorem ik_6 : rdB iX4 3 = true := by decide +kernel
theorem ik_7 : KK (fun i => (iX4 i).wt) 16 = [3] := by decide +kernel

theorem ifr {s : Nat} {w0 w w' : World} (h : Below s w0 w) (hz : s ≤ w.heap.size) (f : Fr w.heap.size [s] w w') : Below s w0 w' := fr_own h f hz (by simp)

set_option maxRecDepth 100000 in
set_option maxHeartbeats 1000000 in
theorem iqknown_yes (w : World) :
    Calls Try.prog 11 #[] w fun e w' => e = .returned (.bool true) ∧ Below w.heap.size w w' := by
  have C : Hid (∀ _ : Unit, _) := fun _ => iqnew_any 2 w (by decide) (by decide)
  obtain ⟨s, hs⟩ : ∃ s, w.heap.size = s := ⟨_, rfl⟩
  have HZ : Hid (∀ w1, Below s w w1 → s ≤ w1.heap.size) := fun w1 b => by have := b.size; omega
  rw [hs] at C ⊢
  clear hs
  go_enter Try.func11, Try.ntmps11
  go_wp2_with fail
  refine (C.out ()).mono ?_
  rintro e w1 ⟨rfl, q1, b1, -⟩
  have B1 : Hid (Below s w w1) := b1
  have P1 : Hid (∀ _ : Unit, _) := fun _ => iqrequest_any 3 1 w1 (by omega) q1
  clear q1 b1
  go_wp2_with fail
  refine (P1.out ()).mono ?_
  rintro e w2 ⟨rfl, q2, f2⟩
  have q2 : IT w2 s 2 iX1 := q2
  have B2 : Hid (Below s w w2) := ifr B1.out (HZ.out _ B1.out) f2
  have P2 : Hid (∀ _ : Unit, _) := fun _ => iqhush_any 3 w2 q2
  have e1 : rqE 2 (fun _ => zi) 3 1 = 0 := ik_1
  rw [e1]
  rw [ik_2] at P2
  clear q2 f2 e1
  go_wp2_with fail
  refine (P2.out ()).mono ?_
  rintro e w3 ⟨rfl, q3, f3⟩
  have q3 : IT w3 s 2 iX2 := q3
  have B3 : Hid (Below s w w3) := ifr B2.out (HZ.out _ B2.out) f3
  have P3 : Hid (∀ _ : Unit, _) := fun _ => iqraise_any 3 w3 q3
  rw [ik_3] at P3
  clear q3 f3
  go_wp2_with fail
  refine (P3.out ()).mono ?_
  rintro e w4 ⟨rfl, q4, f4⟩
  have q4 : IT w4 s 2 iX3 := q4
  have B4 : Hid (Below s w w4) := ifr B3.out (HZ.out _ B3.out) f4
  have P4 : Hid (∀ _ : Unit, _) := fun _ => iqready_any 3 w4 q4
  have Q4 : Hid (IT w4 s 2 iX3) := q4
  rw [ik_4] at P4
  clear q4 f4
  go_wp2_with fail
  refine (P4.out ()).mono ?_
  rintro e w5 ⟨rfl, f5⟩
  have B5 : Hid (Below s w w5) := B4.out.trans (f5.mono (HZ.out _ B4.out))
  have P5 : Hid (∀ _ : Unit, _) := fun _ => iqunhush_any 3 w5 (Q4.out.below f5)
  rw [ik_5] at P5
  clear f5
  go_wp2_with fail
  refine (P5.out ()).mono ?_
  rintro e w6 ⟨rfl, q6, f6⟩
  have q6 : IT w6 s 2 iX4 := q6
  have B6 : Hid (Below s w w6) := ifr B5.out (HZ.out _ B5.out) f6
  have P6 : Hid (∀ _ : Unit, _) := fun _ => iqready_any 3 w6 q6
  have Q6 : Hid (IT w6 s 2 iX4) := q6
  rw [ik_6] at P6
  clear q6 f6
  go_wp2_with fail
  refine (P6.out ()).mono ?_
  rintro e w7 ⟨rfl, f7⟩
  have B7 : Hid (Below s w w7) := B6.out.trans (f7.mono (HZ.out _ B6.out))
  have P7 : Hid (∀ _ : Unit, _) := fun _ => iqlist_any w7 (Q6.out.below f7)
  clear f7
  go_wp2_with fail
  refine (P7.out ()).mono ?_
  rintro e w8 ⟨v, rfl, g8⟩
  have B8 : Hid (Below s w w8) := B7.out.trans (g8.bel.mono (HZ.out _ B7.out))
  have g9 := gat_row g8
  rw [ik_7] at g9
  have I : Hid (∀ _ : Unit, _) := fun _ => ints_any [3] v _ (w8.alloc (.cells ([3].map (Value.int .i64)).toArray 3)) (by decide) (Row.keep (B := w8.heap.size) g9 ((Fr.refl _ _ _).alloc (Nat.le_refl _) _) (Nat.le_refl _)) (row_new w8 [3] 3 1 1 rfl)
  clear g8 g9
  go_wp2_with fail
  refine (I.out ()).mono ?_
  rintro e w9 ⟨rfl, n, rfl⟩
  go_wp2
  go_ret
  have b9 := B8.out.alloc (HZ.out _ B8.out) (.cells ([3].map (Value.int .i64)).toArray 3)
  exact ⟨rfl, ⟨b9.os, b9.tape, b9.output, b9.size, b9.block⟩⟩
end Go.Proofs.Ythhgmnkgeombhaa
