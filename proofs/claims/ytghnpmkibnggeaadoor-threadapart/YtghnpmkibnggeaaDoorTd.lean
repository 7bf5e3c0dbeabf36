/- That the fixed calls of layer 11's laws come out as they must (where the table of the lowest bits reads as the program's text lays it). -/
import Derived.Test.YtghnpmkibnggeaaDoorRows
import Derived.Test.YtghnpmkibnggeaaDoorTb
import Derived.Test.YtghnpmkibnggeaaDoorFi
import Derived.WalkKit
import Derived.ProofKit
import Derived.OpenShut
import Derived.BigQuiet
namespace Go.Proofs.YtghnpmkibnggeaaDoor
open Go.ChangeShapes Go.WideShapes Go.ChangeAt Go.RowKit
open Mm Sl Tm

def kO0 : Nat → Bool := fun _ => false
def kX0 : Nat → Th := fun _ => zt
def kO1 : Nat → Bool := spO 2 kO0 3 1
def kX1 : Nat → Th := spX 2 kO0 kX0 3 1
def kO2 : Nat → Bool := spO 2 kO1 3 1
def kX2 : Nat → Th := spX 2 kO1 kX1 3 1
def kO3 : Nat → Bool := gO 32 kO2 1
def kX3 : Nat → Th := exX kO2 kX2 1
def kO4 : Nat → Bool := spO 2 kO3 0 2
def kX4 : Nat → Th := spX 2 kO3 kX3 0 2
theorem k_1 : gE 32 kO2 1 = 0 := by decide +kernel
theorem k_2 : spN 2 kO3 0 2 = 1 := by decide +kernel
theorem k_3 : spE 2 kO3 0 2 = 0 := by decide +kernel
theorem k_4 : hs 32 kO4 1 = true := by decide +kernel
theorem k_5 : (gtX kO4 kX4 1).mask = 2 := by decide +kernel
theorem k_6 : li 32 kO4 = [1, 2] := by decide +kernel

theorem fr3 {s : Nat} {w0 w w' : World} (h : Below s w0 w) (hz : s ≤ w.heap.size) (f : Fr w.heap.size [s, s + 1, s + 2] w w') : Below s w0 w' := fr_own h f hz (by simp)

set_option maxRecDepth 100000 in
set_option maxHeartbeats 1000000 in
theorem thknown_yes (w : World) (ht : Tab w) (h0 : 0 < w.heap.size) :
    Calls Tryd.prog 11 #[] w fun e w' => e = .returned (.bool true) ∧ Below w.heap.size w w' := by
  have C : Hid (∀ _ : Unit, _) := fun _ => thnew_any 2 w (by decide) (by decide)
  obtain ⟨s, hs⟩ : ∃ s, w.heap.size = s := ⟨_, rfl⟩
  have HT : Hid (∀ w1, Below s w w1 → Tab w1) := fun w1 b => ht.keep (B := s) (by omega) (by simp) (Fr.of_below b)
  have HZ : Hid (∀ w1, Below s w w1 → s ≤ w1.heap.size) := fun w1 b => by have := b.size; omega
  have H0 : Hid (0 < s) := by rw [← hs]; exact h0
  rw [hs] at C ⊢
  clear ht hs h0
  go_enter Tryd.func11, Tryd.ntmps11
  go_wp2_with fail
  refine (C.out ()).mono ?_
  rintro e w1 ⟨rfl, q1, b1, -⟩
  have B1 : Hid (Below s w w1) := b1
  have P1 : Hid (∀ _ : Unit, _) := fun _ => thspawn_any 3 1 w1 (by omega) q1 (HT.out w1 b1)
  generalize spN 2 (fun _ => false) 3 1 = n1 at P1
  generalize spE 2 (fun _ => false) 3 1 = e1 at P1
  clear q1 b1
  go_wp2_with fail
  refine (P1.out ()).mono ?_
  rintro e w2 ⟨rfl, q2, f2⟩
  have q2 : TT w2 s 2 kO1 kX1 := q2
  have B2 : Hid (Below s w w2) := fr3 B1.out (HZ.out _ B1.out) f2
  have P2 : Hid (∀ _ : Unit, _) := fun _ => thspawn_any 3 1 w2 (by omega) q2 (HT.out w2 B2.out)
  generalize spN 2 kO1 3 1 = n2 at P2
  generalize spE 2 kO1 3 1 = e2 at P2
  clear q2 f2
  go_wp2_with fail
  refine (P2.out ()).mono ?_
  rintro e w3 ⟨rfl, q3, f3⟩
  have q3 : TT w3 s 2 kO2 kX2 := q3
  have B3 : Hid (Below s w w3) := fr3 B2.out (HZ.out _ B2.out) f3
  have P3 : Hid (∀ _ : Unit, _) := fun _ => thexit_any 1 w3 q3
  rw [k_1] at P3
  clear q3 f3
  go_wp2_with fail
  refine (P3.out ()).mono ?_
  rintro e w4 ⟨rfl, q4, f4⟩
  have q4 : TT w4 s 2 kO3 kX3 := q4
  have B4 : Hid (Below s w w4) := fr3 B3.out (HZ.out _ B3.out) f4
  have P4 : Hid (∀ _ : Unit, _) := fun _ => thspawn_any 0 2 w4 (by omega) q4 (HT.out w4 B4.out)
  rw [k_2, k_3] at P4
  clear q4 f4
  go_wp2_with fail
  refine (P4.out ()).mono ?_
  rintro e w5 ⟨rfl, q5, f5⟩
  have q5 : TT w5 s 2 kO4 kX4 := q5
  have B5 : Hid (Below s w w5) := fr3 B4.out (HZ.out _ B4.out) f5
  have P5 : Hid (∀ _ : Unit, _) := fun _ => thget_any 1 w5 q5
  have Q5 : Hid (TT w5 s 2 kO4 kX4) := q5
  have hm := k_5
  rw [k_4, if_pos rfl] at P5
  generalize gtX kO4 kX4 1 = t at *
  have hm2 : ((t.mask : Int) == 2) = true := by rw [hm]; rfl
  unfold thv at P5
  clear q5 f5 hm
  go_wp2_with fail
  refine (P5.out ()).mono ?_
  rintro e w6 ⟨rfl, b6⟩
  have B6 : Hid (Below s w w6) := B5.out.trans (b6.mono (HZ.out _ B5.out))
  have Q6 : Hid (TT w6 s 2 kO4 kX4) := Q5.out.below b6
  have LL : Hid (∀ w7 : World, Below w6.heap.size w6 w7 → Calls Tryd.prog 14 #[.pointer (some ⟨s + 2, 0, none⟩)] w7 fun e w' => ∃ v, e = .returned v ∧ Gt w7 w' v [1, 2]) := fun w7 b7 => by
    have B7 := B6.out.trans (b7.mono (HZ.out _ B6.out))
    have := thlist_any w7 (Q6.out.below b7) (HT.out w7 B7) (by have := HZ.out _ B7; have := H0.out; omega)
    rwa [k_6] at this
  clear b6
  go_wp2_with fail
  have BA : Below w6.heap.size w6 _ := (Below.refl w6.heap.size w6).alloc (Nat.le_refl _) (.cells #[.int .i64 t.prio, .int .u64 (t.mask : Int), .int .i64 t.cpu, .bool t.forced, .bool t.sleeps, .int .i64 t.timer] 40)
  generalize hw7 : w6.alloc (.cells #[.int .i64 t.prio, .int .u64 (t.mask : Int), .int .i64 t.cpu, .bool t.forced, .bool t.sleeps, .int .i64 t.timer] 40) = w7 at BA ⊢
  have B7 : Hid (Below s w w7) := B6.out.trans (BA.mono (HZ.out _ B6.out))
  refine (LL.out _ BA).mono ?_
  rintro e w8 ⟨v, rfl, g8⟩
  have B8 : Hid (Below s w w8) := B7.out.trans (g8.bel.mono (HZ.out _ B7.out))
  have I : Hid (∀ _ : Unit, _) := fun _ => ints_any [1, 2] v _ (w8.alloc (.cells ([1, 2].map (Value.int .i64)).toArray 3)) (by decide) (Row.keep (B := w8.heap.size) (row_of_owns g8.own) ((Fr.refl _ _ _).alloc (Nat.le_refl _) _) (Nat.le_refl _)) (row_new w8 [1, 2] 3 2 2 rfl)
  clear g8 hw7 BA
  go_wp2_with fail
  refine (I.out ()).mono ?_
  rintro e w9 ⟨rfl, n, rfl⟩
  go_wp2
  go_ret
  have b9 := B8.out.alloc (HZ.out _ B8.out) (.cells ([1, 2].map (Value.int .i64)).toArray 3)
  exact ⟨rfl, ⟨b9.os, b9.tape, b9.output, b9.size, b9.block⟩⟩
end Go.Proofs.YtghnpmkibnggeaaDoor
