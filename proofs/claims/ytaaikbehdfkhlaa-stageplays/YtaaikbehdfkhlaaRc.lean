/- A run that a law made itself; that the fixed calls of layer 21's laws come out as they must. -/
import Derived.Test.YtaaikbehdfkhlaaRa
namespace Go.Proofs.Ytaaikbehdfkhlaa
open Go.ChangeShapes Go.WideShapes Go.ChangeAt Go.RowKit
open Rm

/-- A run at block s; nothing below s has turned. -/
structure GR (w wr : World) (s n d : Nat) (bk : Bool) : Prop where
  q : RN wr s n d bk
  bel : Below s w wr

section
variable {w wr : World} {s n d : Nat} {bk : Bool}
theorem GR.hi (t : GR w wr s n d bk) : s < wr.heap.size := t.q.sb.lt
theorem GR.sm {w1 : World} (t : GR w wr s n d bk) (e : Sm w1 wr) : GR w w1 s n d bk := ⟨t.q.heap e.1, e.below t.bel⟩
theorem gr_at (t : GR w wr s n d bk) : Calls Try.prog 16 #[.pointer (some ⟨s, 0, none⟩)] wr fun e w' => e = .returned (.tuple #[.int .i64 ((atK n d bk : Nat) : Int), .bool bk, .bool (ov n d bk)]) ∧ GR w w' s n d bk :=
  (gat_any wr t.q).mono fun _ _ ⟨r1, r2⟩ => ⟨r1, t.sm r2⟩
theorem gr_why (t : GR w wr s n d bk) : Calls Try.prog 18 #[.pointer (some ⟨s, 0, none⟩)] wr fun e w' => e = .returned (.int .i64 (whE n d bk)) ∧ GR w w' s n d bk :=
  (gwhy_any wr t.q).mono fun _ _ ⟨r1, r2⟩ => ⟨r1, t.sm r2⟩
theorem gr_many (t : GR w wr s n d bk) : Calls Try.prog 20 #[.pointer (some ⟨s, 0, none⟩)] wr fun e w' => e = .returned (.int .i64 (d : Int)) ∧ GR w w' s n d bk :=
  (gmany_any wr t.q).mono fun _ _ ⟨r1, r2⟩ => by rw [r2]; exact ⟨r1, t⟩
theorem gr_done (t : GR w wr s n d bk) : Calls Try.prog 12 #[.pointer (some ⟨s, 0, none⟩)] wr fun e w' => e = .returned (.int .i64 (dnE n d bk)) ∧ GR w w' s n (dnD n d bk) bk :=
  (gdone_any wr t.q).mono fun _ _ ⟨r1, r2, r3⟩ => ⟨r1, r2, fr_own t.bel r3 (by have := t.hi; omega) (by simp)⟩
theorem gr_fail (t : GR w wr s n d bk) : Calls Try.prog 14 #[.pointer (some ⟨s, 0, none⟩)] wr fun e w' => e = .returned (.int .i64 (flE n d bk)) ∧ GR w w' s n d (flB n d bk) :=
  (gfail_any wr t.q).mono fun _ _ ⟨r1, r2, r3⟩ => ⟨r1, r2, fr_own t.bel r3 (by have := t.hi; omega) (by simp)⟩
end

set_option maxRecDepth 100000 in
set_option maxHeartbeats 2000000 in
theorem gknown_yes (w : World) : Calls Try.prog 11 #[] w fun e w' => e = .returned (.bool true) ∧ Below w.heap.size w w' := by
  have P0 : Hid (∀ _ : Unit, _) := fun _ => gnew_any 3 w (by decide) (by decide)
  obtain ⟨s, hs⟩ : ∃ s, w.heap.size = s := ⟨_, rfl⟩
  have HS : Hid (w.heap.size = s) := hs
  rw [hs] at P0 ⊢
  clear hs
  go_enter Try.func11, Try.ntmps11
  go_wp2_with fail
  refine (P0.out ()).mono ?_
  rintro e w1 ⟨rfl, q1, b1⟩
  have t1 : GR w w1 s 3 0 false := ⟨q1, b1⟩
  clear q1 b1
  have P1 : Hid (∀ _ : Unit, _) := fun _ => gr_done t1
  rw [show dnE 3 0 false = 0 by decide, show dnD 3 0 false = 1 by decide] at P1
  clear t1
  go_wp2_with fail
  refine (P1.out ()).mono ?_
  rintro e w2 ⟨rfl, t2⟩
  have P2 : Hid (∀ _ : Unit, _) := fun _ => gr_fail t2
  rw [show flE 3 1 false = 0 by decide, show flB 3 1 false = true by decide] at P2
  clear t2
  go_wp2_with fail
  refine (P2.out ()).mono ?_
  rintro e w3 ⟨rfl, t3⟩
  have P3 : Hid (∀ _ : Unit, _) := fun _ => gr_at t3
  rw [show ((atK 3 1 true : Nat) : Int) = 0 by decide, show ov 3 1 true = false by decide] at P3
  clear t3
  go_wp2_with fail
  refine (P3.out ()).mono ?_
  rintro e w4 ⟨rfl, t4⟩
  have P4 : Hid (∀ _ : Unit, _) := fun _ => gr_done t4
  rw [show dnE 3 1 true = 0 by decide, show dnD 3 1 true = 0 by decide] at P4
  clear t4
  go_wp2_with fail
  refine (P4.out ()).mono ?_
  rintro e w5 ⟨rfl, t5⟩
  have P5 : Hid (∀ _ : Unit, _) := fun _ => gr_why t5
  rw [show whE 3 0 true = 11 by decide] at P5
  clear t5
  go_wp2_with fail
  refine (P5.out ()).mono ?_
  rintro e w6 ⟨rfl, t6⟩
  have P6 : Hid (∀ _ : Unit, _) := fun _ => gr_many t6
  rw [show ((0 : Nat) : Int) = 0 by decide] at P6
  clear t6
  go_wp2_with fail
  refine (P6.out ()).mono ?_
  rintro e w7 ⟨rfl, t7⟩
  have B : Hid (Below s w w7) := t7.bel
  clear t7
  go_wp2
  go_ret
  exact ⟨rfl, B.out⟩
end Go.Proofs.Ytaaikbehdfkhlaa
