/- A desk that a law made itself, beside blocks that its calls leave alone; that the fixed calls of layer 22's laws come out as they must. -/
import Derived.Test.YtaaikbehdfkhlaaHt
namespace Go.Proofs.Ytaaikbehdfkhlaa
open Go.ChangeShapes Go.WideShapes Go.ChangeAt Go.RowKit
open Rm Hp

/-- Blocks apart from those of Z. -/
def KP (wr : World) (s : Nat) (Z : List Nat) (A : List (Nat × List Value × TypeId)) : Prop := ∀ x ∈ A, Blk wr x.1 x.2.1 x.2.2 ∧ x.1 ∉ Z ∧ s ≤ x.1
/-- A desk at block s, and blocks apart from it; nothing below s has turned. -/
def DA (w wr : World) (s : Nat) (A : List (Nat × List Value × TypeId)) (R : Option Rq) (P : Int → Bool) (N : Nat) : Prop := ∃ Z, PD wr s Z R P N ∧ (∀ k ∈ Z, s ≤ k) ∧ KP wr s Z A ∧ Below s w wr
/-- The world with a step in a new block. -/
def bx (t : TypeId) (w : World) (k : Int) (u f : Bool) : World := w.alloc (.cells #[.int .i64 k, .bool u, .bool f] t)
def sc (k : Int) (u f : Bool) : List Value := [.int .i64 k, .bool u, .bool f]

section
variable {w wr w1 : World} {s : Nat} {Z Z' : List Nat} {A : List (Nat × List Value × TypeId)} {R R' : Option Rq} {P P' : Int → Bool} {N N' : Nat}
theorem bx_blk (t : TypeId) (w : World) (k : Int) (u f : Bool) : Blk (bx t w k u f) w.heap.size (sc k u f) t := Blk.new w (sc k u f) t
theorem bx_below (t : TypeId) (w : World) (k : Int) (u f : Bool) : Below w.heap.size w (bx t w k u f) := (Below.refl _ _).alloc (Nat.le_refl _) _
theorem KP.below (h : KP wr s Z A) (f : Below wr.heap.size wr w1) : KP w1 s Z A := fun x hx => ⟨(h x hx).1.keep (Fr.of_below f) (h x hx).1.lt (by simp), (h x hx).2⟩
theorem KP.mz (h : KP wr s Z A) (m : Mz wr w1 Z Z') : KP w1 s Z' A := fun x hx => by
  obtain ⟨k, n, l⟩ := h x hx
  refine ⟨k.keep m.1 k.lt n, fun e => ?_, l⟩
  rcases m.2 _ e with e | e
  · exact n e
  · have := k.lt
    omega
theorem KP.tail {x : Nat × List Value × TypeId} (h : KP wr s Z (x :: A)) : KP wr s Z A := fun y hy => h y (List.mem_cons_of_mem _ hy)
theorem DA.hi (t : DA w wr s A R P N) : s < wr.heap.size := by
  obtain ⟨Z, ⟨_, _, h⟩, _⟩ := t
  exact h.sb.lt
theorem DA.bel (t : DA w wr s A R P N) : Below s w wr := by
  obtain ⟨Z, _, _, _, h⟩ := t
  exact h
theorem DA.below (t : DA w wr s A R P N) (f : Below wr.heap.size wr w1) : DA w w1 s A R P N := by
  have := t.hi
  obtain ⟨Z, h, hz, hk, b⟩ := t
  exact ⟨Z, h.below f, hz, hk.below f, b.trans (f.mono (by omega))⟩
theorem DA.drop {x : Nat × List Value × TypeId} (t : DA w wr s (x :: A) R P N) : DA w wr s A R P N := by
  obtain ⟨Z, h, hz, hk, b⟩ := t
  exact ⟨Z, h, hz, hk.tail, b⟩
theorem DA.at {x : Nat × List Value × TypeId} (t : DA w wr s A R P N) (h : x ∈ A) : Blk wr x.1 x.2.1 x.2.2 := by
  obtain ⟨Z, _, _, hk, _⟩ := t
  exact (hk x h).1
/-- A call that turns it. -/
theorem DA.call (h : PD wr s Z R P N) (hz : ∀ k ∈ Z, s ≤ k) (hk : KP wr s Z A) (b : Below s w wr) (g : ∃ Z', PD w1 s Z' R' P' N' ∧ Mz wr w1 Z Z') : DA w w1 s A R' P' N' := by
  obtain ⟨Z', h2, m⟩ := g
  have hs : s < wr.heap.size := by
    obtain ⟨_, _, h⟩ := h
    exact h.sb.lt
  refine ⟨Z', h2, fun k hk => ?_, hk.mz m, fr_own b m.1 (by omega) hz⟩
  rcases m.2 k hk with e | e
  · exact hz k e
  · omega
theorem DA.boxx {t : TypeId} {cs : List Value} {X : World} (d : DA w wr s A R P N) (kb : Blk X wr.heap.size cs t) (fb : Below wr.heap.size wr X) : DA w X s ((wr.heap.size, cs, t) :: A) R P N := by
  have hs := d.hi
  obtain ⟨Z, h, hz, hk, b⟩ := d
  refine ⟨Z, h.below fb, hz, fun x hx => ?_, b.trans (fb.mono (by omega))⟩
  rcases List.mem_cons.1 hx with e | e
  · subst e
    refine ⟨kb, fun hm => ?_, by show s ≤ wr.heap.size; omega⟩
    obtain ⟨_, _, h⟩ := h
    have := h.lt _ hm
    exact absurd this (Nat.lt_irrefl _)
  · exact hk.below fb x e
theorem DA.box {t : TypeId} (d : DA w wr s A R P N) (k : Int) (u f : Bool) : DA w (bx t wr k u f) s ((wr.heap.size, sc k u f, t) :: A) R P N := d.boxx (bx_blk t wr k u f) (bx_below t wr k u f)
theorem da_plan (k : Int) (hw : (Lit.int .i64 k).wf = true) (hn : N ≤ 100000) (t : DA w wr s A R P N) : Calls Try.prog 22 #[.pointer (some ⟨s, 0, none⟩), .int .i64 k] wr fun e w' => e = .returned (.int .i64 (plE k)) ∧ DA w w' s A R (plP P k) (N + 1) := by
  obtain ⟨Z, h, hz, hk, b⟩ := t
  exact (hplan_any k hw wr h hn).mono fun _ _ ⟨r1, r2⟩ => ⟨r1, DA.call h hz hk b r2⟩
theorem da_begin (up : Bool) (c y : Int) (t : DA w wr s A R P N) : Calls Try.prog 24 #[.pointer (some ⟨s, 0, none⟩), .bool up, .int .i64 c, .int .i64 y] wr fun e w' => e = .returned (.int .i64 (beE R c y)) ∧ DA w w' s A (beR R up c y) P N := by
  obtain ⟨Z, h, hz, hk, b⟩ := t
  exact (hbegin_any up c y wr h).mono fun _ _ ⟨r1, r2⟩ => ⟨r1, DA.call h hz hk b r2⟩
theorem da_next (t : DA w wr s A R P N) : Calls Try.prog 26 #[.pointer (some ⟨s, 0, none⟩)] wr fun e w' => e = .returned (.tuple #[stv ((nxK R : Nat) : Int) (nxU R) (nxF P R), .int .i64 (nxE R)]) ∧ DA w w' s A (nxR P R) (nxP P R) N := by
  obtain ⟨Z, h, hz, hk, b⟩ := t
  exact (hnext_any wr h).mono fun _ _ ⟨r1, r2⟩ => ⟨r1, DA.call h hz hk b r2⟩
theorem da_done (t : DA w wr s A R P N) : Calls Try.prog 28 #[.pointer (some ⟨s, 0, none⟩)] wr fun e w' => e = .returned (.int .i64 (doE R)) ∧ DA w w' s A (doR R) P N := by
  obtain ⟨Z, h, hz, hk, b⟩ := t
  exact (hdone_any wr h).mono fun _ _ ⟨r1, r2⟩ => ⟨r1, DA.call h hz hk b r2⟩
theorem da_end (t : DA w wr s A R P N) : Calls Try.prog 30 #[.pointer (some ⟨s, 0, none⟩)] wr fun e w' => e = .returned (.tuple #[.int .i64 (enW R), .int .i64 (enE R)]) ∧ DA w w' s A (enR R) P N := by
  obtain ⟨Z, h, hz, hk, b⟩ := t
  exact (hend_any wr h).mono fun _ _ ⟨r1, r2⟩ => ⟨r1, DA.call h hz hk b r2⟩
theorem da_busy (t : DA w wr s A R P N) : Calls Try.prog 32 #[.pointer (some ⟨s, 0, none⟩)] wr fun e w' => e = .returned (.bool R.isSome) ∧ DA w w' s A R P N := by
  have t2 := t
  obtain ⟨Z, h, hz, hk, b⟩ := t
  exact (hbusy_any wr h).mono fun _ _ ⟨r1, r2⟩ => ⟨r1, t2.below r2⟩
theorem da_new (w : World) : DA w (w.alloc (.cells #[.pointer none, .map none] 43)) w.heap.size [] none (fun _ => false) 0 :=
  ⟨[w.heap.size], ⟨_, _, Blk.new w [.pointer none, .map none] _, rfl, Or.inl ⟨rfl, fun _ => rfl⟩, by simp, by simp⟩, by simp, fun x hx => by simp at hx, (Below.refl _ _).alloc (Nat.le_refl _) _⟩
end

set_option maxRecDepth 100000 in
set_option maxHeartbeats 4000000 in
theorem hknown_yes (w : World) : Calls Try.prog 38 #[] w fun e w' => e = .returned (.bool true) ∧ Below w.heap.size w w' := by
  have t0 := da_new w
  obtain ⟨u0, hu0⟩ : ∃ u0, w.alloc (.cells #[.pointer none, .map none] 43) = u0 := ⟨_, rfl⟩
  have HU0 : Hid (w.alloc (.cells #[.pointer none, .map none] 43) = u0) := hu0
  rw [hu0] at t0
  obtain ⟨s, hs⟩ : ∃ s, w.heap.size = s := ⟨_, rfl⟩
  have HS : Hid (w.heap.size = s) := hs
  rw [hs] at t0 ⊢
  have P0 : Hid (∀ _ : Unit, _) := fun _ => da_plan 1 (by decide) (by omega) t0
  rw [show plE 1 = 0 by decide] at P0
  clear hu0 hs t0
  go_enter Try.func38, Try.ntmps38
  go_wp2_with fail
  rw [HU0.out, HS.out]
  refine (P0.out ()).mono ?_
  rintro e w1 ⟨rfl, t1⟩
  have P1 : Hid (∀ _ : Unit, _) := fun _ => da_begin true 3 0 t1
  rw [show beE none 3 0 = 0 by decide, show beR none true 3 0 = (some ⟨true, 3, 0, 0, false, false⟩ : Option Rq) from rfl] at P1
  clear t1
  go_wp2_with fail
  refine (P1.out ()).mono ?_
  rintro e w2 ⟨rfl, t2⟩
  have P2 : Hid (∀ _ : Unit, _) := fun _ => da_next t2
  rw [show ((nxK (some ⟨true, 3, 0, 0, false, false⟩ : Option Rq) : Nat) : Int) = 0 by decide, show nxU (some ⟨true, 3, 0, 0, false, false⟩ : Option Rq) = false by decide, show nxF (plP (fun _ => false) 1) (some ⟨true, 3, 0, 0, false, false⟩ : Option Rq) = false by decide, show nxE (some ⟨true, 3, 0, 0, false, false⟩ : Option Rq) = 0 by decide, show nxR (plP (fun _ => false) 1) (some ⟨true, 3, 0, 0, false, false⟩ : Option Rq) = (some ⟨true, 3, 0, 0, false, true⟩ : Option Rq) from rfl, show nxP (plP (fun _ => false) 1) (some ⟨true, 3, 0, 0, false, false⟩ : Option Rq) = plP (fun _ => false) 1 from rfl, show stv 0 false false = .agg #[.int .i64 0, .bool false, .bool false] from rfl] at P2
  clear t2
  go_wp2_with fail
  refine (P2.out ()).mono ?_
  rintro e w3 ⟨rfl, t3⟩
  replace t3 := t3.box (t := 53) 0 false false
  have P3 : Hid (∀ _ : Unit, _) := fun _ => da_done t3
  rw [show doE (some ⟨true, 3, 0, 0, false, true⟩ : Option Rq) = 0 by decide, show doR (some ⟨true, 3, 0, 0, false, true⟩ : Option Rq) = (some ⟨true, 3, 0, 1, false, false⟩ : Option Rq) from rfl] at P3
  clear t3
  go_wp2_with fail
  refine (P3.out ()).mono ?_
  rintro e w4 ⟨rfl, t4⟩
  have P4 : Hid (∀ _ : Unit, _) := fun _ => da_next t4
  rw [show ((nxK (some ⟨true, 3, 0, 1, false, false⟩ : Option Rq) : Nat) : Int) = 1 by decide, show nxU (some ⟨true, 3, 0, 1, false, false⟩ : Option Rq) = false by decide, show nxF (plP (fun _ => false) 1) (some ⟨true, 3, 0, 1, false, false⟩ : Option Rq) = true by decide, show nxE (some ⟨true, 3, 0, 1, false, false⟩ : Option Rq) = 0 by decide, show nxR (plP (fun _ => false) 1) (some ⟨true, 3, 0, 1, false, false⟩ : Option Rq) = (some ⟨true, 3, 0, 1, true, true⟩ : Option Rq) from rfl, show stv 1 false true = .agg #[.int .i64 1, .bool false, .bool true] from rfl] at P4
  clear t4
  go_wp2_with fail
  refine (P4.out ()).mono ?_
  rintro e w5 ⟨rfl, t5⟩
  replace t5 := t5.box (t := 53) 1 false true
  generalize nxP (plP (fun _ => false) 1) (some ⟨true, 3, 0, 1, false, false⟩ : Option Rq) = P2 at *
  have P5 : Hid (∀ _ : Unit, _) := fun _ => da_next t5
  rw [show ((nxK (some ⟨true, 3, 0, 1, true, true⟩ : Option Rq) : Nat) : Int) = 0 by decide, show nxU (some ⟨true, 3, 0, 1, true, true⟩ : Option Rq) = true by decide, show nxF P2 (some ⟨true, 3, 0, 1, true, true⟩ : Option Rq) = false from rfl, show nxE (some ⟨true, 3, 0, 1, true, true⟩ : Option Rq) = 0 by decide, show nxR P2 (some ⟨true, 3, 0, 1, true, true⟩ : Option Rq) = (some ⟨true, 3, 0, 1, true, true⟩ : Option Rq) from rfl, show nxP P2 (some ⟨true, 3, 0, 1, true, true⟩ : Option Rq) = P2 from rfl, show stv 0 true false = .agg #[.int .i64 0, .bool true, .bool false] from rfl] at P5
  clear t5
  go_wp2_with fail
  refine (P5.out ()).mono ?_
  rintro e w6 ⟨rfl, t6⟩
  replace t6 := t6.box (t := 53) 0 true false
  have P6 : Hid (∀ _ : Unit, _) := fun _ => da_done t6
  rw [show doE (some ⟨true, 3, 0, 1, true, true⟩ : Option Rq) = 0 by decide, show doR (some ⟨true, 3, 0, 1, true, true⟩ : Option Rq) = (some ⟨true, 3, 0, 0, true, false⟩ : Option Rq) from rfl] at P6
  clear t6
  go_wp2_with fail
  refine (P6.out ()).mono ?_
  rintro e w7 ⟨rfl, t7⟩
  have P7 : Hid (∀ _ : Unit, _) := fun _ => da_end t7
  rw [show enW (some ⟨true, 3, 0, 0, true, false⟩ : Option Rq) = 11 by decide, show enE (some ⟨true, 3, 0, 0, true, false⟩ : Option Rq) = 0 by decide, show enR (some ⟨true, 3, 0, 0, true, false⟩ : Option Rq) = none from rfl] at P7
  clear t7
  go_wp2_with fail
  refine (P7.out ()).mono ?_
  rintro e w8 ⟨rfl, t8⟩
  have x0 := t8.at (x := (w3.heap.size, sc 0 false false, 53)) (by simp)
  have y00 : w8.cell? ⟨w3.heap.size, 0, none⟩ = some (.int .i64 0) := x0.cell 0
  have y01 : w8.cell? ⟨w3.heap.size, 1, none⟩ = some (.bool false) := x0.cell 1
  have y02 : w8.cell? ⟨w3.heap.size, 2, none⟩ = some (.bool false) := x0.cell 2
  have x1 := t8.at (x := (w5.heap.size, sc 1 false true, 53)) (by simp)
  have y10 : w8.cell? ⟨w5.heap.size, 0, none⟩ = some (.int .i64 1) := x1.cell 0
  have y11 : w8.cell? ⟨w5.heap.size, 1, none⟩ = some (.bool false) := x1.cell 1
  have y12 : w8.cell? ⟨w5.heap.size, 2, none⟩ = some (.bool true) := x1.cell 2
  have x2 := t8.at (x := (w6.heap.size, sc 0 true false, 53)) (by simp)
  have y20 : w8.cell? ⟨w6.heap.size, 0, none⟩ = some (.int .i64 0) := x2.cell 0
  have y21 : w8.cell? ⟨w6.heap.size, 1, none⟩ = some (.bool true) := x2.cell 1
  have y22 : w8.cell? ⟨w6.heap.size, 2, none⟩ = some (.bool false) := x2.cell 2
  have P8 : Hid (∀ _ : Unit, _) := fun _ => da_busy t8
  clear t8 x0 x1 x2
  go_wp2_with fail
  refine (P8.out ()).mono ?_
  rintro e w9 ⟨rfl, t9⟩
  have B : Hid (Below s w w9) := t9.bel
  clear t9
  go_wp2
  go_ret
  exact ⟨rfl, B.out⟩
end Go.Proofs.Ytaaikbehdfkhlaa
