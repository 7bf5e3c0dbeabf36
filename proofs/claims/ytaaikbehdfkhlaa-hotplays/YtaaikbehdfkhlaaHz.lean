/- A desk of the program and the document's, side by side, beside blocks that their calls leave alone: what each call of law 22 leaves of them. -/
import Derived.Test.YtaaikbehdfkhlaaHu
import Derived.Test.YtaaikbehdfkhlaaHy
namespace Go.Proofs.Ytaaikbehdfkhlaa
open Go.ChangeShapes Go.WideShapes Go.ChangeAt Go.RowKit
open Rm Hp

/-- The program's desk at block s (R', P'), the document's at block s + 1 (R, P); the blocks of A are apart from both. -/
def HH (w wr : World) (s : Nat) (A : List (Nat × List Value × TypeId)) (R : Option Rq) (P : Int → Bool) (N : Nat) (R' : Option Rq) (P' : Int → Bool) (N' : Nat) : Prop :=
  ∃ Z Y, PD wr s Z R' P' N' ∧ DD wr (s + 1) Y R P N ∧ (∀ k ∈ Z, s ≤ k) ∧ (∀ k ∈ Y, s ≤ k) ∧ (∀ k ∈ Z, k ∉ Y) ∧ KP wr s Z A ∧ KP wr s Y A ∧ Below s w wr
/-- An act's cells. -/
def ac (y0 y1 : Int) (y2 : Bool) (y3 y4 : Int) : List Value := [.int .i64 y0, .int .i64 y1, .bool y2, .int .i64 y3, .int .i64 y4]
/-- A world behind calls that only look. -/
def LK (wc v : World) : Prop := Below wc.heap.size wc v

section
variable {w wr v1 w1 : World} {s N N' N2 : Nat} {A : List (Nat × List Value × TypeId)} {R R' R2 : Option Rq} {P P' P2 : Int → Bool}
theorem HH.hi (t : HH w wr s A R P N R' P' N') : s < wr.heap.size := by
  obtain ⟨Z, Y, ⟨_, _, h⟩, _⟩ := t
  exact h.sb.lt
theorem HH.bel (t : HH w wr s A R P N R' P' N') : Below s w wr := by
  obtain ⟨Z, Y, _, _, _, _, _, _, _, h⟩ := t
  exact h
theorem HH.below (t : HH w wr s A R P N R' P' N') (f : Below wr.heap.size wr w1) : HH w w1 s A R P N R' P' N' := by
  have := t.hi
  obtain ⟨Z, Y, h, d, hz, hy, hd, ka, kb, b⟩ := t
  exact ⟨Z, Y, h.below f, d.below f, hz, hy, hd, ka.below f, kb.below f, b.trans (f.mono (by omega))⟩
theorem HH.sm (t : HH w wr s A R P N R' P' N') (e : Sm w1 wr) : HH w w1 s A R P N R' P' N' := t.below (e.below (Below.refl _ _))
theorem HH.drop {x : Nat × List Value × TypeId} (t : HH w wr s (x :: A) R P N R' P' N') : HH w wr s A R P N R' P' N' := by
  obtain ⟨Z, Y, h, d, hz, hy, hd, ka, kb, b⟩ := t
  exact ⟨Z, Y, h, d, hz, hy, hd, ka.tail, kb.tail, b⟩
theorem HH.at {x : Nat × List Value × TypeId} (t : HH w wr s A R P N R' P' N') (h : x ∈ A) : Blk wr x.1 x.2.1 x.2.2 := by
  obtain ⟨Z, Y, _, _, _, _, _, ka, _⟩ := t
  exact (ka x h).1
theorem HH.boxx {t : TypeId} {cs : List Value} {X : World} (d : HH w wr s A R P N R' P' N') (kb : Blk X wr.heap.size cs t) (fb : Below wr.heap.size wr X) : HH w X s ((wr.heap.size, cs, t) :: A) R P N R' P' N' := by
  have hs := d.hi
  obtain ⟨Z, Y, h, d, hz, hy, hd, k1, k2, b⟩ := d
  refine ⟨Z, Y, h.below fb, d.below fb, hz, hy, hd, fun x hx => ?_, fun x hx => ?_, b.trans (fb.mono (by omega))⟩
  · rcases List.mem_cons.1 hx with e | e
    · subst e
      refine ⟨kb, fun hm => ?_, by show s ≤ wr.heap.size; omega⟩
      obtain ⟨_, _, h⟩ := h
      exact absurd (h.lt _ hm) (Nat.lt_irrefl _)
    · exact k1.below fb x e
  · rcases List.mem_cons.1 hx with e | e
    · subst e
      refine ⟨kb, fun hm => ?_, by show s ≤ wr.heap.size; omega⟩
      obtain ⟨_, _, _, _, d⟩ := d
      exact absurd (d.lt _ hm) (Nat.lt_irrefl _)
    · exact k2.below fb x e
theorem HH.box {t : TypeId} (d : HH w wr s A R P N R' P' N') (k : Int) (u f : Bool) : HH w (bx t wr k u f) s ((wr.heap.size, sc k u f, t) :: A) R P N R' P' N' := d.boxx (bx_blk t wr k u f) (bx_below t wr k u f)
theorem HH.act {t : TypeId} {z : Nat} {y0 y1 y3 y4 : Int} {y2 : Bool} (h : HH w wr s ((z, ac y0 y1 y2 y3 y4, t) :: A) R P N R' P' N') : wr.cell? ⟨z, 0, none⟩ = some (.int .i64 y0) ∧ wr.cell? ⟨z, 1, none⟩ = some (.int .i64 y1) ∧ wr.cell? ⟨z, 2, none⟩ = some (.bool y2) ∧ wr.cell? ⟨z, 3, none⟩ = some (.int .i64 y3) ∧ wr.cell? ⟨z, 4, none⟩ = some (.int .i64 y4) := by
  have k := h.at (x := (z, ac y0 y1 y2 y3 y4, t)) (by simp)
  exact ⟨k.cell 0, k.cell 1, k.cell 2, k.cell 3, k.cell 4⟩
theorem HH.prog {Z Y : List Nat} (h : PD wr s Z R' P' N') (d : DD wr (s + 1) Y R P N) (hz : ∀ k ∈ Z, s ≤ k) (hy : ∀ k ∈ Y, s ≤ k) (hd : ∀ k ∈ Z, k ∉ Y) (k1 : KP wr s Z A) (k2 : KP wr s Y A) (b : Below s w wr) (g : ∃ Z', PD w1 s Z' R2 P2 N2 ∧ Mz wr w1 Z Z') : HH w w1 s A R P N R2 P2 N2 := by
  obtain ⟨Z', h2, m⟩ := g
  have hs : s < wr.heap.size := by
    obtain ⟨_, _, h⟩ := h
    exact h.sb.lt
  have yl : ∀ k ∈ Y, k < wr.heap.size := by
    obtain ⟨_, _, _, _, d⟩ := d
    exact d.lt
  refine ⟨Z', Y, h2, d.keep m.1 (Nat.le_refl _) (fun k hk e => hd k e hk), fun k hk => ?_, hy, fun k hk e => ?_, k1.mz m, fun x hx => ?_, fr_own b m.1 (by omega) hz⟩
  · rcases m.2 k hk with e | e
    · exact hz k e
    · omega
  · rcases m.2 k hk with e2 | e2
    · exact hd k e2 e
    · have := yl k e
      omega
  · obtain ⟨k, n, l⟩ := k2 x hx
    exact ⟨k.keep m.1 k.lt (k1 x hx).2.1, n, l⟩
theorem HH.doc {Z Y : List Nat} (h : PD wr s Z R' P' N') (_ : DD wr (s + 1) Y R P N) (hz : ∀ k ∈ Z, s ≤ k) (hy : ∀ k ∈ Y, s ≤ k) (hd : ∀ k ∈ Z, k ∉ Y) (k1 : KP wr s Z A) (k2 : KP wr s Y A) (b : Below s w wr) (g : ∃ Y', DD w1 (s + 1) Y' R2 P2 N2 ∧ My wr w1 Y Y') : HH w w1 s A R2 P2 N2 R' P' N' := by
  obtain ⟨Y', d2, m⟩ := g
  have hs : s < wr.heap.size := by
    obtain ⟨_, _, h⟩ := h
    exact h.sb.lt
  have zl : ∀ k ∈ Z, k < wr.heap.size := by
    obtain ⟨_, _, h⟩ := h
    exact h.lt
  refine ⟨Z, Y', h.keep m.1 (fun k hk => ⟨zl k hk, hd k hk⟩), d2, hz, fun k hk => ?_, fun k hk e => ?_, fun x hx => ?_, k2.mz m, fr_own b m.1 (by omega) hy⟩
  · rcases m.2 k hk with e | e
    · exact hy k e
    · omega
  · rcases m.2 k e with e2 | e2
    · exact hd k hk e2
    · have := zl k hk
      omega
  · obtain ⟨k, n, l⟩ := k1 x hx
    exact ⟨k.keep m.1 k.lt (k2 x hx).2.1, n, l⟩
theorem hh_plan (k : Int) (hw : (Lit.int .i64 k).wf = true) (hn : N' ≤ 100000) (t : HH w v1 s A R P N R' P' N') (e : Sm w1 v1) : Calls Try.prog 22 #[.pointer (some ⟨s, 0, none⟩), .int .i64 k] w1 fun r w' => r = .returned (.int .i64 (plE k)) ∧ HH w w' s A R P N R' (plP P' k) (N' + 1) := by
  obtain ⟨Z, Y, h, d, hz, hy, hd, k1, k2, b⟩ := t.sm e
  exact (hplan_any k hw w1 h hn).mono fun _ _ ⟨r1, r2⟩ => ⟨r1, HH.prog h d hz hy hd k1 k2 b r2⟩
theorem hh_rplan (k : Int) (hn : N ≤ 900) (t : HH w v1 s A R P N R' P' N') (e : Sm w1 v1) : Calls Try.prog 23 #[.pointer (some ⟨s + 1, 0, none⟩), .int .i64 k] w1 fun r w' => r = .returned (.int .i64 (plE k)) ∧ HH w w' s A R (plP P k) (N + 1) R' P' N' := by
  obtain ⟨Z, Y, h, d, hz, hy, hd, k1, k2, b⟩ := t.sm e
  exact (rfails_any k w1 d hn).mono fun _ _ ⟨r1, r2⟩ => ⟨r1, HH.doc h d hz hy hd k1 k2 b r2⟩
theorem hh_begin (up : Bool) (c y : Int) (t : HH w v1 s A R P N R' P' N') (e : Sm w1 v1) : Calls Try.prog 24 #[.pointer (some ⟨s, 0, none⟩), .bool up, .int .i64 c, .int .i64 y] w1 fun r w' => r = .returned (.int .i64 (beE R' c y)) ∧ HH w w' s A R P N (beR R' up c y) P' N' := by
  obtain ⟨Z, Y, h, d, hz, hy, hd, k1, k2, b⟩ := t.sm e
  exact (hbegin_any up c y w1 h).mono fun _ _ ⟨r1, r2⟩ => ⟨r1, HH.prog h d hz hy hd k1 k2 b r2⟩
theorem hh_rbegin (up : Bool) (c y : Int) (t : HH w v1 s A R P N R' P' N') (e : Sm w1 v1) : Calls Try.prog 25 #[.pointer (some ⟨s + 1, 0, none⟩), .bool up, .int .i64 c, .int .i64 y] w1 fun r w' => r = .returned (.int .i64 (beE R c y)) ∧ HH w w' s A (beR R up c y) P N R' P' N' := by
  obtain ⟨Z, Y, h, d, hz, hy, hd, k1, k2, b⟩ := t.sm e
  exact (rbegin_any up c y w1 d).mono fun _ _ ⟨r1, r2⟩ => ⟨r1, HH.doc h d hz hy hd k1 k2 b r2⟩
theorem hh_next (t : HH w v1 s A R P N R' P' N') (e : Sm w1 v1) : Calls Try.prog 26 #[.pointer (some ⟨s, 0, none⟩)] w1 fun r w' => r = .returned (.tuple #[stv ((nxK R' : Nat) : Int) (nxU R') (nxF P' R'), .int .i64 (nxE R')]) ∧ HH w w' s A R P N (nxR P' R') (nxP P' R') N' := by
  obtain ⟨Z, Y, h, d, hz, hy, hd, k1, k2, b⟩ := t.sm e
  exact (hnext_any w1 h).mono fun _ _ ⟨r1, r2⟩ => ⟨r1, HH.prog h d hz hy hd k1 k2 b r2⟩
theorem hh_rnext (hn : N ≤ 900) (t : HH w v1 s A R P N R' P' N') (e : Sm w1 v1) : Calls Try.prog 27 #[.pointer (some ⟨s + 1, 0, none⟩)] w1 fun r w' => r = .returned (.tuple #[stv ((nxK R : Nat) : Int) (nxU R) (nxF P R), .int .i64 (nxE R)]) ∧ HH w w' s A (nxR P R) (nxP P R) N R' P' N' := by
  obtain ⟨Z, Y, h, d, hz, hy, hd, k1, k2, b⟩ := t.sm e
  exact (rnext_any w1 d hn).mono fun _ _ ⟨r1, r2⟩ => ⟨r1, HH.doc h d hz hy hd k1 k2 b r2⟩
theorem hh_done (t : HH w v1 s A R P N R' P' N') (e : Sm w1 v1) : Calls Try.prog 28 #[.pointer (some ⟨s, 0, none⟩)] w1 fun r w' => r = .returned (.int .i64 (doE R')) ∧ HH w w' s A R P N (doR R') P' N' := by
  obtain ⟨Z, Y, h, d, hz, hy, hd, k1, k2, b⟩ := t.sm e
  exact (hdone_any w1 h).mono fun _ _ ⟨r1, r2⟩ => ⟨r1, HH.prog h d hz hy hd k1 k2 b r2⟩
theorem hh_rdone (t : HH w v1 s A R P N R' P' N') (e : Sm w1 v1) : Calls Try.prog 29 #[.pointer (some ⟨s + 1, 0, none⟩)] w1 fun r w' => r = .returned (.int .i64 (doE R)) ∧ HH w w' s A (doR R) P N R' P' N' := by
  obtain ⟨Z, Y, h, d, hz, hy, hd, k1, k2, b⟩ := t.sm e
  exact (rdone_any w1 d).mono fun _ _ ⟨r1, r2⟩ => ⟨r1, HH.doc h d hz hy hd k1 k2 b r2⟩
theorem hh_end (t : HH w v1 s A R P N R' P' N') (e : Sm w1 v1) : Calls Try.prog 30 #[.pointer (some ⟨s, 0, none⟩)] w1 fun r w' => r = .returned (.tuple #[.int .i64 (enW R'), .int .i64 (enE R')]) ∧ HH w w' s A R P N (enR R') P' N' := by
  obtain ⟨Z, Y, h, d, hz, hy, hd, k1, k2, b⟩ := t.sm e
  exact (hend_any w1 h).mono fun _ _ ⟨r1, r2⟩ => ⟨r1, HH.prog h d hz hy hd k1 k2 b r2⟩
theorem hh_rend (t : HH w v1 s A R P N R' P' N') (e : Sm w1 v1) : Calls Try.prog 31 #[.pointer (some ⟨s + 1, 0, none⟩)] w1 fun r w' => r = .returned (.tuple #[.int .i64 (enW R), .int .i64 (enE R)]) ∧ HH w w' s A (enR R) P N R' P' N' := by
  obtain ⟨Z, Y, h, d, hz, hy, hd, k1, k2, b⟩ := t.sm e
  exact (rend_any w1 d).mono fun _ _ ⟨r1, r2⟩ => ⟨r1, HH.doc h d hz hy hd k1 k2 b r2⟩
theorem hh_new (w : World) : HH w ((w.alloc (.cells #[.pointer none, .map none] 43)).alloc (.cells #[.pointer none, .bool false, .int .i64 0, .int .i64 0, .bool false, .slice none 0 0] 47)) w.heap.size [] none (fun _ => false) 0 none (fun _ => false) 0 := by
  obtain ⟨Z, h, hz, _, b⟩ := da_new w
  obtain ⟨u, hu⟩ : ∃ u, u = w.alloc (.cells #[.pointer none, .map none] 43) := ⟨_, rfl⟩
  have us : u.heap.size = w.heap.size + 1 := by rw [hu]; simp
  rw [← hu] at h b ⊢
  have kb : Blk (u.alloc (.cells #[.pointer none, .bool false, .int .i64 0, .int .i64 0, .bool false, .slice none 0 0] 47)) (w.heap.size + 1) [.pointer none, .bool false, .int .i64 0, .int .i64 0, .bool false, .slice none 0 0] 47 := us ▸ Blk.new u [.pointer none, .bool false, .int .i64 0, .int .i64 0, .bool false, .slice none 0 0] 47
  have fb : Below u.heap.size u (u.alloc (.cells #[.pointer none, .bool false, .int .i64 0, .int .i64 0, .bool false, .slice none 0 0] 47)) := (Below.refl _ _).alloc (Nat.le_refl _) _
  have zl : ∀ k ∈ Z, k < u.heap.size := by
    obtain ⟨_, _, h⟩ := h
    exact h.lt
  refine ⟨Z, [w.heap.size + 1], h.below fb, ⟨.pointer none, false, .slice none 0 0, [], kb, rfl, Or.inl ⟨rfl, rfl⟩, fun _ => by simp, by simp, by simp [vb], by simp, by simp [us]⟩, hz, by simp, fun k hk => ?_, fun x hx => by simp at hx, fun x hx => by simp at hx, b.trans (fb.mono (by omega))⟩
  have := zl k hk
  simp
  omega
end

section
variable {w wc v1 w1 : World} {s N N' : Nat} {A : List (Nat × List Value × TypeId)} {R R' : Option Rq} {P P' : Int → Bool}
theorem LK.refl (wc : World) : LK wc wc := Below.refl _ _
theorem LK.next (b : LK wc v1) (e : Sm w1 v1) {w' : World} (f : Below w1.heap.size w1 w') : LK wc w' := by
  have b1 : Below wc.heap.size wc w1 := e.below b
  exact b1.trans (f.mono b1.size)
theorem HH.look (t : HH w wc s A R P N R' P' N') (b : LK wc v1) (e : Sm w1 v1) : HH w w1 s A R P N R' P' N' := t.below (e.below b)
theorem lk_busy (t : HH w wc s A R P N R' P' N') (b : LK wc v1) (e : Sm w1 v1) : Calls Try.prog 32 #[.pointer (some ⟨s, 0, none⟩)] w1 fun r w' => r = .returned (.bool R'.isSome) ∧ LK wc w' := by
  obtain ⟨Z, Y, h, d, _⟩ := t.look b e
  exact (hbusy_any w1 h).mono fun _ _ ⟨r1, r2⟩ => ⟨r1, b.next e r2⟩
theorem lk_up (t : HH w wc s A R P N R' P' N') (b : LK wc v1) (e : Sm w1 v1) : Calls Try.prog 33 #[.pointer (some ⟨s, 0, none⟩)] w1 fun r w' => r = .returned (.bool (ups R')) ∧ LK wc w' := by
  obtain ⟨Z, Y, h, d, _⟩ := t.look b e
  exact (hup_any w1 h).mono fun _ _ ⟨r1, r2⟩ => ⟨r1, b.next e r2⟩
theorem lk_cpu (t : HH w wc s A R P N R' P' N') (b : LK wc v1) (e : Sm w1 v1) : Calls Try.prog 34 #[.pointer (some ⟨s, 0, none⟩)] w1 fun r w' => r = .returned (.int .i64 (cps R')) ∧ LK wc w' := by
  obtain ⟨Z, Y, h, d, _⟩ := t.look b e
  exact (hcpu_any w1 h).mono fun _ _ ⟨r1, r2⟩ => ⟨r1, b.next e r2⟩
theorem lk_by (t : HH w wc s A R P N R' P' N') (b : LK wc v1) (e : Sm w1 v1) : Calls Try.prog 35 #[.pointer (some ⟨s, 0, none⟩)] w1 fun r w' => r = .returned (.int .i64 (cos R')) ∧ LK wc w' := by
  obtain ⟨Z, Y, h, d, _⟩ := t.look b e
  exact (hby_any w1 h).mono fun _ _ ⟨r1, r2⟩ => ⟨r1, b.next e r2⟩
theorem lk_over (t : HH w wc s A R P N R' P' N') (b : LK wc v1) (e : Sm w1 v1) : Calls Try.prog 36 #[.pointer (some ⟨s, 0, none⟩)] w1 fun r w' => r = .returned (.bool (rov R')) ∧ LK wc w' := by
  obtain ⟨Z, Y, h, d, _⟩ := t.look b e
  exact (hover_any w1 h).mono fun _ _ ⟨r1, r2⟩ => ⟨r1, b.next e r2⟩
theorem lk_rover (t : HH w wc s A R P N R' P' N') (b : LK wc v1) (e : Sm w1 v1) : Calls Try.prog 37 #[.pointer (some ⟨s + 1, 0, none⟩)] w1 fun r w' => r = .returned (.bool (rov R)) ∧ LK wc w' := by
  obtain ⟨Z, Y, h, d, _⟩ := t.look b e
  exact (rover_any w1 d).mono fun _ _ ⟨r1, r2⟩ => by rw [r2]; exact ⟨r1, e.below b⟩
/-- What the document's desk holds. -/
theorem HH.cells (t : HH w wc s A R P N R' P' N') : ∃ nv, (R = none → nv = .pointer none) ∧ (∀ q, R = some q → ∃ x, nv = .pointer (some ⟨x, 0, none⟩)) ∧ ∀ v, LK wc v → v.cell? ⟨s + 1, 0, none⟩ = some nv ∧ v.cell? ⟨s + 1, 1, none⟩ = some (.bool (ups R)) ∧ v.cell? ⟨s + 1, 2, none⟩ = some (.int .i64 (cps R)) ∧ v.cell? ⟨s + 1, 3, none⟩ = some (.int .i64 (cos R)) := by
  obtain ⟨Z, Y, h, ⟨nv, tt, vv, L, d⟩, _⟩ := t
  refine ⟨nv, fun e => ?_, fun q e => ?_, fun v b => ?_⟩
  · subst e
    exact d.dn
  · subst e
    obtain ⟨x, _, e, _⟩ := d.dn
    exact ⟨x, e⟩
  · have d2 := d.keep (Fr.of_below b) (Nat.le_refl _) (by simp)
    exact ⟨d2.c0, d2.c1, d2.c2, d2.c3⟩
end
end Go.Proofs.Ytaaikbehdfkhlaa
