/- A pool of the program and the document's, in the middle of a law. -/
import Derived.Test.YtibajjidigmkhaaRows
import Derived.Test.YtibajjidigmkhaaOd
namespace Go.Proofs.Ytibajjidigmkhaa
open Go.ChangeShapes Go.WideShapes Go.ChangeAt Go.RowKit
open Om

/-- Both pools, alike; nothing below has turned. -/
structure OI (w wr : World) (s br m : Nat) (A : List Nat) : Prop where
  p : PO wr s m A
  r : RO wr (br + 1) br m A
  bel : Below s w wr
  lt : s < br

theorem OI.other {w wr w1 : World} {s br m : Nat} {A : List Nat} (h : OI w wr s br m A) (f : Fr wr.heap.size [s] wr w1) : RO w1 (br + 1) br m A := by
  have l1 := h.r.sb.lt
  have := h.lt
  exact h.r.keep f ⟨l1, by omega⟩ ⟨by simp; omega, by simp; omega⟩
theorem OI.act {w wr w1 w2 : World} {s br m : Nat} {A A2 : List Nat} (h : OI w wr s br m A) (p : PO w1 s m A2) (f : Fr wr.heap.size [s] wr w1) (r : RO w2 (br + 1) br m A2) (g : Fr w1.heap.size [br] w1 w2) : OI w w2 s br m A2 := by
  have l1 := h.p.sb.lt
  have l2 := p.sb.lt
  have l3 := h.lt
  have e := f.size
  exact ⟨p.keep g l2 (by simp; omega), r, (h.bel.trans ((f.less (by omega)).below (by simp))).trans ((g.less (by omega)).below (by simp; omega)), l3⟩
theorem OI.sm {w wr w1 : World} {s br m : Nat} {A : List Nat} (h : OI w wr s br m A) (e : Sm w1 wr) : OI w w1 s br m A :=
  ⟨h.p.heap e.1, h.r.heap e.1, e.below h.bel, h.lt⟩
theorem OI.le {w wr : World} {s br m : Nat} {A : List Nat} (h : OI w wr s br m A) : s ≤ wr.heap.size := by
  have := h.p.sb.lt
  omega

theorem oact_take {w wr : World} {s br m : Nat} {A : List Nat} (h : OI w wr s br m A) (u : World) (e : Sm u wr) :
    Calls Try.prog 12 #[.pointer (some ⟨s, 0, none⟩)] u fun e w' => e = .returned (.tuple #[.int .i64 (tkN m A), .int .i64 (tkE m A)]) ∧ PO w' s m (tkA m A) ∧ Fr wr.heap.size [s] wr w' :=
  (ptake_any u (h.p.heap e.1)).mono fun _ w' ⟨h1, h2, h3⟩ => ⟨h1, h2, e.fr (by rw [← e.1]; exact h3)⟩
theorem oact_give {w wr : World} {s br m : Nat} {A : List Nat} (h : OI w wr s br m A) (n : Int) (u : World) (e : Sm u wr) :
    Calls Try.prog 14 #[.pointer (some ⟨s, 0, none⟩), .int .i64 n] u fun e w' => e = .returned (.int .i64 (gvE m A n)) ∧ PO w' s m (gvA m A n) ∧ Fr wr.heap.size [s] wr w' :=
  (pgive_any n u (h.p.heap e.1)).mono fun _ w' ⟨h1, h2, h3⟩ => ⟨h1, h2, e.fr (by rw [← e.1]; exact h3)⟩
theorem oact_rgive {w wr : World} {s br m : Nat} {A : List Nat} (h : OI w wr s br m A) (n : Int) (v u : World) (f : Fr wr.heap.size [s] wr v) (e : Sm u v) :
    Calls Try.prog 15 #[.pointer (some ⟨br + 1, 0, none⟩), .int .i64 n] u fun e w' => e = .returned (.int .i64 (gvE m A n)) ∧ RO w' (br + 1) br m (gvA m A n) ∧ Fr v.heap.size [br] v w' :=
  (rpgive_any n u ((h.other f).heap e.1)).mono fun _ w' ⟨h1, h2, h3⟩ => ⟨h1, h2, e.fr (by rw [← e.1]; exact h3)⟩
end Go.Proofs.Ytibajjidigmkhaa
