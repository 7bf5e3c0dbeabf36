/- The program's table of cores and the document's, side by side, and blocks that a law holds beside them (A): what a call of either leaves of them. -/
import Derived.Test.YtddjkdcbbonjkaaRows
import Derived.Test.YtddjkdcbbonjkaaCoD
import Derived.Test.YtddjkdcbbonjkaaCoF
namespace Go.Proofs.Ytddjkdcbbonjkaa
open Go.ChangeShapes Go.WideShapes Go.ChangeAt Go.RowKit
open Co

structure KB (w wr : World) (s g r h : Nat) (A : List (Nat × List Value × TypeId)) (Y Z : List Kc) : Prop where
  c : CT wr s g Y
  d : DT wr r h Z
  b : Below w.heap.size w wr
  lo : w.heap.size ≤ s ∧ w.heap.size ≤ g ∧ w.heap.size ≤ r ∧ w.heap.size ≤ h
  ap : s ≠ h ∧ g ≠ r ∧ g ≠ h
  a : ∀ x ∈ A, Blk wr x.1 x.2.1 x.2.2 ∧ x.1 ≠ g ∧ x.1 ≠ h

section
variable {w wr v1 : World} {s g r h : Nat} {A : List (Nat × List Value × TypeId)} {Y Z Y' : List Kc}
theorem KB.le (q : KB w wr s g r h A Y Z) : w.heap.size ≤ wr.heap.size := q.b.size
theorem KB.below (q : KB w wr s g r h A Y Z) (f : Below wr.heap.size wr v1) : KB w v1 s g r h A Y Z :=
  ⟨q.c.below f, q.d.below f, q.b.trans (f.mono q.le), q.lo, q.ap, fun x hx => ⟨(f.block _ (q.a x hx).1.lt).trans (q.a x hx).1, (q.a x hx).2⟩⟩
theorem KB.sm (q : KB w wr s g r h A Y Z) (e : Sm v1 wr) : KB w v1 s g r h A Y Z := q.below (e.below (Below.refl _ _))
theorem KB.prog (q : KB w wr s g r h A Y Z) (c : CT v1 s g Y') (f : Fr wr.heap.size [g] wr v1) : KB w v1 s g r h A Y' Z :=
  ⟨c, q.d.keep f q.d.slt q.d.glt (by simp; exact fun e => q.ap.2.1 e.symm) (by simp; exact fun e => q.ap.2.2 e.symm), q.b.trans ((f.less q.le).below (fun k hk => by simp at hk; have := q.lo; omega)), q.lo, q.ap,
    fun x hx => ⟨(q.a x hx).1.keep f (q.a x hx).1.lt (by simp; exact (q.a x hx).2.1), (q.a x hx).2⟩⟩
theorem KB.doc (q : KB w wr s g r h A Y Z) (d : DT v1 r h Y') (f : Fr wr.heap.size [h] wr v1) : KB w v1 s g r h A Y Y' :=
  ⟨q.c.keep f q.c.sb.lt q.c.gb.lt (by simp; exact q.ap.1) (by simp; exact q.ap.2.2), d, q.b.trans ((f.less q.le).below (fun k hk => by simp at hk; have := q.lo; omega)), q.lo, q.ap,
    fun x hx => ⟨(q.a x hx).1.keep f (q.a x hx).1.lt (by simp; exact (q.a x hx).2.2), (q.a x hx).2⟩⟩
theorem KB.box (q : KB w wr s g r h A Y Z) (cs : List Value) (t : TypeId) : KB w (wr.alloc (.cells cs.toArray t)) s g r h ((wr.heap.size, cs, t) :: A) Y Z := by
  have q1 := q.below ((Below.refl wr.heap.size wr).alloc (Nat.le_refl _) (.cells cs.toArray t))
  refine ⟨q1.c, q1.d, q1.b, q.lo, q.ap, fun x hx => ?_⟩
  rcases List.mem_cons.1 hx with e | e
  · subst e
    exact ⟨Blk.new wr cs t, by have := q.c.gb.lt; show wr.heap.size ≠ g; omega, by have := q.d.glt; show wr.heap.size ≠ h; omega⟩
  · exact q1.a x e
theorem KB.drop {x : Nat × List Value × TypeId} (q : KB w wr s g r h (x :: A) Y Z) : KB w wr s g r h A Y Z := ⟨q.c, q.d, q.b, q.lo, q.ap, fun y hy => q.a y (by simp [hy])⟩
end
def acl (y0 y1 : Int) (y2 : Bool) (y3 y4 : Int) : List Value := [.int .i64 y0, .int .i64 y1, .bool y2, .int .i64 y3, .int .i64 y4]
theorem KB.act {w wr : World} {s g r h : Nat} {A : List (Nat × List Value × TypeId)} {Y Z : List Kc} {z : Nat} {y0 y1 y3 y4 : Int} {y2 : Bool} {t : TypeId} (q : KB w wr s g r h A Y Z) (m : (z, acl y0 y1 y2 y3 y4, t) ∈ A) :
    wr.cell? ⟨z, 0, none⟩ = some (.int .i64 y0) ∧ wr.cell? ⟨z, 1, none⟩ = some (.int .i64 y1) ∧ wr.cell? ⟨z, 2, none⟩ = some (.bool y2) ∧ wr.cell? ⟨z, 3, none⟩ = some (.int .i64 y3) ∧ wr.cell? ⟨z, 4, none⟩ = some (.int .i64 y4) :=
  ⟨(q.a _ m).1.cell 0, (q.a _ m).1.cell 1, (q.a _ m).1.cell 2, (q.a _ m).1.cell 3, (q.a _ m).1.cell 4⟩
end Go.Proofs.Ytddjkdcbbonjkaa
