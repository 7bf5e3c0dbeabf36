/- A core and its flags that a law of layer 27 was handed, in the two blocks that hold them. -/
import Derived.Test.YtddjkdcbbonjkaaRows
import Derived.Test.YtddjkdcbbonjkaaCoK
import Derived.Test.YtddjkdcbbonjkaaCoE
import Derived.Test.YtddjkdcbbonjkaaFt
namespace Go.Proofs.Ytddjkdcbbonjkaa
open Go.ChangeShapes Go.WideShapes Go.ChangeAt Go.RowKit
open Co

structure TwoB (w : World) (z : Nat) (x : Kc) (f : Fl) (u : World) : Prop where
  k : Blk u z (ck.f x) 23
  l : Blk u (z + 1) (fl9 f) 25
  b : Below z w u

section
variable {w u v u' : World} {z : Nat} {x : Kc} {f : Fl}
theorem TwoB.go (h : TwoB w z x f u) (b : Below v.heap.size v u') (s : Sm v u) : TwoB w z x f u' := by
  have c : Below u.heap.size u u' := by
    have := s.from b
    rwa [s.1] at this
  exact ⟨(c.block _ h.k.lt).trans h.k, (c.block _ h.l.lt).trans h.l, h.b.trans (c.mono (Nat.le_of_lt h.k.lt))⟩
theorem TwoB.start (w : World) (x : Kc) (f : Fl) : TwoB w w.heap.size x f ((w.alloc (.cells (ck.f x).toArray 23)).alloc (.cells (fl9 f).toArray 25)) := by
  refine ⟨(Blk.new w (ck.f x) _).alloc _, ?_, ((Below.refl w.heap.size w).alloc (Nat.le_refl _) _).alloc (by simp) _⟩
  have := Blk.new (w.alloc (.cells (ck.f x).toArray 23)) (fl9 f) 25
  rw [show (w.alloc (.cells (ck.f x).toArray 23)).heap.size = w.heap.size + 1 by simp] at this
  exact this
theorem TwoB.cs (h : TwoB w z x f u) : u.cell? ⟨z, 0, none⟩ = some (.bool x.p) ∧ u.cell? ⟨z, 1, none⟩ = some (.bool x.i) ∧ u.cell? ⟨z, 2, none⟩ = some (.int .i64 x.way) ∧ u.cell? ⟨z, 3, none⟩ = some (.int .i64 x.since) ∧ u.cell? ⟨z, 4, none⟩ = some (.int .i64 x.steps) ∧ u.cell? ⟨z, 5, none⟩ = some (.int .i64 x.busy) ∧ u.cell? ⟨z + 1, 0, none⟩ = some (.bool f.stop) ∧ u.cell? ⟨z + 1, 1, none⟩ = some (.bool f.held) ∧ u.cell? ⟨z + 1, 2, none⟩ = some (.bool f.hot) ∧ u.cell? ⟨z + 1, 3, none⟩ = some (.bool f.act) ∧ u.cell? ⟨z + 1, 4, none⟩ = some (.bool f.call) ∧ u.cell? ⟨z + 1, 5, none⟩ = some (.bool f.irq) ∧ u.cell? ⟨z + 1, 6, none⟩ = some (.bool f.timer) ∧ u.cell? ⟨z + 1, 7, none⟩ = some (.bool f.work) ∧ u.cell? ⟨z + 1, 8, none⟩ = some (.bool f.thr) := ⟨h.k.cell 0, h.k.cell 1, h.k.cell 2, h.k.cell 3, h.k.cell 4, h.k.cell 5, h.l.cell 0, h.l.cell 1, h.l.cell 2, h.l.cell 3, h.l.cell 4, h.l.cell 5, h.l.cell 6, h.l.cell 7, h.l.cell 8⟩
end
end Go.Proofs.Ytddjkdcbbonjkaa
