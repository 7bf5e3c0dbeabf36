/- Timers of three cores beside the list of those that were armed: what acts and appends leave of both. -/
import Derived.Test.YtadaghhgmflfdaaDoorRows
import Derived.Test.YtadaghhgmflfdaaDoorZv
import Derived.Test.YtadaghhgmflfdaaDoorZk
import Derived.WalkKit
import Derived.ProofKit
import Derived.OpenShut
import Derived.BigQuiet
namespace Go.Proofs.YtadaghhgmflfdaaDoor
open Go.ChangeShapes Go.WideShapes Go.ChangeAt Go.RowKit
open Wm Zm Sl

/-- Those that were armed, with their numbers. -/
def arl (A : List Int) : List It := (List.range A.length).map fun j => (A.getD j 0, ((j + 1 : Nat) : Int))
theorem arl_len (A : List Int) : (arl A).length = A.length := by unfold arl; simp
theorem arl_get (A : List Int) {j : Nat} (h : j < A.length) : (arl A).getD j (0, 0) = (A.getD j 0, ((j + 1 : Nat) : Int)) := by
  unfold arl
  rw [List.getD_eq_getElem?_getD, List.getElem?_map, List.getElem?_range h]
  rfl
theorem arl_app (A : List Int) (d : Int) : arl (A ++ [d]) = arl A ++ [(d, ((A.length + 1 : Nat) : Int))] := by
  unfold arl
  rw [List.length_append, List.length_singleton, List.range_succ, List.map_append]
  congr 1
  · apply List.map_congr_left
    intro j hj
    have := List.mem_range.1 hj
    rw [List.getD_eq_getElem?_getD, List.getElem?_append_left this, ← List.getD_eq_getElem?_getD]
  · simp

structure OT (w wr : World) (t : Nat) (now : Int) (K : Ks) (F : List Nat) (v : Value) (A : List Int) : Prop where
  tx : TX wr t 3 now K F
  lo : ∀ g ∈ F, w.heap.size ≤ g
  bel : Below w.heap.size w wr
  own : wr.ownsRow 0 32 5 v A.length (f5 (arl A))
  ob : ∀ g, v.ownBlock = some g → w.heap.size ≤ g ∧ g ∉ F

theorem OT.act {w wr w' : World} {t : Nat} {now now' : Int} {K K' : Ks} {F F' : List Nat} {v : Value} {A : List Int} (h : OT w wr t now K F v A) (q : TX w' t 3 now' K' F') (m : Mv wr w' F F') : OT w w' t now' K' F' v A := by
  obtain ⟨b, l, _⟩ := mv_below h.bel m h.bel.size h.lo
  refine ⟨q, l, b, owng_keep h.own m.fr fun g e => ⟨owng_lt h.own e, (h.ob g e).2⟩, fun g e => ⟨(h.ob g e).1, fun hm => ?_⟩⟩
  rcases m.sub g hm with r | r
  · exact (h.ob g e).2 r
  · have := owng_lt h.own e; omega
theorem OT.below {w wr w' : World} {t : Nat} {now : Int} {K : Ks} {F : List Nat} {v : Value} {A : List Int} (h : OT w wr t now K F v A) (f : Below wr.heap.size wr w') : OT w w' t now K F v A := h.act (h.tx.below f) (Mv.below f F)
theorem OT.sm {w wr w' : World} {t : Nat} {now : Int} {K : Ks} {F : List Nat} {v : Value} {A : List Int} (h : OT w wr t now K F v A) (e : Sm w' wr) : OT w w' t now K F v A := h.below (e.below (Below.refl _ _))

set_option maxRecDepth 100000 in
theorem OT.app {w wr : World} {t : Nat} {now : Int} {K : Ks} {F : List Nat} {v : Value} {A : List Int} (h : OT w wr t now K F v A) (hA : A.length < 48) (d : Int) (ty : TypeId) :
    ∃ a' cap' w2, (Builtin.append_ #[22, 22] ty #[v, .slice (some ⟨wr.heap.size, 0, none⟩) 1 1]).run Tryd.prog (wr.alloc (.cells #[.int .i64 0, .int .i64 0, .int .i64 0, .int .i64 ((A.length + 1 : Nat) : Int), .int .i64 d] 32)) = .ok (.slice a' (A.length + 1) cap') w2 ∧ OT w w2 t now K F (.slice a' (A.length + 1) cap') (A ++ [d]) := by
  obtain ⟨i0, hi, hz0, hz1, hz2⟩ := info_parts Tryd.infoAct
  have nb : Blk (wr.alloc (.cells #[.int .i64 0, .int .i64 0, .int .i64 0, .int .i64 ((A.length + 1 : Nat) : Int), .int .i64 d] 32)) wr.heap.size (c5 (d, ((A.length + 1 : Nat) : Int))) 32 := Blk.new wr _ _
  have h2 := h.below ((Below.refl _ wr).alloc (Nat.le_refl _) (.cells #[.int .i64 0, .int .i64 0, .int .i64 0, .int .i64 ((A.length + 1 : Nat) : Int), .int .i64 d] 32))
  generalize wr.alloc (.cells #[.int .i64 0, .int .i64 0, .int .i64 0, .int .i64 ((A.length + 1 : Nat) : Int), .int .i64 d] 32) = wa at *
  obtain ⟨v', w2, hrun, o2, g2, hv⟩ := run_appg (P := Tryd.prog) wa 22 ty 32 i0 _ 5 40 Tryd.underlying22 hi hz0 hz1 hz2 rfl (by decide) (by decide) h2.own ⟨wr.heap.size, 0, none⟩ 1 1 (c5 (d, ((A.length + 1 : Nat) : Int))) rfl (fun j u hj => by
    rw [Addr.add_lit, Nat.zero_add, nb.cell]
    exact hj) (fun u hu => by simp [c5] at hu; rcases hu with rfl | rfl | rfl <;> rfl) (by omega)
  have Fv : Fr wa.heap.size v.ownBlock.toList wa w2 := (Fr.refl _ _ _).grown g2 (Nat.le_refl _) (fun j e => Or.inr (by simp [e]))
  obtain ⟨a', cap', rfl⟩ := owng_shape o2
  have hz := h2.bel.size
  refine ⟨a', cap', w2, hrun, h2.tx.keep Fv (Nat.le_refl _) fun g hg hg2 => (h2.ob g (by simpa using hg2)).2 hg, h2.lo, fr_own h2.bel Fv hz fun g hg => (h2.ob g (by simpa using hg)).1, ?_, fun g e => ?_⟩
  · rw [arl_app, f5_app, List.length_append, List.length_singleton]
    simpa [f5] using o2
  · rcases hv g e with q | q
    · exact h2.ob g q
    · exact ⟨by omega, fun hm => by have := h2.tx.lt hm; omega⟩
end Go.Proofs.YtadaghhgmflfdaaDoor
