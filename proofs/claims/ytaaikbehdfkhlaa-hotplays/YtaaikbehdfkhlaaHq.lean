/- Sets of whole numbers (map[int]struct{}), as what is in them. -/
import Derived.Test.YtaaikbehdfkhlaaRows
import Derived.Test.YtaaikbehdfkhlaaFg
import Derived.WalkKit
import Derived.ProofKit
import Derived.Maps.OwnSet
namespace Go.Proofs.Ytaaikbehdfkhlaa
open Go.ChangeShapes Go.WideShapes Go.ChangeAt Go.RowKit

theorem key3 : Maps.Keyed Try.prog 3 := Maps.int_keyed Try.underlying3
theorem zeroU (w : World) : (zeroValue 68).run Try.prog w = .ok (.agg #[]) w := by kernel_rfl

/-- The set at block b, of N entries at most, is f. -/
def MS (w : World) (b N : Nat) (f : Int → Bool) : Prop :=
  ∃ D : DataW Unit, w.ownsMap Try.prog 3 unitElem b N D ∧ ∀ id, (Lit.int .i64 id).wf = true → Maps.has D (.int .i64 id) = f id

section
variable {w w' : World} {b N : Nat} {f : Int → Bool}
theorem MS.lt (h : MS w b N f) : b < w.heap.size := by obtain ⟨D, o, _⟩ := h; exact o.lt
theorem MS.same (h : MS w b N f) (e : w'.heap[b]? = w.heap[b]?) : MS w' b N f := by
  obtain ⟨D, ⟨es, clock, hb, rest⟩, k⟩ := h
  exact ⟨D, ⟨es, clock, e.trans hb, rest⟩, k⟩
theorem MS.keep {B : Nat} {S : List Nat} (h : MS w b N f) (k : Fr B S w w') (hb : b < B) (hs : b ∉ S) : MS w' b N f := h.same (k.block b hb hs)
theorem MS.blk (h : MS w b N f) {g : Nat} {cs : List Value} {t : TypeId} (k : Blk w g cs t) : b ≠ g := by
  intro e
  subst e
  obtain ⟨D, ⟨es, clock, hb, _⟩, _⟩ := h
  have := (show w.heap[b]? = _ from k).symm.trans hb
  cases this
theorem ms_new (w : World) : MS (w.alloc (.map #[] 0)) w.heap.size 0 (fun _ => false) := ⟨_, World.ownsMap_made w Try.prog 3 _, fun _ _ => rfl⟩
theorem ms_look (h : MS w b N f) {id : Int} (hw : (Lit.int .i64 id).wf = true) :
    (Instr.lookup 41 (.map (some b)) (.int .i64 id) true).run Try.prog w = .ok (.tuple #[.agg #[], .bool (f id)]) w := by
  obtain ⟨D, o, k⟩ := h
  obtain ⟨v, ps, hrun, hv⟩ := o.look_ok key3 Try.underlying41 (zeroU w) unitElem_mk (Maps.keyOf_int_mk Try.underlying3 hw)
  obtain ⟨rfl, _⟩ := unitElem_inv hv
  rw [hrun, k id hw]
theorem ms_none (w : World) {id : Int} (hw : (Lit.int .i64 id).wf = true) :
    (Instr.lookup 41 (.map none) (.int .i64 id) true).run Try.prog w = .ok (.tuple #[.agg #[], .bool false]) w := by
  have := Maps.look_nil (w := w) true key3 Try.underlying41 (zeroU w) (Maps.keyOf_int_mk Try.underlying3 hw)
  simpa using this
/-- One is put in, that is there or not. -/
theorem ms_put (h : MS w b N f) (hn : N ≤ 100000) {id : Int} (hw : (Lit.int .i64 id).wf = true) :
    ∃ w', (Instr.mapUpdate 41 (.map (some b)) (.int .i64 id) (.agg #[])).run Try.prog w = .ok () w' ∧ MS w' b (N + 1) (fun j => decide (j = id) || f j) ∧ Fr w.heap.size [b] w w' := by
  obtain ⟨D, o, k⟩ := h
  obtain ⟨w', hrun, r1, r2⟩ := o.store key3 Try.underlying41 (by unfold maxLen; omega) (Maps.keyOf_int_mk Try.underlying3 hw) unitElem_mk
  refine ⟨w', hrun, ⟨_, r1, fun j hj => ?_⟩, ?_⟩
  · dsimp only
    by_cases e : j = id
    · subst e
      have kl : WideAt.IsKeyLit (Lit.int .i64 j) := trivial
      rw [Maps.has_put_same o.isMap kl _]
      simp
    · have ne : (Lit.int .i64 j) ≠ Lit.int .i64 id := fun q => e (by cases q; rfl)
      rw [Maps.has_put_other ne, k j hj]
      simp [e]
  · have g := r2.grown
    exact ⟨g.os, g.tape, g.output, g.size, fun k hk hs => g.block k hk (fun e => hs (by cases e; simp))⟩
/-- One is taken out. -/
theorem ms_del (h : MS w b N f) {id : Int} (hw : (Lit.int .i64 id).wf = true) (ty : TypeId) :
    ∃ w', (Builtin.delete_ #[41, 3] ty #[.map (some b), .int .i64 id]).run Try.prog w = .ok (.tuple #[]) w' ∧ MS w' b N (fun j => !decide (j = id) && f j) ∧ Fr w.heap.size [b] w w' := by
  obtain ⟨D, o, k⟩ := h
  obtain ⟨w', hrun, r1, r2⟩ := o.drop key3 Try.underlying41 (Maps.keyOf_int_mk Try.underlying3 hw) ty
  refine ⟨w', hrun, ⟨_, r1, fun j hj => ?_⟩, ?_⟩
  · dsimp only
    by_cases e : j = id
    · subst e
      rw [Maps.has_del_same]
      simp
    · have ne : (Lit.int .i64 j) ≠ Lit.int .i64 id := fun q => e (by cases q; rfl)
      rw [Maps.has_del_other ne, k j hj]
      simp [e]
  · have g := r2.grown
    exact ⟨g.os, g.tape, g.output, g.size, fun k hk hs => g.block k hk (fun e => hs (by cases e; simp))⟩
end
end Go.Proofs.Ytaaikbehdfkhlaa
