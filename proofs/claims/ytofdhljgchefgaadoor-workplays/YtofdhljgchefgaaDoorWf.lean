/- Maps from whole numbers to whole numbers, as tables of what is in them, with how many there are. -/
import Derived.Test.YtofdhljgchefgaaDoorRows
import Derived.Test.YtofdhljgchefgaaDoorFg
import Derived.WalkKit
import Derived.ProofKit
import Derived.Maps.OwnSet
namespace Go.Proofs.YtofdhljgchefgaaDoor
open Go.ChangeShapes Go.WideShapes Go.ChangeAt Go.RowKit

theorem key3 : Maps.Keyed Tryd.prog 3 := Maps.int_keyed Tryd.underlying3

/-- The map at block b, of m entries with elements of type te, is f. -/
def MQ (te : TypeId) (w : World) (b m : Nat) (f : Int → Option Int) : Prop :=
  ∃ D : DataW Unit, w.ownsMap Tryd.prog 3 (plainElem Tryd.prog te) b m D ∧ Maps.size D = m ∧ ∀ id, (Lit.int .i64 id).wf = true → Maps.has D (.int .i64 id) = (f id).isSome ∧ D.atKey (.int .i64 id) (.lit (.int .i64 0)) = .lit (.int .i64 ((f id).getD 0))

theorem MQ.lt {te : TypeId} {w : World} {b m : Nat} {f : Int → Option Int} (h : MQ te w b m f) : b < w.heap.size := by obtain ⟨D, o, _⟩ := h; exact o.lt
theorem MQ.same {te : TypeId} {w w' : World} {b m : Nat} {f : Int → Option Int} (h : MQ te w b m f) (e : w'.heap[b]? = w.heap[b]?) : MQ te w' b m f := by
  obtain ⟨D, ⟨es, clock, hb, rest⟩, k⟩ := h
  exact ⟨D, ⟨es, clock, e.trans hb, rest⟩, k⟩
theorem MQ.keep {te : TypeId} {B : Nat} {S : List Nat} {w w' : World} {b m : Nat} {f : Int → Option Int} (h : MQ te w b m f) (k : Fr B S w w') (hb : b < B) (hs : b ∉ S) : MQ te w' b m f := h.same (k.block b hb hs)
theorem MQ.blk {te : TypeId} {w : World} {b m : Nat} {f : Int → Option Int} (h : MQ te w b m f) {g : Nat} {cs : List Value} {t : TypeId} (k : Blk w g cs t) : b ≠ g := by
  intro e
  subst e
  obtain ⟨D, ⟨es, clock, hb, _⟩, _⟩ := h
  have := (show w.heap[b]? = _ from k).symm.trans hb
  cases this
theorem MQ.congr {te : TypeId} {w : World} {b m : Nat} {f g : Int → Option Int} (h : MQ te w b m f) (e : ∀ i, g i = f i) : MQ te w b m g := by
  have : g = f := funext e
  rw [this]
  exact h

theorem mq_tight {te : TypeId} {w : World} {b n : Nat} {D : DataW Unit} (h : w.ownsMap Tryd.prog 3 (plainElem Tryd.prog te) b n D) : w.ownsMap Tryd.prog 3 (plainElem Tryd.prog te) b (Maps.size D) D := by
  obtain ⟨es, clock, hb, F, _, rfl⟩ := h
  refine ⟨es, clock, hb, F, ?_, rfl⟩
  rw [Maps.size_eq, length_read]
  exact Nat.le_refl _

theorem mq_new {te : TypeId} (w : World) : MQ te (w.alloc (.map #[] 0)) w.heap.size 0 (fun _ => none) :=
  ⟨_, World.ownsMap_made w Tryd.prog 3 _, rfl, fun _ _ => ⟨rfl, rfl⟩⟩

section
variable {te tm : TypeId}
theorem mq_look (he : Tryd.prog.underlying te = some (.int .i64)) (hm : Tryd.prog.underlying tm = some (.map 3 te)) (hz : ∀ w, (zeroValue te).run Tryd.prog w = .ok (.int .i64 0) w) {w : World} {b m : Nat} {f : Int → Option Int} (h : MQ te w b m f) {id : Int} (hw : (Lit.int .i64 id).wf = true) :
    (Instr.lookup tm (.map (some b)) (.int .i64 id) true).run Tryd.prog w = .ok (.tuple #[.int .i64 ((f id).getD 0), .bool (f id).isSome]) w := by
  obtain ⟨D, o, _, k⟩ := h
  obtain ⟨v, ps, hrun, hv⟩ := o.look_ok key3 hm (hz w) (plainElem_int he (by decide)) (Maps.keyOf_int_mk Tryd.underlying3 hw)
  obtain ⟨k1, k2⟩ := k id hw
  rw [k2] at hv
  obtain ⟨c, rfl, hc, _⟩ := plainElem_int_inv he hv
  have e := congrArg Prod.fst hc
  simp only [DataW.lit.injEq, Lit.int.injEq, true_and] at e
  rw [hrun, k1, e]
theorem mq_none (hm : Tryd.prog.underlying tm = some (.map 3 te)) (hz : ∀ w, (zeroValue te).run Tryd.prog w = .ok (.int .i64 0) w) (w : World) {id : Int} (hw : (Lit.int .i64 id).wf = true) :
    (Instr.lookup tm (.map none) (.int .i64 id) true).run Tryd.prog w = .ok (.tuple #[.int .i64 0, .bool false]) w := by
  have := Maps.look_nil (w := w) true key3 hm (hz w) (Maps.keyOf_int_mk Tryd.underlying3 hw)
  simpa using this
theorem mq_len (hm : Tryd.prog.underlying tm = some (.map 3 te)) {w : World} {b m : Nat} {f : Int → Option Int} (h : MQ te w b m f) (ty : TypeId) : (Builtin.len_ #[tm] ty #[.map (some b)]).run Tryd.prog w = .ok (.int .i64 (m : Nat)) w := by
  obtain ⟨D, o, e, k⟩ := h
  rw [o.len hm ty, e]
/-- One is put in, that is there or not. -/
theorem mq_put (he : Tryd.prog.underlying te = some (.int .i64)) (hm : Tryd.prog.underlying tm = some (.map 3 te)) {w : World} {b m : Nat} {f : Int → Option Int} (h : MQ te w b m f) (hn : m ≤ 100000) {id : Int} (hw : (Lit.int .i64 id).wf = true) {c : Int} (hc : (Lit.int .i64 c).wf = true) :
    ∃ w', (Instr.mapUpdate tm (.map (some b)) (.int .i64 id) (.int .i64 c)).run Tryd.prog w = .ok () w' ∧ MQ te w' b (if (f id).isSome = true then m else m + 1) (fun j => if j = id then some c else f j) ∧ Fr w.heap.size [b] w w' := by
  obtain ⟨D, o, s, k⟩ := h
  obtain ⟨w', hrun, r1, r2⟩ := o.store key3 hm (by unfold maxLen; omega) (Maps.keyOf_int_mk Tryd.underlying3 hw) (plainElem_int he hc)
  have sz : Maps.size (D.put (.int .i64 id) (.lit (.int .i64 c))) = if (f id).isSome = true then m else m + 1 := by
    rw [Maps.size_put (o.tidy key3), (k id hw).1, s]
  refine ⟨w', hrun, ⟨_, sz ▸ mq_tight r1, sz, fun j hj => ?_⟩, ?_⟩
  · dsimp only
    by_cases e : j = id
    · subst e
      rw [if_pos rfl]
      have kl : WideAt.IsKeyLit (Lit.int .i64 j) := trivial
      exact ⟨Maps.has_put_same o.isMap kl _, Maps.atKey_put_same o.isMap kl _ _⟩
    · rw [if_neg e]
      have ne : (Lit.int .i64 j) ≠ Lit.int .i64 id := fun q => e (by cases q; rfl)
      rw [Maps.has_put_other ne, Maps.atKey_put_other ne]
      exact k j hj
  · have g := r2.grown
    exact ⟨g.os, g.tape, g.output, g.size, fun k hk hs => g.block k hk (fun e => hs (by cases e; simp))⟩
/-- One is taken out. -/
theorem mq_del (hm : Tryd.prog.underlying tm = some (.map 3 te)) {w : World} {b m : Nat} {f : Int → Option Int} (h : MQ te w b m f) {id : Int} (hw : (Lit.int .i64 id).wf = true) (hi : (f id).isSome = true) (ty : TypeId) :
    ∃ w', (Builtin.delete_ #[tm, 3] ty #[.map (some b), .int .i64 id]).run Tryd.prog w = .ok (.tuple #[]) w' ∧ MQ te w' b (m - 1) (fun j => if j = id then none else f j) ∧ Fr w.heap.size [b] w w' := by
  obtain ⟨D, o, s, k⟩ := h
  obtain ⟨w', hrun, r1, r2⟩ := o.drop key3 hm (Maps.keyOf_int_mk Tryd.underlying3 hw) ty
  have sz : Maps.size (D.del (.int .i64 id)) = m - 1 := by
    have := Maps.size_del (k := .int .i64 id) (o.tidy key3)
    rw [(k id hw).1, hi, s] at this
    simp at this
    omega
  refine ⟨w', hrun, ⟨_, sz ▸ mq_tight r1, sz, fun j hj => ?_⟩, ?_⟩
  · dsimp only
    by_cases e : j = id
    · subst e
      rw [if_pos rfl]
      exact ⟨Maps.has_del_same, Maps.atKey_del_same _⟩
    · rw [if_neg e]
      have ne : (Lit.int .i64 j) ≠ Lit.int .i64 id := fun q => e (by cases q; rfl)
      rw [Maps.has_del_other ne, Maps.atKey_del_other ne]
      exact k j hj
  · have g := r2.grown
    exact ⟨g.os, g.tape, g.output, g.size, fun k hk hs => g.block k hk (fun e => hs (by cases e; simp))⟩
end
end Go.Proofs.YtofdhljgchefgaaDoor
