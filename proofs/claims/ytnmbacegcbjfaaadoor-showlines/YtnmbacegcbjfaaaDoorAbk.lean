/- What ranges over functions leave as it was. -/
import Derived.Test.YtnmbacegcbjfaaaDoorRfc
import Derived.Test.YtnmbacegcbjfaaaDoorWd0
import Derived.WalkKit
import Derived.ProofKit
import Derived.OpenShut
import Derived.BigQuiet
import Derived.WalkSmall
import Derived.WalkSpells
namespace Go.Proofs.YtnmbacegcbjfaaaDoor
open Go.ChangeShapes Go.WideShapes Go.ChangeAt Go.RowKit
open Wd
set_option linter.unusedVariables false
set_option linter.unusedSimpArgs false
set_option maxRecDepth 100000

/-- 'Below N of w' abides what a range over a function does to its own blocks. -/
theorem abd_below {N B : Nat} {w : World} (h : N ≤ w.heap.size) (hB : N ≤ B) : Abd B fun W => Below N w W :=
  ⟨fun W o x => x.alloc (Nat.le_trans h x.size) o, fun W l o o' hl _ _ x => ⟨x.os, x.tape, x.output, by simpa using x.size, fun k hk => (World.putObj_heap_other (by omega)).trans (x.block k hk)⟩⟩
theorem abd_blk (B b : Nat) (cs : List Value) (t : TypeId) : Abd B fun W => Blk W b cs t :=
  ⟨fun W o h => h.alloc o, fun W l o o' _ ho hc h => by
    by_cases e : b = l
    · subst e
      rw [show W.heap[b]? = _ from h] at ho
      cases ho
      cases hc
    · exact (World.putObj_heap_other e).trans h⟩
theorem blk_put {W : World} {b l : Nat} {cs : List Value} {t : TypeId} (h : Blk W b cs t) {ds : List Deferred} (hk : W.heap[l]? = some (.deferred (some ds))) (o : Obj) : Blk (W.putObj l o) b cs t :=
  (abd_blk l b cs t).turn W l _ o (Nat.le_refl _) hk rfl h
theorem tw_set {B : Nat} {W W' : World} (h : Tw2 B W W') {p : Addr} (hp : p.block < B) (v : Value) : Tw2 B W (W'.setCell p v) :=
  ⟨(Below.heap_setCell _ _ _ _ (by omega)).trans h.1, (Below.heap_setCell _ _ _ _ (by omega)).trans h.2⟩
theorem tw_below {B : Nat} {W W' : World} (h : Below W.heap.size W W') (hB : B + 1 < W.heap.size) : Tw2 B W W' := ⟨h.block B (by omega), h.block (B + 1) hB⟩
theorem set2_keep {W : World} {D : Nat} {p q : Addr} {u0 u1 : Value} {o : Obj} (hK : W.heap[D]? = some o) (hp : p.block ≠ D) (hq : q.block ≠ D) : ((W.setCell p u0).setCell q u1).heap[D]? = some o :=
  (Below.heap_setCell _ _ _ _ (Ne.symm hq)).trans ((Below.heap_setCell _ _ _ _ (Ne.symm hp)).trans hK)
end Go.Proofs.YtnmbacegcbjfaaaDoor
