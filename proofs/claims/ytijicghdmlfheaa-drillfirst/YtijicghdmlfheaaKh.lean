/- Lists that a loop gathers by append: the cores that a test keeps. -/
import Derived.Test.YtijicghdmlfheaaRows
import Derived.Test.YtijicghdmlfheaaMw
import Derived.Test.YtijicghdmlfheaaFj
import Derived.Test.YtijicghdmlfheaaFg
import Derived.WalkKit
import Derived.ProofKit
import Derived.OpenShut
import Derived.BigQuiet
import Derived.Laws.Bits64b
import Derived.Laws.BitsAllLaws
namespace Go.Proofs.Ytijicghdmlfheaa
open Go.ChangeShapes Go.WideShapes Go.ChangeAt Go.RowKit
open Mm

def KK (p : Nat → Bool) (k : Nat) : List Int := ((List.range k).filter p).map fun i : Nat => (i : Int)

theorem KK_le (p : Nat → Bool) (k : Nat) : (KK p k).length ≤ k := by
  unfold KK
  rw [List.length_map]
  have := List.length_filter_le p (List.range k)
  simpa using this

theorem KK_hit (p : Nat → Bool) (k : Nat) (h : p k = true) : KK p (k + 1) = KK p k ++ [(k : Int)] := by
  unfold KK
  rw [List.range_succ, List.filter_append, List.map_append]
  simp [h]

theorem KK_miss (p : Nat → Bool) (k : Nat) (h : p k = false) : KK p (k + 1) = KK p k := by
  unfold KK
  rw [List.range_succ, List.filter_append, List.map_append]
  simp [h]

/-- What has been gathered so far: v owns it; nothing that was there has turned. -/
structure Gat (w wr : World) (v : Value) (p : Nat → Bool) (k : Nat) : Prop where
  own : wr.ownsRow w.heap.size 3 1 v (KK p k).length ((KK p k).map (Value.int .i64))
  bel : Below w.heap.size w wr

theorem gat_start (w : World) (p : Nat → Bool) : Gat w w (.slice none 0 0) p 0 := ⟨World.ownsRow_nil _ _ _ _, Below.refl _ _⟩

theorem gat_drop {w wr : World} {v : Value} {p : Nat → Bool} {k : Nat} (g : Gat w wr v p k) (h : p k = false) : Gat w wr v p (k + 1) := by
  refine ⟨?_, g.bel⟩
  rw [KK_miss p k h]
  exact g.own

theorem gat_keep {w wr w1 : World} {v v' : Value} {p : Nat → Bool} {k : Nat} {o : Obj} (g : Gat w wr v p k) (h : p k = true)
    (hown' : w1.ownsRow w.heap.size 3 1 v' ((KK p k).length + 1) ((KK p k).map (Value.int .i64) ++ [.int .i64 (k : Int)])) (hgrow : (wr.alloc o).grownBy w1 v.ownBlock) : Gat w w1 v' p (k + 1) := by
  have hs := g.bel.size
  refine ⟨?_, (g.bel.alloc hs o).grown hgrow (by simp; omega) (fun j hj => (g.own.lt j hj).1)⟩
  rw [KK_hit p k h]
  simpa using hown'

theorem gat_row {w wr : World} {v : Value} {p : Nat → Bool} {k : Nat} (g : Gat w wr v p k) : Row wr v (KK p k) := row_of_owns g.own

theorem tb_bit (m k : Nat) (h : (k : Int) < 64) : tb m (k : Int) = m.testBit k := tb_nat m k (by omega)

end Go.Proofs.Ytijicghdmlfheaa
