/- The texts Vk Vm Vf of one layer, laid together. -/
import Derived.Test.YtfipiifickdeiaaGreatDoorRows
import Derived.Test.YtfipiifickdeiaaGreatDoorXq
import Derived.Test.YtfipiifickdeiaaGreatDoorXb
import Derived.WalkKit
import Derived.ProofKit
import Derived.OpenShut
import Derived.Laws.Bits64b
import Derived.Laws.BitsAllLaws
import Derived.BigQuiet
namespace Go.Proofs.YtfipiifickdeiaaGreatDoor.Rqb
open Fif Rqu
open Go.ChangeShapes Go.WideShapes Go.ChangeAt Go.RowKit
open Mm
def KK (p : Nat → Bool) (k : Nat) : List Int := ((List.range k).filter p).map fun i : Nat => (i : Int)
theorem KK_le (p : Nat → Bool) (k : Nat) : (KK p k).length ≤ k := by
  unfold KK
  rw [List.length_map]
  have := List.length_filter_le p (List.range k)
  simpa using this
theorem KK_hit (p : Nat → Bool) (k : Nat) (h : p k = true) : KK p (k + 1) = KK p k ++ [(k : Int)] := by
  unfold KK
  rw [List.range_succ, List.filter_append, List.map_append]
  simp [h]
theorem KK_miss (p : Nat → Bool) (k : Nat) (h : p k = false) : KK p (k + 1) = KK p k := by
  unfold KK
  rw [List.range_succ, List.filter_append, List.map_append]
  simp [h]
/-- What has been gathered so far: v owns it; nothing that was there has turned. -/
structure Gat (w wr : World) (v : Value) (p : Nat → Bool) (k : Nat) : Prop where
  own : wr.ownsRow w.heap.size 3 1 v (KK p k).length ((KK p k).map (Value.int .i64))
  bel : Below w.heap.size w wr
theorem gat_start (w : World) (p : Nat → Bool) : Gat w w (.slice none 0 0) p 0 := ⟨World.ownsRow_nil _ _ _ _, Below.refl _ _⟩
theorem gat_drop {w wr : World} {v : Value} {p : Nat → Bool} {k : Nat} (g : Gat w wr v p k) (h : p k = false) : Gat w wr v p (k + 1) := by
  refine ⟨?_, g.bel⟩
  rw [KK_miss p k h]
  exact g.own
theorem gat_keep {w wr w1 : World} {v v' : Value} {p : Nat → Bool} {k : Nat} {o : Obj} (g : Gat w wr v p k) (h : p k = true)
    (hown' : w1.ownsRow w.heap.size 3 1 v' ((KK p k).length + 1) ((KK p k).map (Value.int .i64) ++ [.int .i64 (k : Int)])) (hgrow : (wr.alloc o).grownBy w1 v.ownBlock) : Gat w w1 v' p (k + 1) := by
  have hs := g.bel.size
  refine ⟨?_, (g.bel.alloc hs o).grown hgrow (by simp; omega) (fun j hj => (g.own.lt j hj).1)⟩
  rw [KK_hit p k h]
  simpa using hown'
/-- All cores of a mask, rising, as integers. -/
def li (m : Nat) : List Int := KK (fun i => m.testBit i) 64
end Go.Proofs.YtfipiifickdeiaaGreatDoor.Rqb
namespace Go.Proofs.YtfipiifickdeiaaGreatDoor.Rqb
open Fif Rqu
open Fm Qm
section
variable (f : Int → Int) (bt : Int → Int → Bool)
/-- The best of a list so far; -1: none yet. -/
def bs (L : List Int) : Int := L.foldl (fun a c => if a < 0 ∨ bt (f c) (f a) = true then c else a) (-1)
end
/-- The cores of a mask among the first n. -/
def bc (m n : Nat) : List Int := KK (fun i => m.testBit i) n
def bsN (f : Int → Int) (bt : Int → Int → Bool) (L : List Int) : Int := if L = [] then 0 else bs f bt L
def bsE (L : List Int) : Int := if L = [] then 12 else 0
end Go.Proofs.YtfipiifickdeiaaGreatDoor.Rqb
namespace Go.Proofs.YtfipiifickdeiaaGreatDoor.Rqb
open Fif Rqu
open Go.ChangeShapes Go.WideShapes Go.ChangeAt Go.RowKit
open Fm Qm
def btG (x y : Int) : Bool := decide (y < x)
def btL (x y : Int) : Bool := decide (x < y)
end Go.Proofs.YtfipiifickdeiaaGreatDoor.Rqb
