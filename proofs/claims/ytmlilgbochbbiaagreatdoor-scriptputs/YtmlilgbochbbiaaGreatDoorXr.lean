/- The texts Vk Vm Vf of one layer, laid together. -/
import Derived.Test.YtmlilgbochbbiaaGreatDoorRows
import Derived.Test.YtmlilgbochbbiaaGreatDoorXq
import Derived.Test.YtmlilgbochbbiaaGreatDoorXb
import Derived.WalkKit
import Derived.ProofKit
import Derived.OpenShut
import Derived.Laws.Bits64b
import Derived.Laws.BitsAllLaws
import Derived.BigQuiet
namespace Go.Proofs.YtmlilgbochbbiaaGreatDoor.Rqb
open Fif Rqu
open Go.ChangeShapes Go.WideShapes Go.ChangeAt Go.RowKit
open Mm
def KK (p : Nat → Bool) (k : Nat) : List Int := ((List.range k).filter p).map fun i : Nat => (i : Int)
/-- What has been gathered so far: v owns it; nothing that was there has turned. -/
structure Gat (w wr : World) (v : Value) (p : Nat → Bool) (k : Nat) : Prop where
  own : wr.ownsRow w.heap.size 3 1 v (KK p k).length ((KK p k).map (Value.int .i64))
  bel : Below w.heap.size w wr
/-- All cores of a mask, rising, as integers. -/
def li (m : Nat) : List Int := KK (fun i => m.testBit i) 64
end Go.Proofs.YtmlilgbochbbiaaGreatDoor.Rqb
namespace Go.Proofs.YtmlilgbochbbiaaGreatDoor.Rqb
open Fif Rqu
open Fm Qm
section
variable (f : Int → Int) (bt : Int → Int → Bool)
/-- The best of a list so far; -1: none yet. -/
def bs (L : List Int) : Int := L.foldl (fun a c => if a < 0 ∨ bt (f c) (f a) = true then c else a) (-1)
end
/-- The cores of a mask among the first n. -/
def bc (m n : Nat) : List Int := KK (fun i => m.testBit i) n
def bsN (f : Int → Int) (bt : Int → Int → Bool) (L : List Int) : Int := if L = [] then 0 else bs f bt L
def bsE (L : List Int) : Int := if L = [] then 12 else 0
end Go.Proofs.YtmlilgbochbbiaaGreatDoor.Rqb
namespace Go.Proofs.YtmlilgbochbbiaaGreatDoor.Rqb
open Fif Rqu
open Go.ChangeShapes Go.WideShapes Go.ChangeAt Go.RowKit
open Fm Qm
def btG (x y : Int) : Bool := decide (y < x)
def btL (x y : Int) : Bool := decide (x < y)
end Go.Proofs.YtmlilgbochbbiaaGreatDoor.Rqb
