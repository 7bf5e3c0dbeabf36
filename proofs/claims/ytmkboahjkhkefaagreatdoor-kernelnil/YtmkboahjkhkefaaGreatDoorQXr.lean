/- Contracts of the program's layers, as far as this claim needs them. -/
import Derived.Test.YtmkboahjkhkefaaGreatDoorRows
import Derived.Test.YtmkboahjkhkefaaGreatDoorQXq
import Derived.Test.YtmkboahjkhkefaaGreatDoorQXb
import Derived.WalkKit
import Derived.ProofKit
import Derived.OpenShut
import Derived.Laws.Bits64b
import Derived.Laws.BitsAllLaws
import Derived.BigQuiet
set_option linter.unusedVariables false
set_option linter.unusedSimpArgs false
namespace Go.Proofs.YtmkboahjkhkefaaGreatDoor.Rqb
open Fif Rqu
open Go.ChangeShapes Go.WideShapes Go.ChangeAt Go.RowKit
open Mm
def KK (p : Nat → Bool) (k : Nat) : List Int := ((List.range k).filter p).map fun i : Nat => (i : Int)
end Go.Proofs.YtmkboahjkhkefaaGreatDoor.Rqb
namespace Go.Proofs.YtmkboahjkhkefaaGreatDoor.Rqb
open Fif Rqu
open Fm Qm
section
variable (f : Int → Int) (bt : Int → Int → Bool)
def bs (L : List Int) : Int := L.foldl (fun a c => if a < 0 ∨ bt (f c) (f a) = true then c else a) (-1)
end
def bc (m n : Nat) : List Int := KK (fun i => m.testBit i) n
def bsN (f : Int → Int) (bt : Int → Int → Bool) (L : List Int) : Int := if L = [] then 0 else bs f bt L
def bsE (L : List Int) : Int := if L = [] then 12 else 0
end Go.Proofs.YtmkboahjkhkefaaGreatDoor.Rqb
namespace Go.Proofs.YtmkboahjkhkefaaGreatDoor.Rqb
open Fif Rqu
open Go.ChangeShapes Go.WideShapes Go.ChangeAt Go.RowKit
open Fm Qm
def btG (x y : Int) : Bool := decide (y < x)
def btL (x y : Int) : Bool := decide (x < y)
end Go.Proofs.YtmkboahjkhkefaaGreatDoor.Rqb
