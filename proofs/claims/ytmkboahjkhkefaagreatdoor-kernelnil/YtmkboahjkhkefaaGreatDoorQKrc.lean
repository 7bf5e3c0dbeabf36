/- Contracts of the program's layers, as far as this claim needs them. -/
import Derived.Test.YtmkboahjkhkefaaGreatDoorQKn
import Derived.Test.YtmkboahjkhkefaaGreatDoorRows
import Derived.WalkKit
import Derived.ProofKit
import Derived.OpenShut
import Derived.BigQuiet
import Derived.Deep.RegionHeld3
import Derived.Test.YtmkboahjkhkefaaGreatDoorQZk
set_option linter.unusedVariables false
set_option linter.unusedSimpArgs false
namespace Go.Proofs.YtmkboahjkhkefaaGreatDoor.Krn
open Go.ChangeShapes Go.WideShapes Go.ChangeAt Go.RowKit
open Mm
section
variable {B : Nat} {w0 : World} {A : List (Nat × List Value × TypeId)} {a : KA} {m m' : Nat} {S S' : KS} {w w' : World}
def rc (r : Rec) : List Value := [.int .i64 r.kind, .int .i64 r.cpu, .int .i64 r.id, .int .i64 r.n, .int .i64 r.why]
def Rr (X : List (Nat × List Value × TypeId)) (v : Value) (L : List Rec) : Prop :=
  (X = [] ∧ L = [] ∧ v = .slice none 0 0) ∨ ∃ b r, X = [(b, rc r, 37)] ∧ L = [r] ∧ v = .slice (some ⟨b, 0, none⟩) 1 1
theorem KX.recd (h : KX B w0 A a m S w) (r : Rec) : KX B w0 ([(w.heap.size, rc r, 37)] ++ A) a m S (w.alloc (.cells (rc r).toArray 37)) ∧ Rr [(w.heap.size, rc r, 37)] (.slice (some ⟨w.heap.size, 0, none⟩) 1 1) [r] :=
  ⟨h.new (rc r) 37, Or.inr ⟨_, r, rfl, rfl, rfl⟩⟩
end
end Go.Proofs.YtmkboahjkhkefaaGreatDoor.Krn
