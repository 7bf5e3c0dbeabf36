/- The texts Il Ii of one layer, laid together. -/
import Derived.Test.YtfdmcbcomknebaaGreatDoorRows
import Derived.Test.YtfdmcbcomknebaaGreatDoorXa
import Derived.WalkKit
import Derived.ProofKit
import Derived.OpenShut
import Derived.BigQuiet
import Derived.Deep.RegionHeld3
namespace Go.Proofs.YtfdmcbcomknebaaGreatDoor.Idl
open Go.ChangeShapes Go.WideShapes Go.ChangeAt Go.RowKit
structure Wy where
  ex : Int
  le : Int
  pw : Int
def wz : Wy := ⟨0, 0, 0⟩
/-- A call answers whether something is so. -/
def Says (P : Prop) (e : Ending) : Prop := ∃ b, e = .returned (.bool b) ∧ (b = true ↔ P)
theorem Says.no {P : Prop} (h : ¬ P) : Says P (.returned (.bool false)) := ⟨false, rfl, by simp [h]⟩
/-- A way for so long a rest that wakes within the limit. -/
def Okw (Y : List Wy) (r l : Int) (j : Nat) : Prop := (Y.getD j wz).ex ≤ l ∧ (Y.getD j wz).le ≤ r
/-- Of the first n ways the one that is chosen. -/
def Cho (Y : List Wy) (r l : Int) (n c : Nat) : Prop := (c = 0 ∧ ∀ j, 1 ≤ j → j < n → ¬ Okw Y r l j) ∨ (1 ≤ c ∧ c < n ∧ Okw Y r l c ∧ ∀ j, c < j → j < n → ¬ Okw Y r l j)
theorem Cho.one {Y : List Wy} {r l : Int} {n c d : Nat} (h : Cho Y r l n c) (k : Cho Y r l n d) : c = d := by
  rcases h with ⟨rfl, h⟩ | ⟨h1, h2, h3, h4⟩ <;> rcases k with ⟨rfl, k⟩ | ⟨k1, k2, k3, k4⟩
  · rfl
  · exact absurd k3 (h d k1 k2)
  · exact absurd h3 (k c h1 h2)
  · rcases Nat.lt_trichotomy c d with e | e | e
    · exact absurd k3 (h4 d e k2)
    · exact e
    · exact absurd h3 (k4 c e h2)
/-- The ways that there are. -/
def wt : List Wy := [⟨0, 0, 100⟩, ⟨2, 10, 60⟩, ⟨10, 50, 25⟩, ⟨50, 400, 5⟩]
end Go.Proofs.YtfdmcbcomknebaaGreatDoor.Idl
namespace Go.Proofs.YtfdmcbcomknebaaGreatDoor.Idl
open Go.ChangeShapes Go.WideShapes Go.ChangeAt Go.RowKit
end Go.Proofs.YtfdmcbcomknebaaGreatDoor.Idl
