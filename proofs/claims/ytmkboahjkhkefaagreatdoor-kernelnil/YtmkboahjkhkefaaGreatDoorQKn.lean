/- Contracts of the program's layers, as far as this claim needs them. -/
import Derived.Test.YtmkboahjkhkefaaGreatDoorQKt
import Derived.Test.YtmkboahjkhkefaaGreatDoorRows
import Derived.WalkKit
import Derived.ProofKit
import Derived.OpenShut
import Derived.BigQuiet
import Derived.Deep.RegionHeld3
set_option linter.unusedVariables false
set_option linter.unusedSimpArgs false
namespace Go.Proofs.YtmkboahjkhkefaaGreatDoor.Krn
open Go.ChangeShapes Go.WideShapes Go.ChangeAt Go.RowKit
open Mm
section
variable {B : Nat} {w0 : World} {A : List (Nat × List Value × TypeId)} {a : KA} {m m' : Nat} {S S' : KS} {w w' : World}
theorem find_hit (L : List Int) (f : Int → Bool) : ∀ k, k < L.length → (∀ j, j < k → f (L.getD j 0) = false) → f (L.getD k 0) = true → L.find? f = some (L.getD k 0) := by
  induction L with
  | nil => intro k hk; simp at hk
  | cons x L ih =>
    intro k hk no q
    cases k with
    | zero =>
      simp only [List.getD_cons_zero] at q ⊢
      rw [List.find?_cons_of_pos q]
    | succ k =>
      have h0 := no 0 (by omega)
      simp only [List.getD_cons_zero] at h0
      simp only [List.getD_cons_succ] at q ⊢
      rw [List.find?_cons_of_neg (by simp [h0])]
      exact ih k (by simpa using hk) (fun j hj => by have := no (j + 1) (by omega); simpa using this) q
theorem find_miss (L : List Int) (f : Int → Bool) (h : ∀ j, j < L.length → f (L.getD j 0) = false) : L.find? f = none := by
  rw [List.find?_eq_none]
  intro x hx
  obtain ⟨j, hj, e⟩ := List.getElem_of_mem hx
  have := h j hj
  rw [List.getD_eq_getElem?_getD, List.getElem?_eq_getElem hj, Option.getD_some, e] at this
  simp [this]
end
end Go.Proofs.YtmkboahjkhkefaaGreatDoor.Krn
