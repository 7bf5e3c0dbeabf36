/- What HotFails keeps: the first stage that is planned; what the calls of a request answer that goes forward, or back. -/
import Derived.Test.YtaaikbehdfkhlaaHu
namespace Go.Proofs.Ytaaikbehdfkhlaa
open Go.ChangeShapes Go.WideShapes Go.ChangeAt Go.RowKit
open Rm Hp

/-- Of n stages, f is the first that is planned (n: none is). -/
structure Fst (n f : Nat) (P : Int → Bool) : Prop where
  le : f ≤ n
  no : ∀ j : Nat, j < f → P j = false
  yes : f < n → P f = true

section
variable {n f : Nat} {P : Int → Bool}
theorem fst_start (n : Nat) : Fst n n (fun _ => false) := ⟨Nat.le_refl _, fun _ _ => rfl, fun h => by omega⟩
theorem fst_less {y : Nat} (h : Fst n f P) (hy : y < f) (h10 : y < 10) : Fst n y (plP P y) := by
  have e : plP P y = fun j => decide (j = (y : Int)) || P j := plP_yes (by omega) (by omega)
  rw [e]
  refine ⟨by have := h.le; omega, fun j hj => ?_, fun _ => by simp⟩
  have : ¬ ((j : Int) = y) := by omega
  simp [this]
  exact h.no j (by omega)
theorem fst_more {y : Nat} (h : Fst n f P) (hy : f ≤ y) (h10 : y < 10) : Fst n f (plP P y) := by
  have e : plP P y = fun j => decide (j = (y : Int)) || P j := plP_yes (by omega) (by omega)
  rw [e]
  refine ⟨h.le, fun j hj => ?_, fun hf => ?_⟩
  · have : ¬ ((j : Int) = y) := by omega
    simp [this]
    exact h.no j hj
  · simp [h.yes hf]
end

section
variable {up t : Bool} {c y : Int} {i : Nat} {P : Int → Bool}
/-- Forward, at a stage that is not planned. -/
theorem fw_no (hi : i < nn up) (hp : P i = false) : nxK (some ⟨up, c, y, i, false, t⟩) = i ∧ nxU (some ⟨up, c, y, i, false, t⟩) = false ∧ nxF P (some ⟨up, c, y, i, false, t⟩) = false ∧ nxE (some ⟨up, c, y, i, false, t⟩) = 0 ∧ nxR P (some ⟨up, c, y, i, false, t⟩) = some ⟨up, c, y, i, false, true⟩ ∧ nxP P (some ⟨up, c, y, i, false, t⟩) = P := by
  have o := ov_f hi
  have fl : fls P ⟨up, c, y, i, false, t⟩ = false := by simp [fls, hp]
  exact ⟨at_f hi, by simp [nxU], fl, by simp [nxE, o], by simp [nxR, nxr, o, fl], by simp [nxP, fl]⟩
/-- Forward, at one that is. -/
theorem fw_yes (hi : i < nn up) (hp : P i = true) : nxK (some ⟨up, c, y, i, false, false⟩) = i ∧ nxU (some ⟨up, c, y, i, false, false⟩) = false ∧ nxF P (some ⟨up, c, y, i, false, false⟩) = true ∧ nxE (some ⟨up, c, y, i, false, false⟩) = 0 ∧ nxR P (some ⟨up, c, y, i, false, false⟩) = some ⟨up, c, y, i, true, true⟩ := by
  have o := ov_f hi
  have fl : fls P ⟨up, c, y, i, false, false⟩ = true := by simp [fls, hp, o]
  exact ⟨at_f hi, by simp [nxU], fl, by simp [nxE, o], by simp [nxR, nxr, o, fl]⟩
theorem fw_done (hi : i < nn up) : doE (some ⟨up, c, y, i, false, t⟩) = 0 ∧ doR (some ⟨up, c, y, i, false, t⟩) = some ⟨up, c, y, i + 1, false, false⟩ := by
  have o := ov_f hi
  exact ⟨by simp [doE, dnE, o], by simp [doR, dnD, o]⟩
theorem fw_end : enW (some ⟨up, c, y, nn up, false, t⟩) = 0 ∧ enE (some ⟨up, c, y, nn up, false, t⟩) = 0 := by
  have o := ov_n (nn up)
  exact ⟨by simp [enW], by simp [enE, o]⟩
theorem bw_next (hi : 0 < i) : nxK (some ⟨up, c, y, i, true, t⟩) = i - 1 ∧ nxU (some ⟨up, c, y, i, true, t⟩) = true ∧ nxF P (some ⟨up, c, y, i, true, t⟩) = false ∧ nxE (some ⟨up, c, y, i, true, t⟩) = 0 ∧ nxR P (some ⟨up, c, y, i, true, t⟩) = some ⟨up, c, y, i, true, t⟩ ∧ nxP P (some ⟨up, c, y, i, true, t⟩) = P := by
  have o := ov_b (n := nn up) hi
  have fl : fls P ⟨up, c, y, i, true, t⟩ = false := by simp [fls]
  exact ⟨rfl, by simp [nxU, o], fl, by simp [nxE, o], by simp [nxR, nxr], by simp [nxP, fl]⟩
theorem bw_done (hi : 0 < i) : doE (some ⟨up, c, y, i, true, t⟩) = 0 ∧ doR (some ⟨up, c, y, i, true, t⟩) = some ⟨up, c, y, i - 1, true, false⟩ := by
  have o := ov_b (n := nn up) hi
  exact ⟨by simp [doE, dnE, o], by simp [doR, dnD, o]⟩
theorem bw_end : enW (some ⟨up, c, y, 0, true, t⟩) = 11 ∧ enE (some ⟨up, c, y, 0, true, t⟩) = 0 := ⟨rfl, rfl⟩
end

/-- Where there is no desk: a step that was told, and nothing else has turned. -/
def ND (w wr : World) (s z : Nat) : Prop := Blk wr z (sc 0 false false) 53 ∧ Below s w wr ∧ s ≤ z
theorem ND.below {w wr w1 : World} {s z : Nat} (h : ND w wr s z) (f : Below wr.heap.size wr w1) : ND w w1 s z := ⟨h.1.keep (Fr.of_below f) h.1.lt (by simp), h.2.1.trans (f.mono (by have := h.1.lt; have := h.2.2; omega)), h.2.2⟩
end Go.Proofs.Ytaaikbehdfkhlaa
