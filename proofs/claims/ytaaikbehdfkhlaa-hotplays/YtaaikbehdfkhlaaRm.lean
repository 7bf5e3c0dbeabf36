/- Stages that are done, one after the other, and back: plain facts. No program in it. -/
import Derived.WalkKit
namespace Go.Proofs.Ytaaikbehdfkhlaa.Rm

/-- Of n stages d are done; it goes back or not: is it over? -/
def ov (n d : Nat) (bk : Bool) : Bool := if bk then d == 0 else d == n
/-- The stage that is next. -/
def atK (n d : Nat) (bk : Bool) : Nat := if bk then d - 1 else if d == n then 0 else d
def dnE (n d : Nat) (bk : Bool) : Int := if ov n d bk then 6 else 0
def dnD (n d : Nat) (bk : Bool) : Nat := if ov n d bk then d else if bk then d - 1 else d + 1
def flE (n d : Nat) (bk : Bool) : Int := if bk || ov n d bk then 6 else 0
def flB (n d : Nat) (bk : Bool) : Bool := bk || !ov n d bk
def whE (n d : Nat) (bk : Bool) : Int := if ov n d bk then (if bk then 11 else 0) else 7

theorem four {n d : Nat} (bk : Bool) (h : d ≤ n) : (bk = true ∧ d = 0) ∨ (bk = true ∧ 0 < d) ∨ (bk = false ∧ d < n) ∨ (bk = false ∧ d = n) := by
  cases bk
  · rcases Nat.lt_or_ge d n with l | l
    · exact Or.inr (Or.inr (Or.inl ⟨rfl, l⟩))
    · exact Or.inr (Or.inr (Or.inr ⟨rfl, by omega⟩))
  · rcases Nat.eq_zero_or_pos d with l | l
    · exact Or.inl ⟨rfl, l⟩
    · exact Or.inr (Or.inl ⟨rfl, l⟩)

theorem ov_b0 (n : Nat) : ov n 0 true = true := rfl
theorem ov_b {n d : Nat} (h : 0 < d) : ov n d true = false := by simp [ov]; omega
theorem ov_f {n d : Nat} (h : d < n) : ov n d false = false := by simp [ov]; omega
theorem ov_n (n : Nat) : ov n n false = true := by simp [ov]
theorem at_b0 (n : Nat) : atK n 0 true = 0 := rfl
theorem at_b (n d : Nat) : atK n d true = d - 1 := rfl
theorem at_f {n d : Nat} (h : d < n) : atK n d false = d := by
  have : d ≠ n := by omega
  simp [atK, this]
theorem at_n (n : Nat) : atK n n false = 0 := by simp [atK]
theorem dnD_le {n d : Nat} (bk : Bool) (h : d ≤ n) : dnD n d bk ≤ n := by
  unfold dnD ov
  cases bk
  · by_cases e : d = n
    · simp [e]
    · simp [e]; omega
  · by_cases e : d = 0
    · simp [e]
    · simp [e]; omega
end Go.Proofs.Ytaaikbehdfkhlaa.Rm
