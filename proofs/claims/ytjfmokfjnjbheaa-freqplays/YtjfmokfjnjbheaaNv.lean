/- Plain facts of hundredths. -/
import Derived.Test.YtjfmokfjnjbheaaShare
namespace Go.Proofs.Ytjfmokfjnjbheaa

/-- A greater part is no smaller hundredths. -/
theorem pc_rise (a b c : Int) (h : a ≤ b) : pc a c ≤ pc b c := by
  have p := pc_le b c
  have q := pc_le a c
  by_cases h1 : a < 1 ∨ c < 1
  · rw [show pc a c = 0 by rw [pc, if_pos h1]]; exact p.1
  · by_cases h2 : c ≤ b
    · rw [show pc b c = 100 by rw [pc, if_neg (by omega), if_pos h2]]; exact q.2
    · have e1 : pc a c = ((a.toNat * 100 / c.toNat : Nat) : Int) := by rw [pc, if_neg h1, if_neg (by omega)]
      have e2 : pc b c = ((b.toNat * 100 / c.toNat : Nat) : Int) := by rw [pc, if_neg (by omega), if_neg h2]
      have l : a.toNat * 100 / c.toNat ≤ b.toNat * 100 / c.toNat := Nat.div_le_div_right (by omega)
      rw [e1, e2]
      exact Int.ofNat_le.2 l

theorem sc_low (l h p : Int) (c : h < l) : sc l h p = l := by rw [sc, if_pos (Or.inl c)]

theorem way_le (D P : Nat) (hP : P ≤ 100) : D * P / 100 ≤ D := by
  have : D * P ≤ D * 100 := Nat.mul_le_mul_left D hP
  omega

theorem sc_in (l h p : Int) (c : l ≤ h) : l ≤ sc l h p ∧ sc l h p ≤ h := by
  unfold sc
  split
  · omega
  · split
    · omega
    · have := way_le (h - l).toNat p.toNat (by omega)
      generalize (h - l).toNat * p.toNat / 100 = Q at *
      omega

theorem sc_rise (l h p q : Int) (c : l ≤ h) (d : p ≤ q) : sc l h p ≤ sc l h q := by
  have a := sc_in l h p c
  have b := sc_in l h q c
  by_cases h1 : p < 1
  · rw [show sc l h p = l by rw [sc, if_pos (Or.inr h1)]]; exact b.1
  · by_cases h2 : 100 ≤ q
    · rw [show sc l h q = h by rw [sc, if_neg (by omega), if_pos h2]]; exact a.2
    · have e1 : sc l h p = l + (((h - l).toNat * p.toNat / 100 : Nat) : Int) := by rw [sc, if_neg (by omega), if_neg (by omega)]
      have e2 : sc l h q = l + (((h - l).toNat * q.toNat / 100 : Nat) : Int) := by rw [sc, if_neg (by omega), if_neg h2]
      have m : (h - l).toNat * p.toNat ≤ (h - l).toNat * q.toNat := Nat.mul_le_mul_left _ (by omega)
      rw [e1, e2]
      omega
end Go.Proofs.Ytjfmokfjnjbheaa
