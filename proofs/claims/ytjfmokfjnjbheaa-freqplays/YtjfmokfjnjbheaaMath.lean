/- Plain arithmetic of a division of a number of 128 bits by one of 64, digit by digit, and of shifts; no program in it. -/
import Derived.Lib.BitFns
namespace Go.Proofs.Ytjfmokfjnjbheaa.Ma

/-- One digit of a division: the divisor Y = Y1 * 2^32 + Y0 is normal, U is below it. -/
structure Digit (U V Y1 Y0 : Nat) : Prop where
  lo1 : 2147483648 ≤ Y1
  hi1 : Y1 < 4294967296
  hi0 : Y0 < 4294967296
  hiV : V < 4294967296
  below : U < Y1 * 4294967296 + Y0

def quo (U V Y1 Y0 : Nat) : Nat := (U * 4294967296 + V) / (Y1 * 4294967296 + Y0)
def rem (U V Y1 Y0 : Nat) : Nat := (U * 4294967296 + V) % (Y1 * 4294967296 + Y0)

/-- What holds at each round of the loop that finds the digit. -/
structure Near (U V Y1 Y0 q r : Nat) : Prop where
  sum : q * Y1 + r = U
  r_lt : r < 4294967296
  ge : quo U V Y1 Y0 ≤ q
  le : q ≤ 4294967297

theorem dist (q Y1 Y0 : Nat) : q * (Y1 * 4294967296 + Y0) = q * Y1 * 4294967296 + q * Y0 := by
  rw [Nat.mul_add, Nat.mul_assoc]

theorem quo_lt {U V Y1 Y0 : Nat} (d : Digit U V Y1 Y0) : quo U V Y1 Y0 < 4294967296 := by
  have := d.below; have := d.hiV; have := d.lo1
  unfold quo
  rw [Nat.div_lt_iff_lt_mul (by omega)]
  omega

theorem le_quo {U V Y1 Y0 q : Nat} (d : Digit U V Y1 Y0) (h : q * Y1 * 4294967296 + q * Y0 ≤ U * 4294967296 + V) : q ≤ quo U V Y1 Y0 := by
  have := d.lo1
  unfold quo
  rw [Nat.le_div_iff_mul_le (by omega), dist]
  exact h

theorem quo_lt_of {U V Y1 Y0 q : Nat} (d : Digit U V Y1 Y0) (h : U * 4294967296 + V < q * Y1 * 4294967296 + q * Y0) : quo U V Y1 Y0 < q := by
  have := d.lo1
  unfold quo
  rw [Nat.div_lt_iff_lt_mul (by omega), dist]
  exact h

theorem near_start {U V Y1 Y0 : Nat} (d : Digit U V Y1 Y0) : Near U V Y1 Y0 (U / Y1) (U % Y1) := by
  have h1 := d.lo1; have h2 := d.hi1; have h3 := d.hi0; have h4 := d.hiV; have h5 := d.below
  have m := Nat.mod_lt U (show 0 < Y1 by omega)
  refine ⟨Nat.div_add_mod' U Y1, by omega, ?_, ?_⟩
  · rw [Nat.le_div_iff_mul_le (by omega)]
    have e : quo U V Y1 Y0 * (Y1 * 4294967296 + Y0) ≤ U * 4294967296 + V := Nat.div_mul_le_self _ _
    rw [dist] at e
    generalize quo U V Y1 Y0 * Y1 = A at *
    generalize quo U V Y1 Y0 * Y0 = B at *
    omega
  · have : U / Y1 < 4294967298 := by
      rw [Nat.div_lt_iff_lt_mul (by omega)]
      omega
    omega

/-- The test says no: the digit is found. -/
theorem near_end {U V Y1 Y0 q r : Nat} (d : Digit U V Y1 Y0) (n : Near U V Y1 Y0 q r) (h : q * Y0 ≤ 4294967296 * r + V) : q = quo U V Y1 Y0 := by
  have h1 := n.sum
  have := le_quo (q := q) d (by
    generalize q * Y1 = A at *
    generalize q * Y0 = B at *
    omega)
  have := n.ge
  omega

/-- The test says yes: one less is no less than the digit. -/
theorem near_more {U V Y1 Y0 q r : Nat} (d : Digit U V Y1 Y0) (n : Near U V Y1 Y0 q r) (h : 4294967296 ≤ q ∨ 4294967296 * r + V < q * Y0) : quo U V Y1 Y0 ≤ q - 1 ∧ 1 ≤ q := by
  have h1 := n.sum
  have : quo U V Y1 Y0 < q := by
    rcases h with h | h
    · have := quo_lt d; omega
    · refine quo_lt_of d ?_
      generalize q * Y1 = A at *
      generalize q * Y0 = B at *
      omega
  omega

theorem pred_mul (q Y1 : Nat) (h : 1 ≤ q) : (q - 1) * Y1 + Y1 = q * Y1 := by
  obtain ⟨k, rfl⟩ : ∃ k, q = k + 1 := ⟨q - 1, by omega⟩
  rw [Nat.add_sub_cancel, Nat.add_mul, Nat.one_mul]

theorem near_step {U V Y1 Y0 q r : Nat} (d : Digit U V Y1 Y0) (n : Near U V Y1 Y0 q r) (h : 4294967296 ≤ q ∨ 4294967296 * r + V < q * Y0) (hr : r + Y1 < 4294967296) : Near U V Y1 Y0 (q - 1) (r + Y1) := by
  have m := near_more d n h
  have e := pred_mul q Y1 m.2
  have h1 := n.sum
  have h2 := n.le
  exact ⟨by omega, hr, m.1, by omega⟩

/-- The rest has grown beyond 32 bits: the digit is found. -/
theorem near_break {U V Y1 Y0 q r : Nat} (d : Digit U V Y1 Y0) (n : Near U V Y1 Y0 q r) (h : 4294967296 ≤ q ∨ 4294967296 * r + V < q * Y0) (hr : 4294967296 ≤ r + Y1) : q - 1 = quo U V Y1 Y0 := by
  have m := near_more d n h
  have e := pred_mul q Y1 m.2
  have h1 := n.sum
  have h2 := n.le
  have h3 := d.hi0
  have b : (q - 1) * Y0 ≤ 4294967296 * 4294967295 := Nat.mul_le_mul (by omega) (by omega)
  have := le_quo (q := q - 1) d (by
    generalize (q - 1) * Y1 = A at *
    generalize (q - 1) * Y0 = B at *
    generalize q * Y1 = C at *
    omega)
  omega

theorem div_of {T Y d r : Nat} (hY : 0 < Y) (hT : T = r + Y * d) : T / Y = r / Y + d := by
  rw [hT]
  exact Nat.add_mul_div_left r d hY

theorem two_aux (U V1 V0 Y d r : Nat) (hY : 0 < Y) (e : Y * d + r = U * 4294967296 + V1) : d * 4294967296 + (r * 4294967296 + V0) / Y = (U * 18446744073709551616 + (V1 * 4294967296 + V0)) / Y := by
  have g := div_of (T := U * 18446744073709551616 + (V1 * 4294967296 + V0)) (r := r * 4294967296 + V0) (d := d * 4294967296) hY (by
    rw [← Nat.mul_assoc]
    generalize Y * d = A at *
    omega)
  rw [g, Nat.add_comm]

/-- Two digits, one behind the other, are the whole quotient. -/
theorem two_digits (U V1 V0 Y : Nat) (hY : 0 < Y) : (U * 4294967296 + V1) / Y * 4294967296 + ((U * 4294967296 + V1) % Y * 4294967296 + V0) / Y = (U * 18446744073709551616 + (V1 * 4294967296 + V0)) / Y :=
  two_aux U V1 V0 Y _ _ hY (Nat.div_add_mod (U * 4294967296 + V1) Y)

theorem lenAux_spec : ∀ (f x : Nat), x < 2 ^ f → x < 2 ^ Lib.bitLenAux f x ∧ (x ≠ 0 → 2 ^ Lib.bitLenAux f x ≤ 2 * x)
  | 0, x, h => by
    have : x = 0 := by simpa using h
    subst this
    simp [Lib.bitLenAux]
  | f + 1, x, h => by
    rw [Nat.pow_succ] at h
    have ih := lenAux_spec f (x / 2) (by omega)
    simp only [Lib.bitLenAux]
    split
    · rename_i hx
      subst hx
      simp
    · rename_i hx
      rw [Nat.add_comm, Nat.pow_succ]
      refine ⟨by omega, fun _ => ?_⟩
      by_cases h2 : x / 2 = 0
      · have : Lib.bitLenAux f (x / 2) = 0 := by rw [h2]; cases f <;> simp [Lib.bitLenAux]
        rw [this]; omega
      · have := ih.2 h2
        omega

/-- How far a divisor is shifted so that its highest bit is 1. -/
theorem norm_spec (y : Nat) (h0 : 0 < y) (hy : y < 18446744073709551616) : ∃ s : Nat, s ≤ 63 ∧ 64 - (Lib.bitLen y : Int) = s ∧ 9223372036854775808 ≤ y * 2 ^ s ∧ y * 2 ^ s < 18446744073709551616 := by
  have a := lenAux_spec 64 y (by omega)
  have l := Lib.bitLen_le y 64 (by omega) (by omega)
  change y < 2 ^ Lib.bitLen y ∧ (y ≠ 0 → 2 ^ Lib.bitLen y ≤ 2 * y) at a
  have a2 := a.2 (by omega)
  generalize Lib.bitLen y = L at *
  have l1 : 1 ≤ L := by
    rcases L with _ | L
    · simp at a; omega
    · omega
  have e : 2 ^ L * 2 ^ (64 - L) = 18446744073709551616 := by rw [← Nat.pow_add, show L + (64 - L) = 64 by omega]
  have p : 0 < 2 ^ (64 - L) := Nat.two_pow_pos _
  refine ⟨64 - L, by omega, by omega, ?_, ?_⟩
  · have := Nat.mul_le_mul_right (2 ^ (64 - L)) a2
    rw [e, Nat.mul_assoc] at this
    omega
  · have := Nat.mul_lt_mul_of_pos_right a.1 p
    rw [e] at this
    exact this

/-- The dividend, shifted: its upper half, and its lower one. -/
theorem shift_spec (hi lo y s : Nat) (h1 : hi < y) (hl : lo < 18446744073709551616) (hs : s ≤ 63) :
    hi * 2 ^ s ||| lo / 2 ^ (64 - s) = hi * 2 ^ s + lo / 2 ^ (64 - s) ∧
    hi * 2 ^ s + lo / 2 ^ (64 - s) < y * 2 ^ s ∧
    (hi * 2 ^ s + lo / 2 ^ (64 - s)) * 18446744073709551616 + lo * 2 ^ s % 18446744073709551616 = (hi * 18446744073709551616 + lo) * 2 ^ s := by
  have e : 2 ^ (64 - s) * 2 ^ s = 18446744073709551616 := by rw [← Nat.pow_add, show 64 - s + s = 64 by omega]
  have b : lo / 2 ^ (64 - s) < 2 ^ s := by
    refine Nat.div_lt_of_lt_mul ?_
    rw [e]; exact hl
  refine ⟨?_, ?_, ?_⟩
  · have := Nat.shiftLeft_add_eq_or_of_lt b hi
    rw [Nat.shiftLeft_eq] at this
    exact this.symm
  · have := Nat.mul_le_mul_right (2 ^ s) (show hi + 1 ≤ y by omega)
    rw [Nat.add_mul] at this
    omega
  · have d : lo * 2 ^ s / 18446744073709551616 = lo / 2 ^ (64 - s) := by
      rw [← e]; exact Nat.mul_div_mul_right _ _ (Nat.two_pow_pos s)
    have m := Nat.div_add_mod (lo * 2 ^ s) 18446744073709551616
    rw [d] at m
    rw [Nat.add_mul, Nat.add_mul, Nat.mul_right_comm hi]
    generalize hi * 2 ^ s = A at *
    generalize lo / 2 ^ (64 - s) = B at *
    generalize lo * 2 ^ s = C at *
    omega

theorem div_shift (N y s : Nat) : N * 2 ^ s / (y * 2 ^ s) = N / y := Nat.mul_div_mul_right _ _ (Nat.two_pow_pos s)

end Go.Proofs.Ytjfmokfjnjbheaa.Ma
