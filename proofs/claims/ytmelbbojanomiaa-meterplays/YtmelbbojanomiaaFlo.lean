/- Floats of 64 bits, by their words: one number for each by which they stand in order, how they compare, and quotients of whole numbers. No program in it. -/
import Derived.WalkKit
import Derived.Laws.FloatArith
namespace Go.Proofs.Ytmelbbojanomiaa.Flo

/-- What a word is without its sign. -/
def rg (x : Nat) : Nat := x % 9223372036854775808
/-- Whether it has a sign. -/
def ng (x : Nat) : Bool := decide (9223372036854775808 ≤ x)
/-- Whether it is no number. -/
def isN (x : Nat) : Bool := decide (9218868437227405312 < rg x)
/-- A number by which floats stand in order. -/
def ky (x : Nat) : Nat := if isN x then 18446744073709551615 else if ng x then 18446744073709551615 - x else x + 9223372036854775808
/-- The word without its sign, with the sign put ahead. -/
def sr (x : Nat) : Int := if ng x then -(rg x : Int) else (rg x : Int)

def mg (r : Nat) : Nat := if r < 4503599627370496 then r else (4503599627370496 + r % 4503599627370496) * 2 ^ (r / 4503599627370496 - 1)

theorem mg_lt {r s : Nat} (h : r < s) : mg r < mg s := by
  unfold mg
  by_cases h1 : r < 4503599627370496
  · rw [if_pos h1]
    by_cases h2 : s < 4503599627370496
    · rw [if_pos h2]; exact h
    · rw [if_neg h2]
      have p : 1 ≤ 2 ^ (s / 4503599627370496 - 1) := Nat.one_le_two_pow
      have := Nat.mul_le_mul_left (4503599627370496 + s % 4503599627370496) p
      omega
  · have h2 : ¬ s < 4503599627370496 := by omega
    rw [if_neg h1, if_neg h2]
    by_cases e : r / 4503599627370496 = s / 4503599627370496
    · rw [e]
      exact Nat.mul_lt_mul_of_pos_right (by omega) (Nat.two_pow_pos _)
    · have l : r / 4503599627370496 < s / 4503599627370496 := by omega
      have hr : 1 ≤ r / 4503599627370496 := by omega
      generalize r / 4503599627370496 = q at *
      generalize s / 4503599627370496 = q' at *
      have a : (4503599627370496 + r % 4503599627370496) * 2 ^ (q - 1) < 9007199254740992 * 2 ^ (q - 1) := Nat.mul_lt_mul_of_pos_right (by omega) (Nat.two_pow_pos _)
      have b : 9007199254740992 * 2 ^ (q - 1) = 4503599627370496 * 2 ^ q := by
        obtain ⟨k, rfl⟩ : ∃ k, q = k + 1 := ⟨q - 1, by omega⟩
        rw [Nat.add_sub_cancel, Nat.pow_succ]
        omega
      have c : 2 ^ q ≤ 2 ^ (q' - 1) := Nat.pow_le_pow_right (by omega) (by omega)
      have d := Nat.mul_le_mul (show 4503599627370496 ≤ 4503599627370496 + s % 4503599627370496 by omega) c
      omega

theorem mg_iff (r s : Nat) : mg r < mg s ↔ r < s := by
  constructor
  · intro h
    rcases Nat.lt_trichotomy r s with h1 | h1 | h1
    · exact h1
    · rw [h1] at h; omega
    · have := mg_lt h1; omega
  · exact mg_lt
theorem mg_zero : mg 0 = 0 := rfl
theorem mg_pos (r : Nat) : 0 < mg r ↔ 0 < r := by have := mg_iff 0 r; rwa [mg_zero] at this

theorem cmp_congr {a b c d : Int} (h1 : a < b ↔ c < d) (h2 : b < a ↔ d < c) : compare a b = compare c d := by
  simp only [compare, compareOfLessAndEq]
  by_cases h : a < b
  · rw [if_pos h, if_pos (h1.1 h)]
  · rw [if_neg h, if_neg (fun e => h (h1.2 e))]
    by_cases k : b < a
    · rw [if_neg (by omega), if_neg (by have := h2.1 k; omega)]
    · have : ¬ d < c := fun e => k (h2.2 e)
      have : ¬ c < d := fun e => h (h1.2 e)
      rw [if_pos (by omega), if_pos (by omega)]

def sg (s : Bool) (n : Nat) : Int := if s then -(n : Int) else (n : Int)
theorem signed_is (s : Bool) (m u : Nat) : Ieee.signed s m u = sg s (m * 2 ^ u) := by
  unfold Ieee.signed sg
  rw [Nat.shiftLeft_eq]
theorem sg_lt (s t : Bool) (m n c : Nat) (hc : 0 < c) : sg s m < sg t n ↔ sg s (m * c) < sg t (n * c) := by
  have e1 := Nat.mul_lt_mul_right (a := c) (b := m) (c := n) hc
  have e2 := Nat.mul_lt_mul_right (a := c) (b := n) (c := m) hc
  have z1 : m * c = 0 ↔ m = 0 := ⟨fun h => by rcases Nat.mul_eq_zero.1 h with h | h <;> omega, fun h => by rw [h, Nat.zero_mul]⟩
  have z2 : n * c = 0 ↔ n = 0 := ⟨fun h => by rcases Nat.mul_eq_zero.1 h with h | h <;> omega, fun h => by rw [h, Nat.zero_mul]⟩
  generalize m * c = M at *
  generalize n * c = N at *
  cases s <;> cases t <;> simp only [sg, if_true, if_false, Bool.false_eq_true] <;> omega

theorem num_order (s t : Bool) (m n a b : Nat) (L : Int) :
    Ieee.Datum.order (.number s m (L + a)) (.number t n (L + b)) = some (compare (sg s (m * 2 ^ a)) (sg t (n * 2 ^ b))) := by
  simp only [Ieee.Datum.order, signed_is, Option.some.injEq]
  rcases Nat.le_total a b with h | h
  · obtain ⟨d, rfl⟩ : ∃ d, b = a + d := ⟨b - a, by omega⟩
    rw [show min (L + (a : Int)) (L + ((a + d : Nat) : Int)) = L + a by omega, show (L + (a : Int) - (L + a)).toNat = 0 by omega, show (L + ((a + d : Nat) : Int) - (L + a)).toNat = d by omega, Nat.pow_add, Nat.pow_zero, Nat.mul_one, show n * (2 ^ a * 2 ^ d) = n * 2 ^ d * 2 ^ a by rw [Nat.mul_comm (2 ^ a), Nat.mul_assoc]]
    exact cmp_congr (sg_lt s t _ _ _ (Nat.two_pow_pos _)) (sg_lt t s _ _ _ (Nat.two_pow_pos _))
  · obtain ⟨d, rfl⟩ : ∃ d, a = b + d := ⟨a - b, by omega⟩
    rw [show min (L + ((b + d : Nat) : Int)) (L + (b : Int)) = L + b by omega, show (L + (b : Int) - (L + b)).toNat = 0 by omega, show (L + ((b + d : Nat) : Int) - (L + b)).toNat = d by omega, Nat.pow_add, Nat.pow_zero, Nat.mul_one, show m * (2 ^ b * 2 ^ d) = m * 2 ^ d * 2 ^ b by rw [Nat.mul_comm (2 ^ b), Nat.mul_assoc]]
    exact cmp_congr (sg_lt s t _ _ _ (Nat.two_pow_pos _)) (sg_lt t s _ _ _ (Nat.two_pow_pos _))

theorem sg_mg (s t : Bool) (r q : Nat) : compare (sg s (mg r)) (sg t (mg q)) = compare (sg s r) (sg t q) := by
  have e1 := mg_iff r q
  have e2 := mg_iff q r
  have e3 := mg_pos r
  have e4 := mg_pos q
  apply cmp_congr <;> cases s <;> cases t <;> simp only [sg, if_true, if_false, Bool.false_eq_true] <;> omega

theorem w_sign : Ieee.double.signWeight = 9223372036854775808 := by decide +kernel
theorem w_bin : Ieee.double.binade = 4503599627370496 := by decide +kernel
theorem w_inf : Ieee.double.infRung = 9218868437227405312 := by decide +kernel

/-- What a word stands for. -/
theorem read_is (x : Nat) (hx : x < 18446744073709551616) :
    (isN x = false ∧ rg x < 9218868437227405312 ∧ ∃ m a, Ieee.double.read x = .number (ng x) m (Ieee.double.leastPlace + (a : Nat)) ∧ m * 2 ^ a = mg (rg x)) ∨
    (isN x = false ∧ rg x = 9218868437227405312 ∧ Ieee.double.read x = .infinity (ng x)) ∨ (isN x = true ∧ ∃ f, Ieee.double.read x = .nan (ng x) f) := by
  have hn : (x / 9223372036854775808 % 2 == 1) = ng x := by
    unfold ng
    by_cases h : 9223372036854775808 ≤ x
    · rw [decide_eq_true h, beq_iff_eq]; omega
    · rw [decide_eq_false h, beq_eq_false_iff_ne]; omega
  unfold Ieee.Format.read
  simp only [w_sign, w_bin, w_inf, hn, show x % 9223372036854775808 = rg x from rfl]
  unfold isN
  generalize rg x = r
  by_cases h1 : r < 4503599627370496
  · refine Or.inl ⟨decide_eq_false (by omega), by omega, r, 0, ?_, ?_⟩
    · rw [if_pos h1]; simp
    · unfold mg; rw [if_pos h1]; simp
  · rw [if_neg h1]
    by_cases h2 : r < 9218868437227405312
    · refine Or.inl ⟨decide_eq_false (by omega), h2, _, _, by rw [if_pos h2], ?_⟩
      unfold mg
      rw [if_neg h1]
    · rw [if_neg h2]
      by_cases h3 : r = 9218868437227405312
      · exact Or.inr (Or.inl ⟨decide_eq_false (by omega), h3, by rw [if_pos h3]⟩)
      · exact Or.inr (Or.inr ⟨decide_eq_true (by omega), _, by rw [if_neg h3]⟩)

theorem sr_sg (x : Nat) : sr x = sg (ng x) (rg x) := rfl

/-- How two words compare. -/
theorem order_is (x y : Nat) (hx : x < 18446744073709551616) (hy : y < 18446744073709551616) :
    Ieee.double.order x y = if isN x || isN y then none else some (compare (sr x) (sr y)) := by
  unfold Ieee.Format.order
  rw [sr_sg, sr_sg]
  rcases read_is x hx with ⟨n1, l1, m, a, e1, v1⟩ | ⟨n1, l1, e1⟩ | ⟨n1, f, e1⟩ <;> rcases read_is y hy with ⟨n2, l2, m2, a2, e2, v2⟩ | ⟨n2, l2, e2⟩ | ⟨n2, f2, e2⟩ <;> rw [e1, e2, n1, n2]
  · rw [num_order, v1, v2, sg_mg]; rfl
  · simp only [Ieee.Datum.order, Bool.or_self, Bool.false_eq_true, if_false, Option.some.injEq]
    rw [l2]
    cases ng x <;> cases ng y <;> simp only [sg, if_true, if_false, Bool.false_eq_true, compare, compareOfLessAndEq] <;> first | rw [if_pos (by omega)] | rw [if_neg (by omega), if_neg (by omega)]
  · rfl
  · simp only [Ieee.Datum.order, Bool.or_self, Bool.false_eq_true, if_false, Option.some.injEq]
    rw [l1]
    cases ng x <;> cases ng y <;> simp only [sg, if_true, if_false, Bool.false_eq_true, compare, compareOfLessAndEq] <;> first | rw [if_pos (by omega)] | rw [if_neg (by omega), if_neg (by omega)]
  · simp only [Ieee.Datum.order, Bool.or_self, Bool.false_eq_true, if_false, Option.some.injEq]
    rw [l1, l2]
    cases ng x <;> cases ng y <;> decide +kernel
  · rfl
  · rfl
  · rfl
  · rfl

/-- Is it a number, or above or below all: it is alike to itself. -/
theorem self_eq (x : Nat) (hx : x < 18446744073709551616) : (Ieee.double.order x x == some .eq) = !isN x := by
  rw [order_is x x hx hx]
  cases isN x with
  | true => rfl
  | false => simp [compare, compareOfLessAndEq]
theorem self_ne (x : Nat) (hx : x < 18446744073709551616) : (Ieee.double.order x x != some .eq) = isN x := by
  rw [bne, self_eq x hx, Bool.not_not]

theorem ky_lt (x : Nat) (hx : x < 18446744073709551616) : ky x < 18446744073709551616 := by
  unfold ky isN ng rg
  split <;> try split
  all_goals (simp only [decide_eq_true_eq] at *; omega)
theorem ky_nan (x : Nat) (hx : x < 18446744073709551616) : ky x = 18446744073709551615 ↔ isN x = true := by
  unfold ky
  cases h : isN x with
  | true => simp
  | false =>
    simp only [Bool.false_eq_true, if_false, iff_false]
    have : ¬ 9218868437227405312 < rg x := by simpa [isN] using h
    unfold rg at this
    unfold ng
    split
    · simp only [decide_eq_true_eq] at *; omega
    · simp only [decide_eq_true_eq] at *; omega
/-- The number by which a float stands in order, of one that is a number. -/
theorem ky_num (x : Nat) (hx : x < 18446744073709551616) (h : isN x = false) : (ky x : Int) = if ng x then 9223372036854775807 - (rg x : Int) else 9223372036854775808 + (rg x : Int) := by
  have l : ¬ 9218868437227405312 < rg x := by simpa [isN] using h
  unfold ky
  rw [h]
  simp only [Bool.false_eq_true, if_false]
  unfold rg ng at *
  split
  · simp only [decide_eq_true_eq] at *; omega
  · simp only [decide_eq_true_eq] at *; omega

/-- Which of two goes ahead. -/
def od (x y : Nat) : Int := if ky x < ky y then -1 else if ky y < ky x then 1 else 0

theorem lt_is (x y : Nat) (hx : x < 18446744073709551616) (hy : y < 18446744073709551616) (h1 : isN x = false) (h2 : isN y = false) : (Ieee.double.order x y == some .lt) = decide (sr x < sr y) := by
  rw [order_is x y hx hy, h1, h2]
  simp only [Bool.or_self, Bool.false_eq_true, if_false, compare, compareOfLessAndEq]
  by_cases h : sr x < sr y
  · simp [h]
  · rw [if_neg h]; split <;> simp [h]
theorem gt_is (x y : Nat) (hx : x < 18446744073709551616) (hy : y < 18446744073709551616) (h1 : isN x = false) (h2 : isN y = false) : (Ieee.double.order x y == some .gt) = decide (sr y < sr x) := by
  rw [order_is x y hx hy, h1, h2]
  simp only [Bool.or_self, Bool.false_eq_true, if_false, compare, compareOfLessAndEq]
  by_cases h : sr x < sr y
  · rw [if_pos h]; simp; omega
  · rw [if_neg h]; split <;> simp <;> omega

theorem od_lt (x y : Nat) (hx : x < 18446744073709551616) (hy : y < 18446744073709551616) (h1 : isN x = false) (h2 : isN y = false) (h : sr x < sr y) : od x y = -1 := by
  have a := ky_num x hx h1
  have b := ky_num y hy h2
  unfold od
  rw [if_pos]
  unfold sr at h
  cases h3 : ng x <;> cases h4 : ng y <;> simp only [h3, h4, if_true, if_false, Bool.false_eq_true] at h a b <;> omega
theorem od_gt (x y : Nat) (hx : x < 18446744073709551616) (hy : y < 18446744073709551616) (h1 : isN x = false) (h2 : isN y = false) (h : sr y < sr x) : od x y = 1 := by
  have a := ky_num x hx h1
  have b := ky_num y hy h2
  unfold od
  rw [if_neg, if_pos]
  all_goals (unfold sr at h; cases h3 : ng x <;> cases h4 : ng y <;> simp only [h3, h4, if_true, if_false, Bool.false_eq_true] at h a b <;> omega)
/-- Of two truths, which goes ahead. -/
def ah (a b : Bool) : Int := if a = b then 0 else if a then -1 else 1
theorem od_eq (x y : Nat) (hx : x < 18446744073709551616) (hy : y < 18446744073709551616) (h1 : isN x = false) (h2 : isN y = false) (h : ¬ sr x < sr y) (k : ¬ sr y < sr x) : od x y = ah (ng x) (ng y) := by
  have a := ky_num x hx h1
  have b := ky_num y hy h2
  unfold sr at h k
  unfold od ah
  cases h3 : ng x <;> cases h4 : ng y <;> simp only [h3, h4, if_true, if_false, Bool.false_eq_true, Bool.true_eq_false] at h k a b ⊢ <;> (repeat' split) <;> first | rfl | (exfalso; omega)
theorem od_nan (x y : Nat) (hx : x < 18446744073709551616) (hy : y < 18446744073709551616) (h : (isN x || isN y) = true) : od x y = ah (!isN x) (!isN y) := by
  have a := ky_nan x hx
  have b := ky_nan y hy
  have c := ky_lt x hx
  have d := ky_lt y hy
  unfold od ah
  cases h1 : isN x <;> cases h2 : isN y <;> simp only [h1, h2, Bool.or_self, Bool.or_false, Bool.or_true, Bool.not_true, Bool.not_false, iff_true, iff_false, Bool.false_eq_true, Bool.true_eq_false, if_true, if_false] at * <;> (repeat' split) <;> first | rfl | (exfalso; omega)

theorem sign_is (x : Nat) (hx : x < 18446744073709551616) : decide (IntKind.i64.wrap (x : Int) < 0) = ng x := by
  unfold ng
  rw [decide_eq_decide, IntKind.wrap_i64]
  omega

/-- A whole number as a float. -/
def ni (n : Int) : Nat := floatOfInt .f64 n
theorem ni_lt (n : Int) : ni n < 18446744073709551616 := by
  have h : ni n < 2 ^ Ieee.double.width := Ieee.Format.write_lt Ieee.double (.number (n < 0) n.natAbs 0)
  rwa [show 2 ^ Ieee.double.width = 18446744073709551616 by decide +kernel] at h
theorem ni_zero : ni 0 = 0 := by decide +kernel

theorem word_is (s : Bool) (r : Nat) (h : r ≤ 9218868437227405312) : Ieee.double.word s r < 18446744073709551616 ∧ rg (Ieee.double.word s r) = r ∧ ng (Ieee.double.word s r) = s ∧ isN (Ieee.double.word s r) = false := by
  unfold Ieee.Format.word
  rw [w_sign]
  have e : rg (if s = true then 9223372036854775808 + r else r) = r := by unfold rg; cases s <;> simp <;> omega
  refine ⟨by cases s <;> simp <;> omega, e, ?_, ?_⟩
  · unfold ng; cases s <;> simp <;> omega
  · unfold isN; rw [e]; simp; omega

/-- A whole number that is not 0 is no 0 as a float, and has its sign. -/
theorem ni_word (n : Int) (h : n ≠ 0) : ∃ r, 0 < r ∧ r ≤ 9218868437227405312 ∧ ni n = Ieee.double.word (decide (n < 0)) r := by
  have h0 : ¬ n.natAbs = 0 := by omega
  refine ⟨_, ?_, ?_, (show ni n = Ieee.double.nearest (decide (n < 0)) n.natAbs 0 from rfl).trans (by unfold Ieee.Format.nearest; rw [if_neg h0])⟩
  · rw [w_bin, w_inf]
    have : 0 < (max ((0 : Int) + (n.natAbs.log2 : Int) - (Ieee.double.fractionBits : Int)) Ieee.double.leastPlace - Ieee.double.leastPlace).toNat := by
      rw [show Ieee.double.leastPlace = -1074 by decide +kernel, show (Ieee.double.fractionBits : Int) = 52 from rfl]
      omega
    omega
  · rw [w_inf]
    exact Nat.min_le_right _ _

theorem div_zero (n : Int) (h : n ≠ 0) : Ieee.double.div (ni n) (ni 0) = some (Ieee.double.word (decide (n < 0)) 9218868437227405312) := by
  obtain ⟨r, h0, h1, e⟩ := ni_word n h
  obtain ⟨l, e1, e2, e3⟩ := word_is (decide (n < 0)) r h1
  rw [ni_zero, e]
  unfold Ieee.Format.div
  have z : Ieee.double.read 0 = .number false 0 Ieee.double.leastPlace := by decide +kernel
  rw [z]
  rcases read_is _ l with ⟨_, _, m, a, q, v⟩ | ⟨_, _, q⟩ | ⟨q, _⟩
  · have : 0 < mg r := (mg_pos r).2 h0
    rw [e1] at v
    have hm : m ≠ 0 := fun e => by rw [e, Nat.zero_mul] at v; omega
    rw [q, e2]
    simp only [Ieee.Datum.quotient, if_true, if_neg hm, Option.map_some, Ieee.Format.write, w_inf, Bool.xor_false]
  · rw [q, e2]
    simp only [Ieee.Datum.quotient, Option.map_some, Ieee.Format.write, w_inf, Bool.xor_false]
  · rw [e3] at q; cases q

theorem div_none : Ieee.double.div (ni 0) (ni 0) = none := by decide +kernel

theorem quo_lt {x y r : Nat} (h : Ieee.double.div x y = some r) : r < 18446744073709551616 := by
  have := Ieee.Format.div_lt Ieee.double h
  rwa [show 2 ^ Ieee.double.width = 18446744073709551616 by decide +kernel] at this
/-- Where a quotient stands in order. -/
def rt (a b : Int) : Nat := match Ieee.double.div (ni a) (ni b) with
  | some r => ky r
  | none => 18446744073709551615

theorem rt_some {a b : Int} {r : Nat} (h : Ieee.double.div (ni a) (ni b) = some r) : rt a b = ky r := by unfold rt; rw [h]
theorem rt_none {a b : Int} (h : Ieee.double.div (ni a) (ni b) = none) : rt a b = 18446744073709551615 := by unfold rt; rw [h]
theorem rt_above (a : Int) (h : 0 < a) : rt a 0 = ky 9218868437227405312 := by
  rw [rt_some (div_zero a (by omega)), decide_eq_false (by omega)]
  rfl
theorem rt_below (a : Int) (h : a < 0) : rt a 0 = ky 18442240474082181120 := by
  rw [rt_some (div_zero a (by omega)), decide_eq_true h]
  rfl

/-- What is drawn where there is no number. -/
def nb (w : World) (x y : Nat) : Nat := (Question.nanBits .f64 x y).cut (w.tape w.drawn (.nanBits .f64 x y))
theorem nb_is (w : World) (x y : Nat) : nb w x y < 18446744073709551616 ∧ isN (nb w x y) = true := by
  unfold nb Question.cut isN rg
  simp only [decide_eq_true_eq]
  generalize w.tape w.drawn (.nanBits .f64 x y) = t
  have h1 : t % 2 < 2 := Nat.mod_lt _ (by omega)
  have h2 : t / 2 % (2 ^ 52 - 1) < 2 ^ 52 - 1 := Nat.mod_lt _ (by decide)
  generalize t % 2 = p at *
  generalize t / 2 % (2 ^ 52 - 1) = q at *
  omega
theorem run_quo_none {P : Program} (w : World) (t : TypeId) (x y : Nat) (h : Ieee.double.div x y = none) : (binOp .quo t (.float .f64 x) (.float .f64 y)).run P w = .ok (.float .f64 (nb w x y)) w.drew := by
  have h' : FloatKind.f64.format.div x y = none := h
  simp only [binOp, Op.floatArith, h']
  rfl
end Go.Proofs.Ytmelbbojanomiaa.Flo
