/- Plain facts on numbers as sets of bits: one bit, lists of bits, how many there are, the lowest and the greatest one; no program in it. -/
import Derived.Lib.BitFns
namespace Go.Proofs.Ytijicghdmlfheaa.Mm

theorem add_or : ∀ (n a b : Nat), a < 2 ^ n → a &&& b = 0 → a + b = a ||| b
  | 0, a, b, h, _ => by
    have : a = 0 := by simpa using h
    subst this
    simp
  | n + 1, a, b, h, hz => by
    rw [Nat.pow_succ] at h
    have h2 : a / 2 &&& b / 2 = 0 := by rw [← Nat.and_div_two, hz]
    have ih := add_or n (a / 2) (b / 2) (by omega) h2
    rw [← Nat.or_div_two] at ih
    have m1 : (a &&& b) % 2 = 1 ↔ a % 2 = 1 ∧ b % 2 = 1 := Nat.and_mod_two_eq_one
    have m2 : (a ||| b) % 2 = 1 ↔ a % 2 = 1 ∨ b % 2 = 1 := Nat.or_mod_two_eq_one
    rw [hz] at m1
    have : ¬(a % 2 = 1 ∧ b % 2 = 1) := by rw [← m1]; decide
    omega

/-- Is the core in the set? -/
def tb (m : Nat) (c : Int) : Bool := decide (0 ≤ c ∧ c < 64) && m.testBit c.toNat
/-- The set of one core; of what is no core, the empty set. -/
def bv (c : Int) : Nat := if 0 ≤ c ∧ c < 64 then 2 ^ c.toNat else 0
/-- A set, and some cores. -/
def wl (m : Nat) (xs : List Int) : Nat := xs.foldl (fun m c => m ||| bv c) m
/-- The first cores. -/
def up (n : Int) : Nat := if n < 1 then 0 else if 64 ≤ n then 18446744073709551615 else 2 ^ n.toNat - 1
/-- What is in the first one alone. -/
def nt (m o : Nat) : Nat := m &&& (18446744073709551615 - o)
/-- All cores of a set, rising. -/
def ls (m : Nat) : List Nat := (List.range 64).filter fun i => m.testBit i

theorem bv_lt (c : Int) : bv c < 18446744073709551616 := by
  unfold bv
  split
  · exact Nat.lt_of_lt_of_eq (Nat.pow_lt_pow_right (by omega) (show c.toNat < 64 by omega)) rfl
  · omega

theorem or_lt {a b : Nat} (ha : a < 18446744073709551616) (hb : b < 18446744073709551616) : a ||| b < 18446744073709551616 :=
  Nat.or_lt_two_pow (n := 64) ha hb

theorem and_lt {a b : Nat} (hb : b < 18446744073709551616) : a &&& b < 18446744073709551616 :=
  Nat.and_lt_two_pow (n := 64) a hb

theorem nt_lt (a b : Nat) : nt a b < 18446744073709551616 := and_lt (by omega)

theorem wl_lt (m : Nat) (xs : List Int) (h : m < 18446744073709551616) : wl m xs < 18446744073709551616 := by
  unfold wl
  induction xs generalizing m with
  | nil => exact h
  | cons c r ih => exact ih _ (or_lt h (bv_lt c))

theorem wl_snoc (m : Nat) (xs : List Int) (c : Int) : wl m (xs ++ [c]) = wl m xs ||| bv c := by
  unfold wl
  rw [List.foldl_append]
  rfl

theorem max_eq : 18446744073709551615 = 2 ^ 64 - 1 := by decide

theorem bit_max (o i : Nat) (ho : o < 18446744073709551616) : (18446744073709551615 - o).testBit i = (decide (i < 64) && !o.testBit i) := by
  have := Nat.testBit_two_pow_sub_succ (x := o) (n := 64) ho i
  rw [← this]
  congr 1
  omega

theorem bit_hi {m i : Nat} (hm : m < 18446744073709551616) (hi : 64 ≤ i) : m.testBit i = false := by
  have : 2 ^ 64 ≤ 2 ^ i := Nat.pow_le_pow_right (by decide) hi
  exact Nat.testBit_lt_two_pow (by omega)

theorem bit_bv (c : Int) (i : Nat) : (bv c).testBit i = decide (c = (i : Int) ∧ i < 64) := by
  unfold bv
  split
  · rw [Nat.testBit_two_pow]
    congr 1
    apply propext
    omega
  · simp
    omega

theorem bit_wl (m : Nat) (xs : List Int) (i : Nat) : (wl m xs).testBit i = (m.testBit i || (decide (i < 64) && decide ((i : Int) ∈ xs))) := by
  unfold wl
  induction xs generalizing m with
  | nil => simp
  | cons c r ih =>
    rw [List.foldl_cons, ih, Nat.testBit_or, bit_bv]
    by_cases h1 : c = (i : Int)
    · by_cases h2 : i < 64
      · simp [h1, h2]
      · simp [h1, h2]
    · have h3 : ¬ (i : Int) = c := fun e => h1 e.symm
      by_cases h2 : i < 64 <;> simp [h1, h2, h3]

theorem tb_nat (m k : Nat) (hk : k < 64) : tb m (k : Int) = m.testBit k := by
  unfold tb
  have : (0 : Int) ≤ k ∧ (k : Int) < 64 := by omega
  simp [this]

/-- The test of a bit by a mask. -/
theorem and_bv (m : Nat) (c : Int) : (m &&& bv c = 0) = (tb m c = false) := by
  apply propext
  constructor
  · intro h
    by_cases hc : 0 ≤ c ∧ c < 64
    · have := congrArg (fun x => x.testBit c.toNat) h
      simp only [Nat.testBit_and, bit_bv, Nat.zero_testBit] at this
      have e : decide (c = (c.toNat : Int) ∧ c.toNat < 64) = true := by simp; omega
      rw [e] at this
      unfold tb
      rw [Bool.and_true] at this
      rw [this, Bool.and_false]
    · unfold tb
      simp [hc]
  · intro h
    apply Nat.eq_of_testBit_eq
    intro i
    rw [Nat.testBit_and, bit_bv, Nat.zero_testBit]
    by_cases hc : c = (i : Int) ∧ i < 64
    · have : tb m c = m.testBit i := by rw [hc.1]; exact tb_nat m i hc.2
      rw [h] at this
      rw [← this]
      simp
    · simp [hc]

/-- One more, by a sum. -/
theorem or_bv_sum (m : Nat) (c : Int) (hm : m < 18446744073709551616) (h : tb m c = false) : m ||| bv c = m + bv c :=
  (add_or 64 m (bv c) hm ((and_bv m c).mpr h)).symm

theorem or_bv_same (m : Nat) (c : Int) (h : tb m c = true) : m ||| bv c = m := by
  apply Nat.eq_of_testBit_eq
  intro i
  rw [Nat.testBit_or, bit_bv]
  by_cases hc : c = (i : Int) ∧ i < 64
  · have : tb m c = m.testBit i := by rw [hc.1]; exact tb_nat m i hc.2
    rw [h] at this
    simp [← this]
  · simp [hc]

theorem bv_none (c : Int) (h : ¬(0 ≤ c ∧ c < 64)) : bv c = 0 := if_neg h
theorem bv_some (c : Int) (h : 0 ≤ c ∧ c < 64) : bv c = 2 ^ c.toNat := if_pos h
theorem tb_none (m : Nat) (c : Int) (h : ¬(0 ≤ c ∧ c < 64)) : tb m c = false := by unfold tb; simp [h]
theorem tb_some (m : Nat) (c : Int) (h : 0 ≤ c ∧ c < 64) : tb m c = m.testBit c.toNat := by unfold tb; simp [h]

/-- One less, by a difference. -/
theorem nt_bv_sub (m : Nat) (c : Int) (hm : m < 18446744073709551616) (h : tb m c = true) : nt m (bv c) + bv c = m := by
  have hb := bv_lt c
  have hz : nt m (bv c) &&& bv c = 0 := by
    apply Nat.eq_of_testBit_eq
    intro i
    rw [nt, Nat.testBit_and, Nat.testBit_and, bit_max _ _ hb, Nat.zero_testBit]
    cases (bv c).testBit i <;> simp
  rw [add_or 64 _ _ (nt_lt m (bv c)) hz]
  apply Nat.eq_of_testBit_eq
  intro i
  rw [nt, Nat.testBit_or, Nat.testBit_and, bit_max _ _ hb, bit_bv]
  by_cases hi : i < 64
  · by_cases hc : c = (i : Int)
    · have : tb m c = m.testBit i := by rw [hc]; exact tb_nat m i hi
      rw [h] at this
      simp [hc, hi, ← this]
    · simp [hc, hi]
  · rw [bit_hi hm (by omega)]
    simp [hi]

theorem nt_bv_same (m : Nat) (c : Int) (hm : m < 18446744073709551616) (h : tb m c = false) : nt m (bv c) = m := by
  have hb := bv_lt c
  apply Nat.eq_of_testBit_eq
  intro i
  rw [nt, Nat.testBit_and, bit_max _ _ hb, bit_bv]
  by_cases hi : i < 64
  · by_cases hc : c = (i : Int)
    · have : tb m c = m.testBit i := by rw [hc]; exact tb_nat m i hi
      rw [h] at this
      simp [hc, hi, ← this]
    · simp [hc, hi]
  · rw [bit_hi hm (by omega)]
    simp

theorem up_lt (n : Int) : up n < 18446744073709551616 := by
  unfold up
  split
  · omega
  · split
    · omega
    · have := Nat.pow_lt_pow_right (a := 2) (by omega) (show n.toNat < 64 by omega)
      omega

theorem bit_up (n : Int) (i : Nat) : (up n).testBit i = decide ((i : Int) < n ∧ i < 64) := by
  unfold up
  split
  · simp; omega
  · split
    · rw [max_eq, Nat.testBit_two_pow_sub_one]
      congr 1
      apply propext
      omega
    · rw [Nat.testBit_two_pow_sub_one]
      congr 1
      apply propext
      omega

/-- The first k + 1 cores are the first k, and one more. -/
theorem up_succ (k : Nat) (hk : k < 64) : up (k : Int) ||| bv k = up ((k + 1 : Nat) : Int) := by
  apply Nat.eq_of_testBit_eq
  intro i
  rw [Nat.testBit_or, bit_up, bit_up, bit_bv, ← Bool.decide_or]
  congr 1
  apply propext
  omega

/-- A set out of a list of its cores. -/
theorem wl_filter (p : Nat → Bool) (i : Nat) : (wl 0 (((List.range 64).filter p).map fun k : Nat => (k : Int))).testBit i = (decide (i < 64) && p i) := by
  rw [bit_wl]
  simp only [Nat.zero_testBit, Bool.false_or]
  by_cases hi : i < 64
  · simp only [hi, decide_true, Bool.true_and]
    rw [Bool.eq_iff_iff]
    constructor
    · intro h
      obtain ⟨k, hk, e⟩ := List.mem_map.1 (of_decide_eq_true h)
      obtain rfl : k = i := by omega
      exact (List.mem_filter.1 hk).2
    · intro h
      exact decide_eq_true (List.mem_map.2 ⟨i, List.mem_filter.2 ⟨List.mem_range.2 hi, h⟩, rfl⟩)
  · simp [hi]

theorem wl_and (a b : Nat) (ha : a < 18446744073709551616) : wl 0 (((List.range 64).filter fun i => a.testBit i && b.testBit i).map fun k : Nat => (k : Int)) = a &&& b := by
  apply Nat.eq_of_testBit_eq
  intro i
  rw [wl_filter, Nat.testBit_and]
  by_cases hi : i < 64
  · simp [hi]
  · have h1 := bit_hi ha (show 64 ≤ i by omega)
    simp [hi, h1]

theorem wl_or (a b : Nat) (ha : a < 18446744073709551616) (hb : b < 18446744073709551616) : wl 0 (((List.range 64).filter fun i => a.testBit i || b.testBit i).map fun k : Nat => (k : Int)) = a ||| b := by
  apply Nat.eq_of_testBit_eq
  intro i
  rw [wl_filter, Nat.testBit_or]
  by_cases hi : i < 64
  · simp [hi]
  · have h1 := bit_hi ha (show 64 ≤ i by omega)
    have h2 := bit_hi hb (show 64 ≤ i by omega)
    simp [hi, h1, h2]

theorem wl_nt (a b : Nat) (hb : b < 18446744073709551616) : wl 0 (((List.range 64).filter fun i => a.testBit i && !b.testBit i).map fun k : Nat => (k : Int)) = nt a b := by
  apply Nat.eq_of_testBit_eq
  intro i
  rw [wl_filter, nt, Nat.testBit_and, bit_max _ _ hb]
  by_cases hi : i < 64
  · simp [hi]
  · simp [hi]

theorem wl_ls (m : Nat) (hm : m < 18446744073709551616) : wl 0 ((ls m).map fun k : Nat => (k : Int)) = m := by
  have := wl_and m m hm
  rw [Nat.and_self] at this
  simpa [ls] using this

/-- How many there are, bit by bit. -/
theorem ls_many : ∀ (n m : Nat), ((List.range n).filter fun i => m.testBit i).length = Lib.popAux n m
  | 0, m => by simp [Lib.popAux]
  | n + 1, m => by
    rw [List.range_succ_eq_map, List.filter_cons, Lib.popAux, ← ls_many n (m / 2), List.filter_map, Nat.testBit_zero]
    have e : (List.range n).filter ((fun i => m.testBit i) ∘ Nat.succ) = (List.range n).filter fun i => (m / 2).testBit i := by
      congr 1
      funext i
      exact Nat.testBit_add_one m i
    rw [e]
    by_cases h : m % 2 = 1
    · simp [h]; omega
    · have : m % 2 = 0 := by omega
      simp [this]

/-- The first one of a list, or 0. -/
def hd (xs : List Nat) : Nat := xs.headD 0
/-- The last one of a list, or 0. -/
def la (xs : List Nat) : Nat := xs.getLastD 0
/-- The error of a list that may be empty. -/
def er (xs : List Nat) : Int := if xs = [] then 12 else 0
/-- The cores above a number; if there are none, all. -/
def nx (m : Nat) (c : Int) : List Nat := if ((ls m).filter fun k : Nat => decide (c < (k : Int))) = [] then ls m else (ls m).filter fun k : Nat => decide (c < (k : Int))
/-- The set of the cores above a number. -/
def av (m : Nat) (c : Int) : Nat := if 64 ≤ c then 0 else nt m (up (c + 1))

theorem mem_ls (m i : Nat) : i ∈ ls m ↔ i < 64 ∧ m.testBit i = true := by
  unfold ls
  rw [List.mem_filter, List.mem_range]

theorem ls_zero : ls 0 = [] := by
  unfold ls
  rw [List.filter_eq_nil_iff]
  intro i _
  simp

theorem ls_nil (m : Nat) (hm : m < 18446744073709551616) (h : ls m = []) : m = 0 := by
  have := wl_ls m hm
  rw [h] at this
  exact this.symm

theorem bit_av (m : Nat) (c : Int) (i : Nat) (hm : m < 18446744073709551616) : (av m c).testBit i = (m.testBit i && decide (c < (i : Int))) := by
  unfold av
  by_cases hi : i < 64
  · split
    · rw [Nat.zero_testBit]
      have : ¬ c < (i : Int) := by omega
      simp [this]
    · rw [nt, Nat.testBit_and, bit_max _ _ (up_lt _), bit_up]
      by_cases h : c < (i : Int)
      · have e : decide ((i : Int) < c + 1 ∧ i < 64) = false := decide_eq_false (by omega)
        rw [e]
        simp [h, hi]
      · have e : decide ((i : Int) < c + 1 ∧ i < 64) = true := decide_eq_true (by omega)
        rw [e]
        simp [h]
  · have h1 := bit_hi hm (show 64 ≤ i by omega)
    split
    · simp [h1]
    · rw [nt, Nat.testBit_and, h1]
      simp

theorem av_lt (m : Nat) (c : Int) : av m c < 18446744073709551616 := by
  unfold av
  split
  · omega
  · exact nt_lt _ _

theorem ls_av (m : Nat) (c : Int) (hm : m < 18446744073709551616) : ls (av m c) = (ls m).filter fun k : Nat => decide (c < (k : Int)) := by
  unfold ls
  rw [List.filter_filter]
  congr 1
  funext i
  rw [bit_av m c i hm, Bool.and_comm]

/-- The list of a set that is not empty opens with its lowest core. -/
theorem hd_of (m k q : Nat) (hk : k < 64) (e : m = 2 ^ k * (2 * q + 1)) : hd (ls m) = k := by
  have b : ∀ i, m.testBit i = (decide (k ≤ i) && (2 * q + 1).testBit (i - k)) := by
    intro i
    rw [e, Nat.mul_comm, Nat.testBit_mul_two_pow]
  have f : (ls m).head? = some k := by
    unfold ls
    rw [List.head?_filter, List.find?_range_eq_some]
    refine ⟨?_, List.mem_range.2 hk, ?_⟩
    · rw [b, Nat.sub_self, Nat.testBit_zero]
      simp
    · intro j hj
      rw [b]
      have : ¬ k ≤ j := by omega
      simp [this]
  unfold hd
  rw [List.headD_eq_head?_getD, f]
  rfl

/-- The list of a set that is not empty closes with its greatest core. -/
theorem la_of : ∀ (n m k : Nat), 2 ^ k ≤ m → m < 2 ^ (k + 1) → m < 2 ^ n → ((List.range n).filter fun i => m.testBit i).getLast? = some k
  | 0, m, k, h1, _, h3 => by
    have := Nat.two_pow_pos k
    simp at h3
    omega
  | n + 1, m, k, h1, h2, h3 => by
    rw [List.range_succ, List.filter_append]
    by_cases h : m < 2 ^ n
    · have : m.testBit n = false := Nat.testBit_lt_two_pow h
      simp only [List.filter_cons, this, List.filter_nil]
      simp only [Bool.false_eq_true, if_false, List.append_nil]
      exact la_of n m k h1 h2 h
    · have e : k = n := by
        have a : k < n + 1 := (Nat.pow_lt_pow_iff_right (a := 2) (by omega)).1 (Nat.lt_of_le_of_lt h1 h3)
        have b : n < k + 1 := (Nat.pow_lt_pow_iff_right (a := 2) (by omega)).1 (Nat.lt_of_le_of_lt (by omega) h2)
        omega
      subst e
      have : m.testBit k = true := by
        rw [Nat.testBit_eq_decide_div_mod_eq]
        have d : m / 2 ^ k = 1 := by
          rw [Nat.div_eq_iff (Nat.two_pow_pos k)]
          rw [Nat.pow_succ] at h2
          omega
        rw [d]
        rfl
      simp [this]

theorem filter_or (p q : Nat → Bool) : ∀ xs : List Nat, (xs.filter fun i => p i || q i).length + (xs.filter fun i => p i && q i).length = (xs.filter p).length + (xs.filter q).length
  | [] => rfl
  | x :: r => by
    have ih := filter_or p q r
    simp only [List.filter_cons]
    cases p x <;> cases q x <;> simp <;> omega

theorem filter_not (p q : Nat → Bool) : ∀ xs : List Nat, (xs.filter fun i => p i && !q i).length + (xs.filter fun i => p i && q i).length = (xs.filter p).length
  | [] => rfl
  | x :: r => by
    have ih := filter_not p q r
    simp only [List.filter_cons]
    cases p x <;> cases q x <;> simp <;> omega

theorem many_or (a b : Nat) : (ls (a ||| b)).length + (ls (a &&& b)).length = (ls a).length + (ls b).length := by
  have h := filter_or (fun i => a.testBit i) (fun i => b.testBit i) (List.range 64)
  simp only [ls, Nat.testBit_or, Nat.testBit_and]
  exact h

theorem ls_nt (a b : Nat) (hb : b < 18446744073709551616) : ls (nt a b) = (List.range 64).filter fun i => a.testBit i && !b.testBit i := by
  unfold ls
  apply List.filter_congr
  intro i hi
  have := List.mem_range.1 hi
  rw [nt, Nat.testBit_and, bit_max _ _ hb]
  simp [this]

theorem many_not (a b : Nat) (hb : b < 18446744073709551616) : (ls (nt a b)).length + (ls (a &&& b)).length = (ls a).length := by
  have h := filter_not (fun i => a.testBit i) (fun i => b.testBit i) (List.range 64)
  rw [ls_nt a b hb]
  simp only [ls, Nat.testBit_and]
  exact h

theorem ls_le (a : Nat) : (ls a).length ≤ 64 := by
  have := List.length_filter_le (fun i => a.testBit i) (List.range 64)
  simpa [ls] using this

end Go.Proofs.Ytijicghdmlfheaa.Mm
