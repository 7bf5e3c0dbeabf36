/- The texts Mm Mp Mw Mq Mc Kj Ka Kb Kc Kd Kh Ki Kl of one layer, laid together. -/
import Derived.Test.YtfipiifickdeiaaGreatDoorRows
import Derived.Test.YtfipiifickdeiaaGreatDoorXa
import Derived.Lib.BitFns
import Derived.WalkKit
import Derived.ProofKit
import Derived.OpenShut
import Derived.Laws.Bits64b
import Derived.Laws.BitsAllLaws
import Derived.BigQuiet
namespace Go.Proofs.YtfipiifickdeiaaGreatDoor.Mm
theorem add_or : ∀ (n a b : Nat), a < 2 ^ n → a &&& b = 0 → a + b = a ||| b
  | 0, a, b, h, _ => by
    have : a = 0 := by simpa using h
    subst this
    simp
  | n + 1, a, b, h, hz => by
    rw [Nat.pow_succ] at h
    have h2 : a / 2 &&& b / 2 = 0 := by rw [← Nat.and_div_two, hz]
    have ih := add_or n (a / 2) (b / 2) (by omega) h2
    rw [← Nat.or_div_two] at ih
    have m1 : (a &&& b) % 2 = 1 ↔ a % 2 = 1 ∧ b % 2 = 1 := Nat.and_mod_two_eq_one
    have m2 : (a ||| b) % 2 = 1 ↔ a % 2 = 1 ∨ b % 2 = 1 := Nat.or_mod_two_eq_one
    rw [hz] at m1
    have : ¬(a % 2 = 1 ∧ b % 2 = 1) := by rw [← m1]; decide
    omega
/-- Is the core in the set? -/
def tb (m : Nat) (c : Int) : Bool := decide (0 ≤ c ∧ c < 64) && m.testBit c.toNat
/-- The set of one core; of what is no core, the empty set. -/
def bv (c : Int) : Nat := if 0 ≤ c ∧ c < 64 then 2 ^ c.toNat else 0
/-- A set, and some cores. -/
def wl (m : Nat) (xs : List Int) : Nat := xs.foldl (fun m c => m ||| bv c) m
/-- The first cores. -/
def up (n : Int) : Nat := if n < 1 then 0 else if 64 ≤ n then 18446744073709551615 else 2 ^ n.toNat - 1
/-- What is in the first one alone. -/
def nt (m o : Nat) : Nat := m &&& (18446744073709551615 - o)
/-- All cores of a set, rising. -/
def ls (m : Nat) : List Nat := (List.range 64).filter fun i => m.testBit i
theorem bv_lt (c : Int) : bv c < 18446744073709551616 := by
  unfold bv
  split
  · exact Nat.lt_of_lt_of_eq (Nat.pow_lt_pow_right (by omega) (show c.toNat < 64 by omega)) rfl
  · omega
theorem or_lt {a b : Nat} (ha : a < 18446744073709551616) (hb : b < 18446744073709551616) : a ||| b < 18446744073709551616 :=
  Nat.or_lt_two_pow (n := 64) ha hb
theorem and_lt {a b : Nat} (hb : b < 18446744073709551616) : a &&& b < 18446744073709551616 :=
  Nat.and_lt_two_pow (n := 64) a hb
theorem nt_lt (a b : Nat) : nt a b < 18446744073709551616 := and_lt (by omega)
theorem wl_lt (m : Nat) (xs : List Int) (h : m < 18446744073709551616) : wl m xs < 18446744073709551616 := by
  unfold wl
  induction xs generalizing m with
  | nil => exact h
  | cons c r ih => exact ih _ (or_lt h (bv_lt c))
theorem wl_snoc (m : Nat) (xs : List Int) (c : Int) : wl m (xs ++ [c]) = wl m xs ||| bv c := by
  unfold wl
  rw [List.foldl_append]
  rfl
theorem max_eq : 18446744073709551615 = 2 ^ 64 - 1 := by decide
theorem bit_max (o i : Nat) (ho : o < 18446744073709551616) : (18446744073709551615 - o).testBit i = (decide (i < 64) && !o.testBit i) := by
  have := Nat.testBit_two_pow_sub_succ (x := o) (n := 64) ho i
  rw [← this]
  congr 1
  omega
theorem bit_hi {m i : Nat} (hm : m < 18446744073709551616) (hi : 64 ≤ i) : m.testBit i = false := by
  have : 2 ^ 64 ≤ 2 ^ i := Nat.pow_le_pow_right (by decide) hi
  exact Nat.testBit_lt_two_pow (by omega)
theorem bit_bv (c : Int) (i : Nat) : (bv c).testBit i = decide (c = (i : Int) ∧ i < 64) := by
  unfold bv
  split
  · rw [Nat.testBit_two_pow]
    congr 1
    apply propext
    omega
  · simp
    omega
theorem bit_wl (m : Nat) (xs : List Int) (i : Nat) : (wl m xs).testBit i = (m.testBit i || (decide (i < 64) && decide ((i : Int) ∈ xs))) := by
  unfold wl
  induction xs generalizing m with
  | nil => simp
  | cons c r ih =>
    rw [List.foldl_cons, ih, Nat.testBit_or, bit_bv]
    by_cases h1 : c = (i : Int)
    · by_cases h2 : i < 64
      · simp [h1, h2]
      · simp [h1, h2]
    · have h3 : ¬ (i : Int) = c := fun e => h1 e.symm
      by_cases h2 : i < 64 <;> simp [h1, h2, h3]
theorem tb_nat (m k : Nat) (hk : k < 64) : tb m (k : Int) = m.testBit k := by
  unfold tb
  have : (0 : Int) ≤ k ∧ (k : Int) < 64 := by omega
  simp [this]
/-- The test of a bit by a mask. -/
theorem and_bv (m : Nat) (c : Int) : (m &&& bv c = 0) = (tb m c = false) := by
  apply propext
  constructor
  · intro h
    by_cases hc : 0 ≤ c ∧ c < 64
    · have := congrArg (fun x => x.testBit c.toNat) h
      simp only [Nat.testBit_and, bit_bv, Nat.zero_testBit] at this
      have e : decide (c = (c.toNat : Int) ∧ c.toNat < 64) = true := by simp; omega
      rw [e] at this
      unfold tb
      rw [Bool.and_true] at this
      rw [this, Bool.and_false]
    · unfold tb
      simp [hc]
  · intro h
    apply Nat.eq_of_testBit_eq
    intro i
    rw [Nat.testBit_and, bit_bv, Nat.zero_testBit]
    by_cases hc : c = (i : Int) ∧ i < 64
    · have : tb m c = m.testBit i := by rw [hc.1]; exact tb_nat m i hc.2
      rw [h] at this
      rw [← this]
      simp
    · simp [hc]
/-- One more, by a sum. -/
theorem or_bv_sum (m : Nat) (c : Int) (hm : m < 18446744073709551616) (h : tb m c = false) : m ||| bv c = m + bv c :=
  (add_or 64 m (bv c) hm ((and_bv m c).mpr h)).symm
theorem or_bv_same (m : Nat) (c : Int) (h : tb m c = true) : m ||| bv c = m := by
  apply Nat.eq_of_testBit_eq
  intro i
  rw [Nat.testBit_or, bit_bv]
  by_cases hc : c = (i : Int) ∧ i < 64
  · have : tb m c = m.testBit i := by rw [hc.1]; exact tb_nat m i hc.2
    rw [h] at this
    simp [← this]
  · simp [hc]
theorem bv_none (c : Int) (h : ¬(0 ≤ c ∧ c < 64)) : bv c = 0 := if_neg h
theorem bv_some (c : Int) (h : 0 ≤ c ∧ c < 64) : bv c = 2 ^ c.toNat := if_pos h
theorem tb_none (m : Nat) (c : Int) (h : ¬(0 ≤ c ∧ c < 64)) : tb m c = false := by unfold tb; simp [h]
theorem tb_some (m : Nat) (c : Int) (h : 0 ≤ c ∧ c < 64) : tb m c = m.testBit c.toNat := by unfold tb; simp [h]
theorem up_lt (n : Int) : up n < 18446744073709551616 := by
  unfold up
  split
  · omega
  · split
    · omega
    · have := Nat.pow_lt_pow_right (a := 2) (by omega) (show n.toNat < 64 by omega)
      omega
theorem bit_up (n : Int) (i : Nat) : (up n).testBit i = decide ((i : Int) < n ∧ i < 64) := by
  unfold up
  split
  · simp; omega
  · split
    · rw [max_eq, Nat.testBit_two_pow_sub_one]
      congr 1
      apply propext
      omega
    · rw [Nat.testBit_two_pow_sub_one]
      congr 1
      apply propext
      omega
/-- The first k + 1 cores are the first k, and one more. -/
theorem up_succ (k : Nat) (hk : k < 64) : up (k : Int) ||| bv k = up ((k + 1 : Nat) : Int) := by
  apply Nat.eq_of_testBit_eq
  intro i
  rw [Nat.testBit_or, bit_up, bit_up, bit_bv, ← Bool.decide_or]
  congr 1
  apply propext
  omega
/-- A set out of a list of its cores. -/
theorem wl_filter (p : Nat → Bool) (i : Nat) : (wl 0 (((List.range 64).filter p).map fun k : Nat => (k : Int))).testBit i = (decide (i < 64) && p i) := by
  rw [bit_wl]
  simp only [Nat.zero_testBit, Bool.false_or]
  by_cases hi : i < 64
  · simp only [hi, decide_true, Bool.true_and]
    rw [Bool.eq_iff_iff]
    constructor
    · intro h
      obtain ⟨k, hk, e⟩ := List.mem_map.1 (of_decide_eq_true h)
      obtain rfl : k = i := by omega
      exact (List.mem_filter.1 hk).2
    · intro h
      exact decide_eq_true (List.mem_map.2 ⟨i, List.mem_filter.2 ⟨List.mem_range.2 hi, h⟩, rfl⟩)
  · simp [hi]
theorem wl_and (a b : Nat) (ha : a < 18446744073709551616) : wl 0 (((List.range 64).filter fun i => a.testBit i && b.testBit i).map fun k : Nat => (k : Int)) = a &&& b := by
  apply Nat.eq_of_testBit_eq
  intro i
  rw [wl_filter, Nat.testBit_and]
  by_cases hi : i < 64
  · simp [hi]
  · have h1 := bit_hi ha (show 64 ≤ i by omega)
    simp [hi, h1]
theorem wl_nt (a b : Nat) (hb : b < 18446744073709551616) : wl 0 (((List.range 64).filter fun i => a.testBit i && !b.testBit i).map fun k : Nat => (k : Int)) = nt a b := by
  apply Nat.eq_of_testBit_eq
  intro i
  rw [wl_filter, nt, Nat.testBit_and, bit_max _ _ hb]
  by_cases hi : i < 64
  · simp [hi]
  · simp [hi]
theorem wl_ls (m : Nat) (hm : m < 18446744073709551616) : wl 0 ((ls m).map fun k : Nat => (k : Int)) = m := by
  have := wl_and m m hm
  rw [Nat.and_self] at this
  simpa [ls] using this
/-- How many there are, bit by bit. -/
theorem ls_many : ∀ (n m : Nat), ((List.range n).filter fun i => m.testBit i).length = Lib.popAux n m
  | 0, m => by simp [Lib.popAux]
  | n + 1, m => by
    rw [List.range_succ_eq_map, List.filter_cons, Lib.popAux, ← ls_many n (m / 2), List.filter_map, Nat.testBit_zero]
    have e : (List.range n).filter ((fun i => m.testBit i) ∘ Nat.succ) = (List.range n).filter fun i => (m / 2).testBit i := by
      congr 1
      funext i
      exact Nat.testBit_add_one m i
    rw [e]
    by_cases h : m % 2 = 1
    · simp [h]; omega
    · have : m % 2 = 0 := by omega
      simp [this]
/-- The first one of a list, or 0. -/
def hd (xs : List Nat) : Nat := xs.headD 0
/-- The error of a list that may be empty. -/
def er (xs : List Nat) : Int := if xs = [] then 12 else 0
/-- The cores above a number; if there are none, all. -/
def nx (m : Nat) (c : Int) : List Nat := if ((ls m).filter fun k : Nat => decide (c < (k : Int))) = [] then ls m else (ls m).filter fun k : Nat => decide (c < (k : Int))
/-- The set of the cores above a number. -/
def av (m : Nat) (c : Int) : Nat := if 64 ≤ c then 0 else nt m (up (c + 1))
theorem mem_ls (m i : Nat) : i ∈ ls m ↔ i < 64 ∧ m.testBit i = true := by
  unfold ls
  rw [List.mem_filter, List.mem_range]
theorem ls_zero : ls 0 = [] := by
  unfold ls
  rw [List.filter_eq_nil_iff]
  intro i _
  simp
theorem ls_nil (m : Nat) (hm : m < 18446744073709551616) (h : ls m = []) : m = 0 := by
  have := wl_ls m hm
  rw [h] at this
  exact this.symm
theorem bit_av (m : Nat) (c : Int) (i : Nat) (hm : m < 18446744073709551616) : (av m c).testBit i = (m.testBit i && decide (c < (i : Int))) := by
  unfold av
  by_cases hi : i < 64
  · split
    · rw [Nat.zero_testBit]
      have : ¬ c < (i : Int) := by omega
      simp [this]
    · rw [nt, Nat.testBit_and, bit_max _ _ (up_lt _), bit_up]
      by_cases h : c < (i : Int)
      · have e : decide ((i : Int) < c + 1 ∧ i < 64) = false := decide_eq_false (by omega)
        rw [e]
        simp [h, hi]
      · have e : decide ((i : Int) < c + 1 ∧ i < 64) = true := decide_eq_true (by omega)
        rw [e]
        simp [h]
  · have h1 := bit_hi hm (show 64 ≤ i by omega)
    split
    · simp [h1]
    · rw [nt, Nat.testBit_and, h1]
      simp
theorem av_lt (m : Nat) (c : Int) : av m c < 18446744073709551616 := by
  unfold av
  split
  · omega
  · exact nt_lt _ _
theorem ls_av (m : Nat) (c : Int) (hm : m < 18446744073709551616) : ls (av m c) = (ls m).filter fun k : Nat => decide (c < (k : Int)) := by
  unfold ls
  rw [List.filter_filter]
  congr 1
  funext i
  rw [bit_av m c i hm, Bool.and_comm]
/-- The list of a set that is not empty opens with its lowest core. -/
theorem hd_of (m k q : Nat) (hk : k < 64) (e : m = 2 ^ k * (2 * q + 1)) : hd (ls m) = k := by
  have b : ∀ i, m.testBit i = (decide (k ≤ i) && (2 * q + 1).testBit (i - k)) := by
    intro i
    rw [e, Nat.mul_comm, Nat.testBit_mul_two_pow]
  have f : (ls m).head? = some k := by
    unfold ls
    rw [List.head?_filter, List.find?_range_eq_some]
    refine ⟨?_, List.mem_range.2 hk, ?_⟩
    · rw [b, Nat.sub_self, Nat.testBit_zero]
      simp
    · intro j hj
      rw [b]
      have : ¬ k ≤ j := by omega
      simp [this]
  unfold hd
  rw [List.headD_eq_head?_getD, f]
  rfl
theorem ls_le (a : Nat) : (ls a).length ≤ 64 := by
  have := List.length_filter_le (fun i => a.testBit i) (List.range 64)
  simpa [ls] using this
end Go.Proofs.YtfipiifickdeiaaGreatDoor.Mm
namespace Go.Proofs.YtfipiifickdeiaaGreatDoor.Mm
set_option linter.unusedVariables false
/-- n bytes, all alike. -/
def rep : Nat → Nat → Nat
  | 0, _ => 0
  | n + 1, c => c + 256 * rep n c
/-- A function of a byte, at each of n bytes. -/
def mapF (g : Nat → Nat) : Nat → Nat → Nat
  | 0, _ => 0
  | n + 1, x => g (x % 256) + 256 * mapF g n (x / 256)
theorem land_step (a b c d : Nat) (ha : a < 256) (hc : c < 256) : (a + 256 * b) &&& (c + 256 * d) = (a &&& c) + 256 * (b &&& d) := by
  have hl : a &&& c < 2 ^ 8 := Nat.and_lt_two_pow a hc
  apply Nat.eq_of_testBit_eq
  intro i
  have e1 := Nat.testBit_two_pow_mul_add b (show a < 2 ^ 8 from ha) i
  have e2 := Nat.testBit_two_pow_mul_add d (show c < 2 ^ 8 from hc) i
  have e3 := Nat.testBit_two_pow_mul_add (b &&& d) hl i
  rw [Nat.add_comm a, Nat.add_comm c, Nat.add_comm (a &&& c), Nat.testBit_and]
  rw [show (256 : Nat) = 2 ^ 8 from rfl, e1, e2, e3]
  split <;> simp [Nat.testBit_and]
def g1 (b : Nat) : Nat := (b / 2 &&& 85) + (b &&& 85)
def g2 (b : Nat) : Nat := (b / 4 &&& 51) + (b &&& 51)
theorem g1_cut : ∀ b : Fin 256, ∀ t : Fin 2, (b.val / 2 + 128 * t.val) &&& 85 = b.val / 2 &&& 85 := by decide +kernel
theorem g2_cut : ∀ b : Fin 256, ∀ t : Fin 4, (b.val / 4 + 64 * t.val) &&& 51 = b.val / 4 &&& 51 := by decide +kernel
theorem g1_lt : ∀ b : Fin 256, g1 b.val < 256 := by decide +kernel
theorem g12 : ∀ b : Fin 256, g2 (g1 b.val) % 16 ≤ 4 ∧ g2 (g1 b.val) / 16 ≤ 4 ∧ g2 (g1 b.val) / 16 + g2 (g1 b.val) % 16 = Lib.popAux 8 b.val := by decide +kernel
theorem and15 : ∀ b : Fin 256, b.val &&& 15 = b.val % 16 := by decide +kernel
theorem step1 : ∀ (n x : Nat), x < 256 ^ n → (x / 2 &&& rep n 85) + (x &&& rep n 85) = mapF g1 n x
  | 0, x, _ => by simp [rep, mapF]
  | n + 1, x, h => by
    rw [Nat.pow_succ] at h
    have ih := step1 n (x / 256) (by omega)
    have e1 : x / 2 = (x % 256 / 2 + 128 * (x / 256 % 2)) + 256 * (x / 256 / 2) := by omega
    have e2 : x = x % 256 + 256 * (x / 256) := by omega
    have l1 := land_step (x % 256 / 2 + 128 * (x / 256 % 2)) (x / 256 / 2) 85 (rep n 85) (by omega) (by omega)
    have l2 := land_step (x % 256) (x / 256) 85 (rep n 85) (by omega) (by omega)
    have c := g1_cut ⟨x % 256, by omega⟩ ⟨x / 256 % 2, by omega⟩
    simp only at c
    rw [← e1, c] at l1
    rw [← e2] at l2
    simp only [rep, mapF]
    rw [l1, l2, ← ih, g1]
    omega
theorem step2 : ∀ (n x : Nat), x < 256 ^ n → (x / 4 &&& rep n 51) + (x &&& rep n 51) = mapF g2 n x
  | 0, x, _ => by simp [rep, mapF]
  | n + 1, x, h => by
    rw [Nat.pow_succ] at h
    have ih := step2 n (x / 256) (by omega)
    have e1 : x / 4 = (x % 256 / 4 + 64 * (x / 256 % 4)) + 256 * (x / 256 / 4) := by omega
    have e2 : x = x % 256 + 256 * (x / 256) := by omega
    have l1 := land_step (x % 256 / 4 + 64 * (x / 256 % 4)) (x / 256 / 4) 51 (rep n 51) (by omega) (by omega)
    have l2 := land_step (x % 256) (x / 256) 51 (rep n 51) (by omega) (by omega)
    have c := g2_cut ⟨x % 256, by omega⟩ ⟨x / 256 % 4, by omega⟩
    simp only at c
    rw [← e1, c] at l1
    rw [← e2] at l2
    simp only [rep, mapF]
    rw [l1, l2, ← ih, g2]
    omega
theorem mapF_lt (g : Nat → Nat) (hg : ∀ b, b < 256 → g b < 256) : ∀ (n x : Nat), mapF g n x < 256 ^ n
  | 0, x => by simp [mapF]
  | n + 1, x => by
    have := mapF_lt g hg n (x / 256)
    have := hg (x % 256) (by omega)
    rw [mapF, Nat.pow_succ]
    omega
theorem mapF_comp (g h : Nat → Nat) (hg : ∀ b, b < 256 → g b < 256) : ∀ (n x : Nat), mapF h n (mapF g n x) = mapF (fun b => h (g b)) n x
  | 0, x => by simp [mapF]
  | n + 1, x => by
    have b := hg (x % 256) (by omega)
    simp only [mapF]
    rw [show (g (x % 256) + 256 * mapF g n (x / 256)) % 256 = g (x % 256) by omega, show (g (x % 256) + 256 * mapF g n (x / 256)) / 256 = mapF g n (x / 256) by omega, mapF_comp g h hg n (x / 256)]
theorem low16 (n x : Nat) : mapF (fun b => g2 (g1 b)) n x % 16 ≤ 4 := by
  cases n with
  | zero => simp [mapF]
  | succ n =>
    have := (g12 ⟨x % 256, by omega⟩).1
    simp only at this
    simp only [mapF]
    omega
theorem step3 : ∀ (n x : Nat), (mapF (fun b => g2 (g1 b)) n x / 16 + mapF (fun b => g2 (g1 b)) n x) &&& rep n 15 = mapF (Lib.popAux 8) n x
  | 0, x => by simp [rep, mapF]
  | n + 1, x => by
    have ih := step3 n (x / 256)
    have lo := low16 n (x / 256)
    obtain ⟨a, b, c⟩ := g12 ⟨x % 256, by omega⟩
    simp only at a b c
    simp only [rep, mapF]
    generalize g2 (g1 (x % 256)) = h at *
    generalize mapF (fun b => g2 (g1 b)) n (x / 256) = Z at *
    have e : (h + 256 * Z) / 16 + (h + 256 * Z) = (h / 16 + h + 16 * (Z % 16)) + 256 * (Z / 16 + Z) := by omega
    rw [e, land_step _ _ _ _ (by omega) (by omega), ih]
    have f := and15 ⟨h / 16 + h + 16 * (Z % 16), by omega⟩
    simp only at f
    rw [f, ← c]
    omega
theorem pop_lt : ∀ b : Fin 256, Lib.popAux 8 b.val ≤ 8 := by decide +kernel
theorem popAux_add : ∀ (j k x : Nat), Lib.popAux (j + k) x = Lib.popAux j (x % 2 ^ j) + Lib.popAux k (x / 2 ^ j)
  | 0, k, x => by simp [Lib.popAux]
  | j + 1, k, x => by
    have e1 : x % 2 ^ (j + 1) % 2 = x % 2 := by rw [Nat.pow_succ, Nat.mul_comm, Nat.mod_mul_right_mod]
    have e2 : x % 2 ^ (j + 1) / 2 = x / 2 % 2 ^ j := by rw [Nat.pow_succ, Nat.mul_comm, Nat.mod_mul_right_div_self]
    have e3 : x / 2 ^ (j + 1) = x / 2 / 2 ^ j := by rw [Nat.pow_succ, Nat.mul_comm, Nat.div_div_eq_div_mul]
    rw [show j + 1 + k = j + k + 1 by omega, Lib.popAux, popAux_add j k (x / 2), Lib.popAux, e1, e2, e3]
    omega
theorem pop_byte (k x : Nat) : Lib.popAux (8 + k) x = Lib.popAux 8 (x % 256) + Lib.popAux k (x / 256) := popAux_add 8 k x
theorem pop_last (y : Nat) : Lib.popAux 8 y = Lib.popAux 8 (y % 256) := by
  have h : Lib.popAux 8 y = Lib.popAux 8 (y % 256) + Lib.popAux 0 (y / 256) := pop_byte 0 y
  rw [show Lib.popAux 0 (y / 256) = 0 from rfl, Nat.add_zero] at h
  exact h
theorem pop_bytes (x : Nat) : Lib.popAux 64 x = Lib.popAux 8 (x % 256) + (Lib.popAux 8 (x / 256 % 256) + (Lib.popAux 8 (x / 256 / 256 % 256) + (Lib.popAux 8 (x / 256 / 256 / 256 % 256) + (Lib.popAux 8 (x / 256 / 256 / 256 / 256 % 256) + (Lib.popAux 8 (x / 256 / 256 / 256 / 256 / 256 % 256) + (Lib.popAux 8 (x / 256 / 256 / 256 / 256 / 256 / 256 % 256) + Lib.popAux 8 (x / 256 / 256 / 256 / 256 / 256 / 256 / 256 % 256))))))) := by
  rw [show (64 : Nat) = 8 + 56 from rfl, pop_byte, show (56 : Nat) = 8 + 48 from rfl, pop_byte, show (48 : Nat) = 8 + 40 from rfl, pop_byte, show (40 : Nat) = 8 + 32 from rfl, pop_byte, show (32 : Nat) = 8 + 24 from rfl, pop_byte, show (24 : Nat) = 8 + 16 from rfl, pop_byte, show (16 : Nat) = 8 + 8 from rfl, pop_byte, ← pop_last (x / 256 / 256 / 256 / 256 / 256 / 256 / 256)]
theorem hi4 (A B : Nat) (h : A < 4294967296) : (A + 4294967296 * B) / 4294967296 = B := by omega
theorem low7 (S T : Nat) (h : S ≤ 64) (g : T < 36028797018963968) : S + 256 * T < 9223372036854775808 ∧ (S + 256 * T) % 128 = S := by omega
theorem cut8 (c0 c1 c2 c3 c4 c5 c6 c7 : Nat) : c0 + 256 * (c1 + 256 * (c2 + 256 * (c3 + 256 * (c4 + 256 * (c5 + 256 * (c6 + 256 * c7)))))) = (c0 + 256 * (c1 + 256 * (c2 + 256 * c3))) + 4294967296 * (c4 + 256 * (c5 + 256 * (c6 + 256 * c7))) := by omega
theorem lt4 (c0 c1 c2 c3 : Nat) (h0 : c0 ≤ 32) (h1 : c1 ≤ 32) (h2 : c2 ≤ 32) (h3 : c3 ≤ 32) : c0 + 256 * (c1 + 256 * (c2 + 256 * c3)) < 4294967296 := by omega
theorem join8 (c0 c4 X Y B : Nat) : c0 + 256 * X + 4294967296 * B + (c4 + 256 * Y) = (c0 + c4) + 256 * (X + Y + 16777216 * B) := by omega
theorem lt3 (c1 c2 c3 : Nat) (h1 : c1 ≤ 32) (h2 : c2 ≤ 32) (h3 : c3 ≤ 32) : c1 + 256 * (c2 + 256 * c3) ≤ 2105376 := by omega
theorem ltT (X Y B : Nat) (hX : X ≤ 2105376) (hY : Y ≤ 2105376) (hB : B < 4294967296) (hB' : B ≤ 538976288) : X + Y + 16777216 * B < 36028797018963968 := by omega
theorem le4 (c0 c1 c2 c3 : Nat) (h0 : c0 ≤ 32) (h1 : c1 ≤ 32) (h2 : c2 ≤ 32) (h3 : c3 ≤ 32) : c0 + 256 * (c1 + 256 * (c2 + 256 * c3)) ≤ 538976288 := by omega
theorem tail8 (c0 c1 c2 c3 c4 c5 c6 c7 s5 s6 : Nat) (h0 : c0 ≤ 32) (h1 : c1 ≤ 32) (h2 : c2 ≤ 32) (h3 : c3 ≤ 32) (h4 : c4 ≤ 32) (h5 : c5 ≤ 32) (h6 : c6 ≤ 32) (h7 : c7 ≤ 32)
    (e5 : s5 = c0 + 256 * (c1 + 256 * (c2 + 256 * (c3 + 256 * (c4 + 256 * (c5 + 256 * (c6 + 256 * c7))))))) (e6 : s6 = s5 + s5 / 4294967296) : s6 < 9223372036854775808 ∧ s6 % 128 = c0 + c4 := by
  rw [cut8] at e5
  have lA := lt4 c0 c1 c2 c3 h0 h1 h2 h3
  have lB := lt4 c4 c5 c6 c7 h4 h5 h6 h7
  have lB' := le4 c4 c5 c6 c7 h4 h5 h6 h7
  have d := hi4 _ (c4 + 256 * (c5 + 256 * (c6 + 256 * c7))) lA
  rw [e5, d] at e6
  have x := lt3 c1 c2 c3 h1 h2 h3
  have y := lt3 c5 c6 c7 h5 h6 h7
  clear d e5
  rw [e6]
  generalize c1 + 256 * (c2 + 256 * c3) = X at *
  generalize c5 + 256 * (c6 + 256 * c7) = Y at *
  rw [join8 c0 c4 X Y]
  exact low7 _ _ (by omega) (ltT X Y _ x y lB lB')
theorem sum4 (p0 p1 p2 p3 p4 p5 p6 p7 s3 s4 : Nat) (h0 : p0 ≤ 8) (h1 : p1 ≤ 8) (h2 : p2 ≤ 8) (h3 : p3 ≤ 8) (h4 : p4 ≤ 8) (h5 : p5 ≤ 8) (h6 : p6 ≤ 8) (h7 : p7 ≤ 8)
    (e3 : s3 = p0 + 256 * (p1 + 256 * (p2 + 256 * (p3 + 256 * (p4 + 256 * (p5 + 256 * (p6 + 256 * (p7 + 256 * 0)))))))) (e4 : s4 = s3 + s3 / 256) :
    s4 = (p0 + p1) + 256 * ((p1 + p2) + 256 * ((p2 + p3) + 256 * ((p3 + p4) + 256 * ((p4 + p5) + 256 * ((p5 + p6) + 256 * ((p6 + p7) + 256 * p7)))))) := by omega
theorem sum5 (p0 p1 p2 p3 p4 p5 p6 p7 s4 s5 : Nat) (h0 : p0 ≤ 16) (h1 : p1 ≤ 16) (h2 : p2 ≤ 16) (h3 : p3 ≤ 16) (h4 : p4 ≤ 16) (h5 : p5 ≤ 16) (h6 : p6 ≤ 16) (h7 : p7 ≤ 16)
    (e4 : s4 = p0 + 256 * (p1 + 256 * (p2 + 256 * (p3 + 256 * (p4 + 256 * (p5 + 256 * (p6 + 256 * p7))))))) (e5 : s5 = s4 + s4 / 65536) :
    s5 = (p0 + p2) + 256 * ((p1 + p3) + 256 * ((p2 + p4) + 256 * ((p3 + p5) + 256 * ((p4 + p6) + 256 * ((p5 + p7) + 256 * (p6 + 256 * p7)))))) := by omega
theorem sum8 (p0 p1 p2 p3 p4 p5 p6 p7 s3 s4 s5 s6 : Nat) (h0 : p0 ≤ 8) (h1 : p1 ≤ 8) (h2 : p2 ≤ 8) (h3 : p3 ≤ 8) (h4 : p4 ≤ 8) (h5 : p5 ≤ 8) (h6 : p6 ≤ 8) (h7 : p7 ≤ 8)
    (e3 : s3 = p0 + 256 * (p1 + 256 * (p2 + 256 * (p3 + 256 * (p4 + 256 * (p5 + 256 * (p6 + 256 * (p7 + 256 * 0)))))))) (e4 : s4 = s3 + s3 / 256) (e5 : s5 = s4 + s4 / 65536) (e6 : s6 = s5 + s5 / 4294967296) :
    s6 < 9223372036854775808 ∧ s6 % 128 = p0 + (p1 + (p2 + (p3 + (p4 + (p5 + (p6 + p7)))))) := by
  have f4 := sum4 p0 p1 p2 p3 p4 p5 p6 p7 s3 s4 h0 h1 h2 h3 h4 h5 h6 h7 e3 e4
  clear e3 e4
  have f5 := sum5 (p0 + p1) (p1 + p2) (p2 + p3) (p3 + p4) (p4 + p5) (p5 + p6) (p6 + p7) p7 s4 s5 (by omega) (by omega) (by omega) (by omega) (by omega) (by omega) (by omega) (by omega) f4 e5
  clear f4 e5
  have f6 := tail8 _ _ _ _ _ _ _ _ s5 s6 (by omega) (by omega) (by omega) (by omega) (by omega) (by omega) (by omega) (by omega) f5 e6
  clear f5 e6
  refine ⟨f6.1, f6.2.trans ?_⟩
  clear f6
  omega
theorem mapF_le (g : Nat → Nat) (c : Nat) (hg : ∀ b, b < 256 → g b ≤ c) : ∀ (n x : Nat), mapF g n x ≤ rep n c
  | 0, x => by simp [mapF]
  | n + 1, x => by
    have := mapF_le g c hg n (x / 256)
    have := hg (x % 256) (by omega)
    rw [mapF, rep]
    omega
theorem g12_le (b : Nat) (h : b < 256) : g2 (g1 b) ≤ 68 := by
  have := g12 ⟨b, h⟩
  simp only at this
  omega
/-- How many bits of a word are 1, by sums of neighbours: no sum of it wraps. -/
theorem pop_word (x s1 s2 s3 s4 s5 s6 : Nat) (hx : x < 18446744073709551616)
    (e1 : s1 = (x / 2 &&& 6148914691236517205) + (x &&& 6148914691236517205)) (e2 : s2 = (s1 / 4 &&& 3689348814741910323) + (s1 &&& 3689348814741910323))
    (e3 : s3 = (s2 / 16 + s2) &&& 1085102592571150095) (e4 : s4 = s3 + s3 / 256) (e5 : s5 = s4 + s4 / 65536) (e6 : s6 = s5 + s5 / 4294967296) :
    s1 < 18446744073709551616 ∧ s2 ≤ 4919131752989213764 ∧ s3 ≤ 1085102592571150095 ∧ s6 < 9223372036854775808 ∧ s6 % 128 = Lib.popAux 64 x := by
  have hg1 : ∀ b, b < 256 → g1 b < 256 := fun b h => g1_lt ⟨b, h⟩
  have f1 : s1 = mapF g1 8 x := by rw [e1]; exact step1 8 x hx
  have l1 : s1 < 18446744073709551616 := by rw [f1]; exact mapF_lt g1 hg1 8 x
  have f2 : s2 = mapF (fun b => g2 (g1 b)) 8 x := by
    have := step2 8 s1 l1
    rw [e2, ← mapF_comp g1 g2 hg1 8 x, ← f1]
    exact this
  have l2 : s2 ≤ 4919131752989213764 := by rw [f2]; exact mapF_le _ 68 g12_le 8 x
  have f3 : s3 = mapF (Lib.popAux 8) 8 x := by rw [e3, f2]; exact step3 8 x
  have l3 : s3 ≤ 1085102592571150095 := by rw [e3]; exact Nat.and_le_right
  have p := fun y : Nat => pop_lt ⟨y % 256, by omega⟩
  simp only at p
  have f := sum8 _ _ _ _ _ _ _ _ s3 s4 s5 s6 (p x) (p (x / 256)) (p (x / 256 / 256)) (p (x / 256 / 256 / 256)) (p (x / 256 / 256 / 256 / 256)) (p (x / 256 / 256 / 256 / 256 / 256)) (p (x / 256 / 256 / 256 / 256 / 256 / 256)) (p (x / 256 / 256 / 256 / 256 / 256 / 256 / 256)) f3 e4 e5 e6
  exact ⟨l1, l2, l3, f.1, f.2.trans (pop_bytes x).symm⟩
/-- A number that is not 0 is a power of 2 times an odd number. -/
theorem odd_spec : ∀ (f x : Nat), 0 < x → x < 2 ^ f → ∃ q, x = 2 ^ Lib.ntzAux f x * (2 * q + 1) ∧ Lib.ntzAux f x < f
  | 0, x, h0, h => by simp at h; omega
  | f + 1, x, h0, h => by
    rw [Nat.pow_succ] at h
    simp only [Lib.ntzAux]
    split
    · exact ⟨x / 2, by simp; omega, by omega⟩
    · obtain ⟨q, e, l⟩ := odd_spec f (x / 2) (by omega) (by omega)
      refine ⟨q, ?_, by omega⟩
      rw [Nat.add_comm 1, Nat.pow_succ, Nat.mul_right_comm, ← e]
      omega
/-- A word and its opposite have the lowest bit in common, and no other one. -/
theorem low_bit (x k q : Nat) (hk : k < 64) (e : x = 2 ^ k * (2 * q + 1)) (hx : x < 18446744073709551616) : x &&& (18446744073709551616 - x) = 2 ^ k := by
  obtain ⟨n, hn⟩ : ∃ n, 63 - k = n := ⟨_, rfl⟩
  have p : 18446744073709551616 = 2 ^ k * (2 * 2 ^ n) := by
    rw [← Nat.pow_succ', ← Nat.pow_add, show k + (n + 1) = 64 by omega]
  have pk : 0 < 2 ^ k := Nat.two_pow_pos k
  have hq : q < 2 ^ n := by
    rw [e, p] at hx
    have := Nat.lt_of_mul_lt_mul_left hx
    omega
  obtain ⟨r, hr⟩ : ∃ r, 2 ^ n - (q + 1) = r := ⟨_, rfl⟩
  have d : 18446744073709551616 - x = 2 ^ k * (2 * r + 1) := by
    rw [e, p, ← Nat.mul_sub]
    congr 1
    omega
  have z : q &&& r = 0 := by
    apply Nat.eq_of_testBit_eq
    intro i
    rw [Nat.testBit_and, ← hr, Nat.testBit_two_pow_sub_succ hq, Nat.zero_testBit]
    cases q.testBit i <;> simp
  have o : (2 * q + 1) &&& (2 * r + 1) = 1 := by
    have a : ((2 * q + 1) &&& (2 * r + 1)) / 2 = 0 := by
      rw [Nat.and_div_two, show (2 * q + 1) / 2 = q by omega, show (2 * r + 1) / 2 = r by omega, z]
    have b : ((2 * q + 1) &&& (2 * r + 1)) % 2 = 1 := Nat.and_mod_two_eq_one.2 ⟨by omega, by omega⟩
    omega
  rw [d]
  conv => lhs; rw [e]
  apply Nat.eq_of_testBit_eq
  intro i
  rw [Nat.testBit_and, Nat.mul_comm (2 ^ k), Nat.mul_comm (2 ^ k), Nat.testBit_mul_two_pow, Nat.testBit_mul_two_pow, Nat.testBit_two_pow]
  by_cases h : k ≤ i
  · have := congrArg (fun y => y.testBit (i - k)) o
    simp only [Nat.testBit_and] at this
    simp only [h, decide_true, Bool.true_and, this]
    rw [show (1 : Nat) = 2 ^ 0 from rfl, Nat.testBit_two_pow]
    congr 1
    apply propext
    omega
  · have : ¬ k = i := by omega
    simp [h, this]
/-- The table by which a word's lowest bit is found. -/
def tab : List Nat := [0, 1, 56, 2, 57, 49, 28, 3, 61, 58, 42, 50, 38, 29, 17, 4, 62, 47, 59, 36, 45, 43, 51, 22, 53, 39, 33, 30, 24, 18, 12, 5, 63, 55, 48, 27, 60, 41, 37, 16, 46, 35, 44, 21, 52, 32, 23, 11, 54, 26, 40, 15, 34, 20, 31, 10, 25, 14, 19, 9, 13, 8, 7, 6]
theorem tab_at : ∀ k : Fin 64, tab.getD (2 ^ k.val * 285870213051353865 % 18446744073709551616 / 288230376151711744) 0 = k.val := by decide +kernel
end Go.Proofs.YtfipiifickdeiaaGreatDoor.Mm
namespace Go.Proofs.YtfipiifickdeiaaGreatDoor
open Go.ChangeShapes Go.WideShapes Go.ChangeAt Go.RowKit
open Mm
theorem wrapN (a : Nat) (ha : a < 18446744073709551616) : IntKind.u64.wrap (a : Int) = (a : Int) := by rw [IntKind.wrap_u64]; omega
theorem ret_int {k : IntKind} {a b : Int} (h : a = b) : Ending.returned (.int k a) = .returned (.int k b) := by rw [h]
theorem ret_bool {a b : Bool} (h : a = b) : Ending.returned (.bool a) = .returned (.bool b) := by rw [h]
/-- The table of the lowest bits reads as the program's text lays it. -/
def Tab (w : World) : Prop := ∀ i, i < 64 → w.cell? ⟨0, i, none⟩ = some (.int .u8 (tab.getD i 0 : Nat))
end Go.Proofs.YtfipiifickdeiaaGreatDoor
namespace Go.Proofs.YtfipiifickdeiaaGreatDoor
open Go.ChangeShapes Go.WideShapes Go.ChangeAt Go.RowKit
open Mm
theorem and_half (x c m : Nat) (hx : x < 18446744073709551616) (hm : m < 18446744073709551616) : bits .and .u64 ((x : Int) / (c : Int)) (m : Int) = ((x / c &&& m : Nat) : Int) := by
  rw [← Int.natCast_ediv]
  exact bits_and_u64_nat (x / c) m (Nat.lt_of_le_of_lt (Nat.div_le_self _ _) hx) hm
theorem and127 (s : Nat) (h : s < 9223372036854775808) : bits .and .i64 (s : Int) 127 = ((s % 128 : Nat) : Int) := by
  have e : s &&& 127 = s % 128 := Nat.and_two_pow_sub_one_eq_mod s 7
  have h1 : (BitVec.ofInt 64 (s : Int)).toNat = s := by
    rw [BitVec.ofInt_natCast, BitVec.toNat_ofNat]; exact Nat.mod_eq_of_lt (by omega)
  have h2 : (BitVec.ofInt 64 (127 : Int)).toNat = 127 := by decide
  show IntKind.i64.wrap ((BitVec.ofInt 64 (s : Int) &&& BitVec.ofInt 64 (127 : Int)).toNat : Int) = _
  rw [BitVec.toNat_and, h1, h2, e]
  simp [IntKind.wrap, IntKind.bits, IntKind.signed]
  omega
set_option maxHeartbeats 400000 in
theorem ones_core (x a1 a2 s1 b1 b2 s2 t s3 s4 s5 s6 r : Nat) (w : World)
    (h1 : bits .and .u64 ((x : Int) / 2) 6148914691236517205 = (a1 : Int)) (h2 : bits .and .u64 (x : Int) 6148914691236517205 = (a2 : Int)) (h3 : IntKind.u64.wrap ((a1 : Int) + a2) = (s1 : Int))
    (h4 : bits .and .u64 ((s1 : Int) / 4) 3689348814741910323 = (b1 : Int)) (h5 : bits .and .u64 (s1 : Int) 3689348814741910323 = (b2 : Int)) (h6 : IntKind.u64.wrap ((b1 : Int) + b2) = (s2 : Int))
    (h7 : IntKind.u64.wrap ((s2 : Int) / 16 + s2) = (t : Int)) (h8 : bits .and .u64 (t : Int) 1085102592571150095 = (s3 : Int))
    (h9 : IntKind.u64.wrap ((s3 : Int) + s3 / 256) = (s4 : Int)) (h10 : IntKind.u64.wrap ((s4 : Int) + s4 / 65536) = (s5 : Int)) (h11 : IntKind.u64.wrap ((s5 : Int) + s5 / 4294967296) = (s6 : Int))
    (h12 : (s6 : Int) ≤ 9223372036854775807) (h13 : bits .and .i64 (s6 : Int) 127 = (r : Int)) :
    Calls Tryz.prog 304 #[.int .u64 x] w fun e w' => e = .returned (.int .i64 r) ∧ w' = w := by
  go_enter Tryz.func304, Tryz.ntmps304
  go_wp2
  go_ret
  exact ⟨rfl, rfl⟩
/-- bits.OnesCount64: how many bits are 1. -/
theorem ones_any (x : Nat) (w : World) (hx : x < 18446744073709551616) :
    Calls Tryz.prog 304 #[.int .u64 x] w fun e w' => e = .returned (.int .i64 ((ls x).length : Nat)) ∧ w' = w := by
  obtain ⟨s1, e1⟩ : ∃ s, s = (x / 2 &&& 6148914691236517205) + (x &&& 6148914691236517205) := ⟨_, rfl⟩
  obtain ⟨s2, e2⟩ : ∃ s, s = (s1 / 4 &&& 3689348814741910323) + (s1 &&& 3689348814741910323) := ⟨_, rfl⟩
  obtain ⟨s3, e3⟩ : ∃ s, s = (s2 / 16 + s2) &&& 1085102592571150095 := ⟨_, rfl⟩
  obtain ⟨s4, e4⟩ : ∃ s, s = s3 + s3 / 256 := ⟨_, rfl⟩
  obtain ⟨s5, e5⟩ : ∃ s, s = s4 + s4 / 65536 := ⟨_, rfl⟩
  obtain ⟨s6, e6⟩ : ∃ s, s = s5 + s5 / 4294967296 := ⟨_, rfl⟩
  obtain ⟨l1, l2, l3, l6, hr⟩ := pop_word x s1 s2 s3 s4 s5 s6 hx e1 e2 e3 e4 e5 e6
  rw [show ls x = (List.range 64).filter fun i => x.testBit i from rfl, ls_many, ← hr]
  refine ones_core x (x / 2 &&& 6148914691236517205) (x &&& 6148914691236517205) s1 (s1 / 4 &&& 3689348814741910323) (s1 &&& 3689348814741910323) s2 (s2 / 16 + s2) s3 s4 s5 s6 (s6 % 128) w
    (and_half x 2 6148914691236517205 hx (by omega)) (bits_and_u64_nat x 6148914691236517205 hx (by omega)) ?_ (and_half s1 4 3689348814741910323 l1 (by omega)) (bits_and_u64_nat s1 3689348814741910323 l1 (by omega)) ?_ ?_ ?_ ?_ ?_ ?_ (by omega) (and127 s6 l6)
  · rw [← Int.natCast_add, ← e1]; exact wrapN s1 l1
  · rw [← Int.natCast_add, ← e2]; exact wrapN s2 (by omega)
  · rw [IntKind.wrap_u64]; omega
  · rw [e3]; exact bits_and_u64_nat (s2 / 16 + s2) 1085102592571150095 (by omega) (by omega)
  · rw [IntKind.wrap_u64]; omega
  · rw [IntKind.wrap_u64]; omega
  · rw [IntKind.wrap_u64]; omega
theorem Tab.keep {B : Nat} {S : List Nat} {w w' : World} (ht : Tab w) (hB : 0 < B) (hS : 0 ∉ S) (h : Fr B S w w') : Tab w' := by
  intro i hi
  rw [h.cell (p := ⟨0, i, none⟩) hB hS]
  exact ht i hi
theorem Tab.heap {w w1 : World} (ht : Tab w) (e : w1.heap = w.heap) : Tab w1 := by
  intro i hi
  rw [← ht i hi]
  unfold World.cell?
  rw [e]
end Go.Proofs.YtfipiifickdeiaaGreatDoor
namespace Go.Proofs.YtfipiifickdeiaaGreatDoor
open Go.ChangeShapes Go.WideShapes Go.ChangeAt Go.RowKit
open Mm
set_option maxHeartbeats 400000 in
theorem tz_core (x p m i k : Nat) (w : World) (h0 : (1 : Int) ≤ x) (h1 : bits .and .u64 (x : Int) (IntKind.u64.wrap (-(x : Int))) = (p : Int)) (h2 : IntKind.u64.wrap ((p : Int) * 285870213051353865) = (m : Int))
    (h3 : (m : Int) / 288230376151711744 = (i : Int)) (h4 : (i : Int) < 64) (h5 : w.cell? ⟨0, i, none⟩ = some (.int .u8 (k : Int))) (h6 : (k : Int) ≤ 63) :
    Calls Tryz.prog 200 #[.int .u64 x] w fun e w' => e = .returned (.int .i64 k) ∧ w' = w := by
  go_enter Tryz.func200, Tryz.ntmps200
  go_wp2
  go_ret
  exact ⟨rfl, rfl⟩
/-- bits.TrailingZeros64: the lowest bit that is 1. -/
theorem tz_any (x : Nat) (w : World) (h0 : 0 < x) (hx : x < 18446744073709551616) (ht : Tab w) :
    Calls Tryz.prog 200 #[.int .u64 x] w fun e w' => e = .returned (.int .i64 (Lib.ntzAux 64 x : Nat)) ∧ w' = w := by
  obtain ⟨q, e, hk⟩ := odd_spec 64 x h0 hx
  generalize Lib.ntzAux 64 x = k at *
  have lb := low_bit x k q hk e hx
  have lt : 2 ^ k * 285870213051353865 % 18446744073709551616 / 288230376151711744 < 64 := by omega
  have ta := tab_at ⟨k, hk⟩
  simp only at ta
  have hc := ht _ lt
  rw [ta] at hc
  refine tz_core x (2 ^ k) (2 ^ k * 285870213051353865 % 18446744073709551616) _ k w (by omega) ?_ ?_ (by omega) (by omega) hc (by omega)
  · have a : IntKind.u64.wrap (-(x : Int)) = ((18446744073709551616 - x : Nat) : Int) := by rw [IntKind.wrap_u64]; omega
    rw [a, bits_and_u64_nat _ _ hx (by omega), lb]
  · rw [IntKind.wrap_u64]; omega
theorem tz_zero (w : World) : Calls Tryz.prog 200 #[.int .u64 0] w fun e w' => e = .returned (.int .i64 64) ∧ w' = w := by
  go_enter Tryz.func200, Tryz.ntmps200
  go_wp2
  go_ret
  exact ⟨rfl, rfl⟩
end Go.Proofs.YtfipiifickdeiaaGreatDoor
namespace Go.Proofs.YtfipiifickdeiaaGreatDoor
open Go.ChangeShapes Go.WideShapes Go.ChangeAt Go.RowKit
open Mm
set_option maxRecDepth 100000 in
set_option maxHeartbeats 400000 in
theorem kbit_any (c : Int) (w : World) :
    Calls Tryz.prog 46 #[.int .i64 c] w fun e w' => e = .returned (.int .u64 (bv c : Nat)) ∧ w' = w := by
  by_cases h : 0 ≤ c ∧ c < 64
  · obtain ⟨k, rfl⟩ := Int.eq_ofNat_of_zero_le h.1
    have hw : IntKind.u64.wrap ((2 : Int) ^ k) = ((2 ^ k : Nat) : Int) := by
      have := wrapN (2 ^ k) (by have := bv_lt (k : Int); rw [bv_some _ h] at this; simpa using this)
      simpa using this
    have hk : (k : Int) < 64 := h.2
    rw [bv_some _ h, Int.toNat_natCast]
    generalize 2 ^ k = P at *
    clear h
    go_enter Tryz.func46, Tryz.ntmps46
    go_wp2
    go_ret
    exact ⟨rfl, rfl⟩
  · rw [bv_none c h]
    by_cases h1 : c < 0
    · go_enter Tryz.func46, Tryz.ntmps46
      go_wp2
      go_ret
      exact ⟨rfl, rfl⟩
    · have h2 : (64 : Int) ≤ c := by omega
      clear h
      go_enter Tryz.func46, Tryz.ntmps46
      go_wp2
      go_ret
      exact ⟨rfl, rfl⟩
set_option maxRecDepth 100000 in
set_option maxHeartbeats 400000 in
theorem khas_any (m : Nat) (c : Int) (w : World) (hm : m < 18446744073709551616) :
    Calls Tryz.prog 107 #[.int .u64 m, .int .i64 c] w fun e w' => e = .returned (.bool (tb m c)) ∧ w' = w := by
  have B : Hid (∀ w, _) := fun w => kbit_any c w
  have hb := bits_and_u64_nat m (bv c) hm (bv_lt c)
  have hz := and_bv m c
  generalize m &&& bv c = P at *
  generalize bv c = b at *
  cases ht : tb m c with
  | false =>
    rw [ht] at hz
    have : P = 0 := by rw [hz]
    subst this
    clear hz ht hm
    go_enter Tryz.func107, Tryz.ntmps107
    go_wp2_with (go_at_call 46; refine (B.out _).mono ?_; rintro e w' ⟨rfl, rfl⟩)
    go_ret
    exact ⟨rfl, rfl⟩
  | true =>
    rw [ht] at hz
    have hP : ((P : Int) != 0) = true := by
      rw [bne_iff_ne]
      intro e
      have : P = 0 := by omega
      rw [hz] at this
      cases this
    clear hz ht hm
    go_enter Tryz.func107, Tryz.ntmps107
    go_wp2_with (go_at_call 46; refine (B.out _).mono ?_; rintro e w' ⟨rfl, rfl⟩)
    go_ret
    exact ⟨rfl, rfl⟩
end Go.Proofs.YtfipiifickdeiaaGreatDoor
namespace Go.Proofs.YtfipiifickdeiaaGreatDoor
open Go.ChangeShapes Go.WideShapes Go.ChangeAt Go.RowKit
open Mm
set_option maxRecDepth 100000 in
set_option maxHeartbeats 400000 in
theorem knot_any (a b : Nat) (w : World) (ha : a < 18446744073709551616) (hb : b < 18446744073709551616) :
    Calls Tryz.prog 42 #[.int .u64 a, .int .u64 b] w fun e w' => e = .returned (.int .u64 (nt a b : Nat)) ∧ w' = w := by
  have h := u64_andNot_nat a b ha hb
  rw [← nt] at h
  generalize nt a b = P at *
  clear ha hb
  go_enter Tryz.func42, Tryz.ntmps42
  go_wp2
  go_ret
  exact ⟨rfl, rfl⟩
set_option maxRecDepth 100000 in
set_option maxHeartbeats 400000 in
theorem kmany_any (a : Nat) (w : World) (ha : a < 18446744073709551616) :
    Calls Tryz.prog 249 #[.int .u64 a] w fun e w' => e = .returned (.int .i64 ((ls a).length : Nat)) ∧ w' = w := by
  have N : Hid (∀ w, _) := fun w => ones_any a w ha
  generalize (ls a).length = P at *
  clear ha
  go_enter Tryz.func249, Tryz.ntmps249
  go_wp2_with (go_at_call 304; refine (N.out _).mono ?_; rintro e w' ⟨rfl, rfl⟩)
  go_ret
  exact ⟨rfl, rfl⟩
set_option maxRecDepth 100000 in
set_option maxHeartbeats 400000 in
theorem kupto_any (n : Int) (w : World) :
    Calls Tryz.prog 18 #[.int .i64 n] w fun e w' => e = .returned (.int .u64 (up n : Nat)) ∧ w' = w := by
  by_cases h1 : n < 1
  · rw [show up n = 0 from if_pos h1]
    go_enter Tryz.func18, Tryz.ntmps18
    go_wp2
    go_ret
    exact ⟨rfl, rfl⟩
  · by_cases h2 : 64 ≤ n
    · rw [show up n = 18446744073709551615 from (if_neg h1).trans (if_pos h2)]
      go_enter Tryz.func18, Tryz.ntmps18
      go_wp2
      go_ret
      exact ⟨rfl, rfl⟩
    · have e : up n = bv n - 1 := by rw [bv_some n (by omega)]; exact (if_neg h1).trans (if_neg h2)
      have p : 0 < bv n := by rw [bv_some n (by omega)]; exact Nat.two_pow_pos _
      have l := bv_lt n
      have B : Hid (∀ w, _) := fun w => kbit_any n w
      rw [e]
      generalize bv n = b at *
      have hw : IntKind.u64.wrap ((b : Int) - 1) = ((b - 1 : Nat) : Int) := by rw [IntKind.wrap_u64]; omega
      obtain ⟨c, hc⟩ : ∃ c, b - 1 = c := ⟨_, rfl⟩
      rw [hc] at hw ⊢
      clear e l p hc
      go_enter Tryz.func18, Tryz.ntmps18
      go_wp2_with (go_at_call 46; refine (B.out _).mono ?_; rintro e w' ⟨rfl, rfl⟩)
      go_ret
      exact ⟨rfl, rfl⟩
end Go.Proofs.YtfipiifickdeiaaGreatDoor
namespace Go.Proofs.YtfipiifickdeiaaGreatDoor
open Go.ChangeShapes Go.WideShapes Go.ChangeAt Go.RowKit
open Mm
set_option maxRecDepth 100000 in
set_option maxHeartbeats 400000 in
theorem kfirst_any (m : Nat) (w : World) (hm : m < 18446744073709551616) (ht : Tab w) :
    Calls Tryz.prog 138 #[.int .u64 m] w fun e w' => e = .returned (.tuple #[.int .i64 (hd (ls m) : Nat), .int .i64 (er (ls m))]) ∧ w' = w := by
  by_cases h0 : m = 0
  · subst h0
    rw [ls_zero]
    clear ht hm
    go_enter Tryz.func138, Tryz.ntmps138
    go_wp2
    go_ret2
    exact ⟨rfl, rfl⟩
  · have T : Hid (∀ w, _ → _) := fun w ht => tz_any m w (by omega) hm ht
    obtain ⟨q, e, hk⟩ := odd_spec 64 m (by omega) hm
    have hh := hd_of m _ q hk e
    have hn : ls m ≠ [] := fun h => h0 (ls_nil m hm h)
    have he : er (ls m) = 0 := if_neg hn
    rw [hh, he]
    generalize Lib.ntzAux 64 m = k at *
    have h1 : (1 : Int) ≤ m := by omega
    have HT : Hid (Tab w) := ht
    clear ht hm e hk hh hn he h0
    go_enter Tryz.func138, Tryz.ntmps138
    go_wp2_with (go_at_call 200; refine (T.out _ HT.out).mono ?_; rintro e w' ⟨rfl, rfl⟩)
    go_ret2
    exact ⟨rfl, rfl⟩
set_option maxRecDepth 100000 in
set_option maxHeartbeats 400000 in
theorem kabove_any (m : Nat) (c : Int) (w : World) (hm : m < 18446744073709551616) (h0 : -9223372036854775808 ≤ c) :
    Calls Tryz.prog 338 #[.int .u64 m, .int .i64 c] w fun e w' => e = .returned (.int .u64 (av m c : Nat)) ∧ w' = w := by
  by_cases h : 64 ≤ c
  · rw [show av m c = 0 from if_pos h]
    clear hm
    go_enter Tryz.func338, Tryz.ntmps338
    go_wp2
    go_ret
    exact ⟨rfl, rfl⟩
  · rw [show av m c = nt m (up (c + 1)) from if_neg h]
    have U : Hid (∀ w, _) := fun w => kupto_any (c + 1) w
    have N : Hid (∀ w, _) := fun w => knot_any m (up (c + 1)) w hm (up_lt _)
    generalize nt m (up (c + 1)) = P at *
    generalize up (c + 1) = Q at *
    clear hm
    go_enter Tryz.func338, Tryz.ntmps338
    go_wp2_with (first | (go_at_call 18; refine (U.out _).mono ?_; rintro e w' ⟨rfl, rfl⟩) | (go_at_call 42; refine (N.out _).mono ?_; rintro e w' ⟨rfl, rfl⟩))
    go_ret
    exact ⟨rfl, rfl⟩
set_option maxRecDepth 100000 in
set_option maxHeartbeats 400000 in
theorem knext_any (m : Nat) (c : Int) (w : World) (hm : m < 18446744073709551616) (h0 : -9223372036854775808 ≤ c) (ht : Tab w) :
    Calls Tryz.prog 305 #[.int .u64 m, .int .i64 c] w fun e w' => e = .returned (.tuple #[.int .i64 (hd (nx m c) : Nat), .int .i64 (er (nx m c))]) ∧ w' = w := by
  have A : Hid (∀ w, _) := fun w => kabove_any m c w hm h0
  have HT : Hid (Tab w) := ht
  by_cases h : av m c = 0
  · have e : nx m c = ls m := by
      unfold nx
      rw [if_pos]
      rw [← ls_av m c hm, h, ls_zero]
    rw [e]
    rw [h] at A
    have F : Hid (∀ w, _ → _) := fun w ht => kfirst_any m w hm ht
    generalize hd (ls m) = x at *
    generalize er (ls m) = y at *
    clear e h hm h0 ht
    go_enter Tryz.func305, Tryz.ntmps305
    go_wp2_with (first | (go_at_call 338; refine (A.out _).mono ?_; rintro e w' ⟨rfl, rfl⟩) | (go_at_call 138; refine (F.out _ HT.out).mono ?_; rintro e w' ⟨rfl, rfl⟩))
    go_ret2
    exact ⟨rfl, rfl⟩
  · have e : nx m c = ls (av m c) := by
      unfold nx
      rw [if_neg, ls_av m c hm]
      rw [← ls_av m c hm]
      intro g
      exact h (ls_nil _ (av_lt m c) g)
    rw [e]
    have F : Hid (∀ w, _ → _) := fun w ht => kfirst_any (av m c) w (av_lt m c) ht
    have h1 : (1 : Int) ≤ (av m c : Nat) := by omega
    generalize hd (ls (av m c)) = x at *
    generalize er (ls (av m c)) = y at *
    generalize av m c = P at *
    clear e h hm h0 ht
    go_enter Tryz.func305, Tryz.ntmps305
    go_wp2_with (first | (go_at_call 338; refine (A.out _).mono ?_; rintro e w' ⟨rfl, rfl⟩) | (go_at_call 138; refine (F.out _ HT.out).mono ?_; rintro e w' ⟨rfl, rfl⟩))
    go_ret2
    exact ⟨rfl, rfl⟩
end Go.Proofs.YtfipiifickdeiaaGreatDoor
namespace Go.Proofs.YtfipiifickdeiaaGreatDoor
open Go.ChangeShapes Go.WideShapes Go.ChangeAt Go.RowKit
open Mm
set_option maxRecDepth 100000 in
set_option maxHeartbeats 400000 in
theorem kwithin_any (a b : Nat) (w : World) (ha : a < 18446744073709551616) (hb : b < 18446744073709551616) :
    Calls Tryz.prog 14 #[.int .u64 a, .int .u64 b] w fun e w' => e = .returned (.bool ((nt a b : Int) == 0)) ∧ w' = w := by
  have N : Hid (∀ w, _) := fun w => knot_any a b w ha hb
  generalize nt a b = P at *
  clear ha hb
  go_enter Tryz.func14, Tryz.ntmps14
  go_wp2_with (go_at_call 42; refine (N.out _).mono ?_; rintro e w' ⟨rfl, rfl⟩)
  go_ret
  exact ⟨rfl, rfl⟩
end Go.Proofs.YtfipiifickdeiaaGreatDoor
namespace Go.Proofs.YtfipiifickdeiaaGreatDoor
open Go.ChangeShapes Go.WideShapes Go.ChangeAt Go.RowKit
open Mm
set_option maxRecDepth 100000 in
set_option maxHeartbeats 400000 in
theorem krefhas_any (m : Nat) (c : Int) (w : World) (hm : m < 18446744073709551616) :
    Calls Tryz.prog 44 #[.int .u64 m, .int .i64 c] w fun e w' => e = .returned (.bool (tb m c)) ∧ w' = w := by
  by_cases h : 0 ≤ c ∧ c < 64
  · obtain ⟨k, rfl⟩ := Int.eq_ofNat_of_zero_le h.1
    have e := tb_some m k h
    rw [Int.toNat_natCast, Nat.testBit_eq_decide_div_mod_eq] at e
    obtain ⟨d, hd⟩ : ∃ d, m / 2 ^ k = d := ⟨_, rfl⟩
    have hd' : (m : Int) / 2 ^ k = (d : Int) := by rw [← hd]; simp
    rw [hd] at e
    have hk : (k : Int) < 64 := h.2
    have hdl : (d : Int) ≤ 18446744073709551615 := by
      have : d ≤ m := by rw [← hd]; exact Nat.div_le_self _ _
      omega
    rw [e]
    clear e h hm hd
    by_cases h1 : d % 2 = 1
    · have h2 : ((d : Int) % 2 == 1) = true := by rw [beq_iff_eq]; omega
      simp only [h1, decide_true]
      clear h1
      go_enter Tryz.func44, Tryz.ntmps44
      go_wp2
      go_ret
      exact ⟨rfl, rfl⟩
    · have h2 : ((d : Int) % 2 == 1) = false := by rw [beq_eq_false_iff_ne]; omega
      simp only [h1, decide_false]
      clear h1
      go_enter Tryz.func44, Tryz.ntmps44
      go_wp2
      go_ret
      exact ⟨rfl, rfl⟩
  · rw [tb_none m c h]
    by_cases h1 : c < 0
    · go_enter Tryz.func44, Tryz.ntmps44
      go_wp2
      go_ret
      exact ⟨rfl, rfl⟩
    · have h2 : (64 : Int) ≤ c := by omega
      clear h
      go_enter Tryz.func44, Tryz.ntmps44
      go_wp2
      go_ret
      exact ⟨rfl, rfl⟩
set_option maxRecDepth 100000 in
set_option maxHeartbeats 400000 in
theorem krefwith_any (m : Nat) (c : Int) (w : World) (hm : m < 18446744073709551616) :
    Calls Tryz.prog 16 #[.int .u64 m, .int .i64 c] w fun e w' => e = .returned (.int .u64 (m ||| bv c : Nat)) ∧ w' = w := by
  by_cases h : 0 ≤ c ∧ c < 64
  · obtain ⟨k, rfl⟩ := Int.eq_ofNat_of_zero_le h.1
    have R : Hid (∀ w, _) := fun w => krefhas_any m k w hm
    have hk : (k : Int) < 64 := h.2
    cases ht : tb m k with
    | true =>
      rw [or_bv_same m k ht]
      rw [ht] at R
      clear ht h hm
      go_enter Tryz.func16, Tryz.ntmps16
      go_wp2_with (go_at_call 44; refine (R.out _).mono ?_; rintro e w' ⟨rfl, rfl⟩)
      go_ret
      exact ⟨rfl, rfl⟩
    | false =>
      have s := or_bv_sum m k hm ht
      have l := or_lt hm (bv_lt (k : Int))
      rw [s] at l
      have hw : IntKind.u64.wrap ((m : Int) + IntKind.u64.wrap ((2 : Int) ^ k)) = ((m + bv k : Nat) : Int) := by
        have a : IntKind.u64.wrap ((2 : Int) ^ k) = ((bv k : Nat) : Int) := by
          have := wrapN (bv k) (bv_lt k)
          rw [bv_some _ h, Int.toNat_natCast] at this ⊢
          simpa using this
        rw [a, ← Int.natCast_add]
        exact wrapN _ l
      rw [s]
      rw [ht] at R
      obtain ⟨S, hS⟩ : ∃ S, m + bv k = S := ⟨_, rfl⟩
      rw [hS] at hw ⊢
      clear ht h hm s l hS
      go_enter Tryz.func16, Tryz.ntmps16
      go_wp2_with (go_at_call 44; refine (R.out _).mono ?_; rintro e w' ⟨rfl, rfl⟩)
      go_ret
      exact ⟨rfl, rfl⟩
  · rw [bv_none c h, Nat.or_zero]
    by_cases h1 : c < 0
    · go_enter Tryz.func16, Tryz.ntmps16
      go_wp2
      go_ret
      exact ⟨rfl, rfl⟩
    · have h2 : (64 : Int) ≤ c := by omega
      clear h
      go_enter Tryz.func16, Tryz.ntmps16
      go_wp2
      go_ret
      exact ⟨rfl, rfl⟩
set_option maxRecDepth 100000 in
set_option maxHeartbeats 400000 in
theorem krefof_any (xs : List Int) (v : Value) (w : World) (hl : (xs.length : Int) ≤ 1000) (hr : Row w v xs) :
    Calls Tryz.prog 45 #[v] w fun e w' => e = .returned (.int .u64 (wl 0 xs : Nat)) ∧ w' = w := by
  rcases hr with ⟨rfl, a, cap, rfl⟩ | ⟨b, off, cap, rfl, _, hc⟩
  · rw [show wl 0 [] = 0 from rfl]
    clear hl
    go_enter Tryz.func45, Tryz.ntmps45
    go_wp2
    go_loop [3, 4] (fun a i => a = .int .u64 0 ∧ i = .int .i64 0) (fun _ _ => 0)
    case atStart => exact ⟨rfl, rfl⟩
    case round =>
      obtain ⟨rfl, rfl⟩ := hrel
      go_wp2
      go_ret
      exact ⟨rfl, rfl⟩
  · have HC : Hid (∀ i, i < xs.length → w.cell? ⟨b, off + i, none⟩ = some (.int .i64 (xs.getD i 0))) := hc
    obtain ⟨n, hn⟩ : ∃ n, xs.length = n := ⟨_, rfl⟩
    have HN : Hid (xs.length = n) := hn
    obtain ⟨R, hR⟩ : ∃ R, wl 0 xs = R := ⟨_, rfl⟩
    have HR : Hid (wl 0 xs = R) := hR
    rw [hn] at hl ⊢
    rw [hR]
    clear hc hn hR
    go_enter Tryz.func45, Tryz.ntmps45
    go_wp2
    go_loop [3, 4] (fun a i => ∃ k M : Nat, (k : Int) ≤ n ∧ Hid (M = wl 0 (xs.take k)) ∧ i = .int .i64 k ∧ a = .int .u64 M) (fun _ i => n - (intOf i).toNat)
    case atStart => exact ⟨0, 0, by omega, rfl, rfl, rfl⟩
    case round =>
      obtain ⟨k, M, hk, hM, rfl, rfl⟩ := hrel
      by_cases h : (k : Int) < n
      · have hc := HC.out k (by have := HN.out; omega)
        have s : Hid (M ||| bv (xs.getD k 0) = wl 0 (xs.take (k + 1))) := by
          rw [hM.out, take_snoc xs k (by have := HN.out; omega)]
          exact (wl_snoc _ _ _).symm
        have lM : M < 18446744073709551616 := by rw [hM.out]; exact wl_lt _ _ (by omega)
        generalize xs.getD k 0 = c at *
        have B : Hid (∀ w, _) := fun w => krefwith_any M c w lM
        generalize M ||| bv c = M2 at *
        clear lM
        go_wp2_with (go_at_call 16; refine (B.out _).mono ?_; rintro e w' ⟨rfl, rfl⟩)
        go_round
        case rel => exact ⟨k + 1, M2, by omega, s, by go_num, rfl⟩
        case measure => simp [intOf]; omega
      · have e : M = R := by
          have a := HN.out
          have b : k = xs.length := by omega
          rw [hM.out, ← HR.out, b, List.take_length]
        subst e
        go_wp2
        go_ret
        exact ⟨rfl, rfl⟩
end Go.Proofs.YtfipiifickdeiaaGreatDoor
namespace Go.Proofs.YtfipiifickdeiaaGreatDoor
open Go.ChangeShapes Go.WideShapes Go.ChangeAt Go.RowKit
open Mm
def KK (p : Nat → Bool) (k : Nat) : List Int := ((List.range k).filter p).map fun i : Nat => (i : Int)
theorem KK_le (p : Nat → Bool) (k : Nat) : (KK p k).length ≤ k := by
  unfold KK
  rw [List.length_map]
  have := List.length_filter_le p (List.range k)
  simpa using this
theorem KK_hit (p : Nat → Bool) (k : Nat) (h : p k = true) : KK p (k + 1) = KK p k ++ [(k : Int)] := by
  unfold KK
  rw [List.range_succ, List.filter_append, List.map_append]
  simp [h]
theorem KK_miss (p : Nat → Bool) (k : Nat) (h : p k = false) : KK p (k + 1) = KK p k := by
  unfold KK
  rw [List.range_succ, List.filter_append, List.map_append]
  simp [h]
/-- What has been gathered so far: v owns it; nothing that was there has turned. -/
structure Gat (w wr : World) (v : Value) (p : Nat → Bool) (k : Nat) : Prop where
  own : wr.ownsRow w.heap.size 3 1 v (KK p k).length ((KK p k).map (Value.int .i64))
  bel : Below w.heap.size w wr
theorem gat_start (w : World) (p : Nat → Bool) : Gat w w (.slice none 0 0) p 0 := ⟨World.ownsRow_nil _ _ _ _, Below.refl _ _⟩
theorem gat_drop {w wr : World} {v : Value} {p : Nat → Bool} {k : Nat} (g : Gat w wr v p k) (h : p k = false) : Gat w wr v p (k + 1) := by
  refine ⟨?_, g.bel⟩
  rw [KK_miss p k h]
  exact g.own
theorem gat_keep {w wr w1 : World} {v v' : Value} {p : Nat → Bool} {k : Nat} {o : Obj} (g : Gat w wr v p k) (h : p k = true)
    (hown' : w1.ownsRow w.heap.size 3 1 v' ((KK p k).length + 1) ((KK p k).map (Value.int .i64) ++ [.int .i64 (k : Int)])) (hgrow : (wr.alloc o).grownBy w1 v.ownBlock) : Gat w w1 v' p (k + 1) := by
  have hs := g.bel.size
  refine ⟨?_, (g.bel.alloc hs o).grown hgrow (by simp; omega) (fun j hj => (g.own.lt j hj).1)⟩
  rw [KK_hit p k h]
  simpa using hown'
theorem gat_row {w wr : World} {v : Value} {p : Nat → Bool} {k : Nat} (g : Gat w wr v p k) : Row wr v (KK p k) := row_of_owns g.own
theorem tb_bit (m k : Nat) (h : (k : Int) < 64) : tb m (k : Int) = m.testBit k := tb_nat m k (by omega)
end Go.Proofs.YtfipiifickdeiaaGreatDoor
namespace Go.Proofs.YtfipiifickdeiaaGreatDoor
open Go.ChangeShapes Go.WideShapes Go.ChangeAt Go.RowKit
open Mm
set_option maxRecDepth 100000 in
set_option maxHeartbeats 400000 in
theorem kwith_any (m : Nat) (xs : List Int) (v : Value) (w : World) (hm : m < 18446744073709551616) (hl : (xs.length : Int) ≤ 1000) (hr : Row w v xs) :
    Calls Tryz.prog 41 #[.int .u64 m, v] w fun e w' => e = .returned (.int .u64 (wl m xs : Nat)) ∧ w' = w := by
  rcases hr with ⟨rfl, a, cap, rfl⟩ | ⟨b, off, cap, rfl, _, hc⟩
  · rw [show wl m [] = m from rfl]
    clear hl hm
    go_enter Tryz.func41, Tryz.ntmps41
    go_wp2
    go_loop [0, 9] (fun a i => a = .int .u64 m ∧ i = .int .i64 0) (fun _ _ => 0)
    case atStart => exact ⟨rfl, rfl⟩
    case round =>
      obtain ⟨rfl, rfl⟩ := hrel
      go_wp2
      go_ret
      exact ⟨rfl, rfl⟩
  · have HM : Hid (m < 18446744073709551616) := hm
    have HC : Hid (∀ i, i < xs.length → w.cell? ⟨b, off + i, none⟩ = some (.int .i64 (xs.getD i 0))) := hc
    obtain ⟨n, hn⟩ : ∃ n, xs.length = n := ⟨_, rfl⟩
    have HN : Hid (xs.length = n) := hn
    obtain ⟨R, hR⟩ : ∃ R, wl m xs = R := ⟨_, rfl⟩
    have HR : Hid (wl m xs = R) := hR
    rw [hn] at hl ⊢
    rw [hR]
    clear hc hm hn hR
    go_enter Tryz.func41, Tryz.ntmps41
    go_wp2
    go_loop [0, 9] (fun a i => ∃ k M : Nat, (k : Int) ≤ n ∧ Hid (M = wl m (xs.take k)) ∧ i = .int .i64 k ∧ a = .int .u64 M) (fun _ i => n - (intOf i).toNat)
    case atStart => exact ⟨0, m, by omega, rfl, rfl, rfl⟩
    case round =>
      obtain ⟨k, M, hk, hM, rfl, rfl⟩ := hrel
      by_cases h : (k : Int) < n
      · have hc := HC.out k (by have := HN.out; omega)
        have s : Hid (M ||| bv (xs.getD k 0) = wl m (xs.take (k + 1))) := by
          rw [hM.out, take_snoc xs k (by have := HN.out; omega)]
          exact (wl_snoc _ _ _).symm
        have lM : M < 18446744073709551616 := by rw [hM.out]; exact wl_lt _ _ HM.out
        have hb := bits_or_u64_nat M (bv (xs.getD k 0)) lM (bv_lt _)
        generalize xs.getD k 0 = c at *
        have B : Hid (∀ w, _) := fun w => kbit_any c w
        generalize M ||| bv c = M2 at *
        generalize bv c = q at *
        clear lM
        go_wp2_with (go_at_call 46; refine (B.out _).mono ?_; rintro e w' ⟨rfl, rfl⟩)
        go_round
        case rel => exact ⟨k + 1, M2, by omega, s, by go_num, rfl⟩
        case measure => simp [intOf]; omega
      · have e : M = R := by
          have a := HN.out
          have b : k = xs.length := by omega
          rw [hM.out, ← HR.out, b, List.take_length]
        subst e
        go_wp2
        go_ret
        exact ⟨rfl, rfl⟩
end Go.Proofs.YtfipiifickdeiaaGreatDoor
namespace Go.Proofs.YtfipiifickdeiaaGreatDoor
open Go.ChangeShapes Go.WideShapes Go.ChangeAt Go.RowKit
open Mm
set_option maxRecDepth 100000 in
set_option maxHeartbeats 400000 in
theorem kless_any (m : Nat) (c : Int) (w : World) (hm : m < 18446744073709551616) :
    Calls Tryz.prog 43 #[.int .u64 m, .int .i64 c] w fun e w' => e = .returned (.int .u64 (nt m (bv c) : Nat)) ∧ w' = w := by
  have B : Hid (∀ w, _) := fun w => kbit_any c w
  have hb := u64_andNot_nat m (bv c) hm (bv_lt c)
  rw [← nt] at hb
  generalize nt m (bv c) = P at *
  generalize bv c = b at *
  clear hm
  go_enter Tryz.func43, Tryz.ntmps43
  go_wp2_with (go_at_call 46; refine (B.out _).mono ?_; rintro e w' ⟨rfl, rfl⟩)
  go_ret
  exact ⟨rfl, rfl⟩
set_option maxRecDepth 100000 in
set_option maxHeartbeats 400000 in
theorem kor_any (a b : Nat) (w : World) (ha : a < 18446744073709551616) (hb : b < 18446744073709551616) :
    Calls Tryz.prog 336 #[.int .u64 a, .int .u64 b] w fun e w' => e = .returned (.int .u64 (a ||| b : Nat)) ∧ w' = w := by
  have h := bits_or_u64_nat a b ha hb
  generalize a ||| b = P at *
  clear ha hb
  go_enter Tryz.func336, Tryz.ntmps336
  go_wp2
  go_ret
  exact ⟨rfl, rfl⟩
end Go.Proofs.YtfipiifickdeiaaGreatDoor
