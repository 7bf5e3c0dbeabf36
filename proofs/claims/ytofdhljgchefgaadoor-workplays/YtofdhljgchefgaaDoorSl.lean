/- Numbers from 1 on, some of which are given out, as bits of words: plain facts; no program in it. -/
import Derived.Test.YtofdhljgchefgaaDoorMp
namespace Go.Proofs.YtofdhljgchefgaaDoor.Sl
open Mm

/-- A set with one number in it, or out of it. -/
def st (O : Nat → Bool) (n : Nat) (v : Bool) : Nat → Bool := fun j => if j = n then v else O j
/-- All that are given out, rising. -/
def li (m : Nat) (O : Nat → Bool) : List Int := ((List.range m).filter fun i => O (i + 1)).map fun i : Nat => ((i + 1 : Nat) : Int)
/-- The lowest one that is free, one less. -/
def ff (m : Nat) (O : Nat → Bool) : Option Nat := (List.range m).find? fun i => !O (i + 1)
def tN : Option Nat → Int | some i => ((i + 1 : Nat) : Int) | none => 0
def tE : Option Nat → Int | some _ => 0 | none => 5
def tO (O : Nat → Bool) : Option Nat → (Nat → Bool) | some i => st O (i + 1) true | none => O
/-- Is a number given out? -/
def hs (m : Nat) (O : Nat → Bool) (n : Int) : Bool := decide (1 ≤ n ∧ n ≤ m) && O n.toNat
def gE (m : Nat) (O : Nat → Bool) (n : Int) : Int := if hs m O n = true then 0 else 4
def gO (m : Nat) (O : Nat → Bool) (n : Int) : Nat → Bool := if hs m O n = true then st O n.toNat false else O

theorem ff_some (m : Nat) (O : Nat → Bool) (i : Nat) (hi : i < m) (h : O (i + 1) = false) (g : ∀ j, j < i → O (j + 1) = true) : ff m O = some i := by
  unfold ff
  rw [List.find?_range_eq_some]
  refine ⟨by simp [h], List.mem_range.2 hi, fun j hj => ?_⟩
  simp [g j hj]
theorem ff_none (m : Nat) (O : Nat → Bool) (g : ∀ j, j < m → O (j + 1) = true) : ff m O = none := by
  unfold ff
  rw [List.find?_eq_none]
  intro x hx
  simp [g x (List.mem_range.1 hx)]

/-- The words hold the set. -/
structure Wd (m : Nat) (W : List Nat) (O : Nat → Bool) : Prop where
  len : W.length = (m + 63) / 64
  m1 : 1 ≤ m
  m2 : m ≤ 1024
  lt : ∀ j, j < W.length → W.getD j 0 < 18446744073709551616
  bit : ∀ j i, j < W.length → i < 64 → (W.getD j 0).testBit i = (decide (64 * j + i < m) && O (64 * j + i + 1))

theorem getD_setN (r : List Nat) (p q : Nat) (n : Nat) (hp : p < r.length) : (r.set p n).getD q 0 = if q = p then n else r.getD q 0 := by
  simp only [List.getD, List.getElem?_set]
  by_cases h : p = q
  · subst h; simp [hp]
  · have : ¬ q = p := fun e => h e.symm
    simp [h, this]

theorem wd_new (m : Nat) (h1 : 1 ≤ m) (h2 : m ≤ 1024) : Wd m (List.replicate ((m + 63) / 64) 0) fun _ => false := by
  have e : ∀ j, (List.replicate ((m + 63) / 64) 0).getD j 0 = 0 := by
    intro j
    simp only [List.getD, List.getElem?_replicate]
    split <;> rfl
  refine ⟨by simp, h1, h2, fun j _ => by rw [e]; omega, fun j i _ _ => by rw [e]; simp⟩

theorem wd_set {m : Nat} {W : List Nat} {O : Nat → Bool} (h : Wd m W O) (j i : Nat) (hj : j < W.length) (hi : i < 64) (hm : 64 * j + i < m) :
    Wd m (W.set j (W.getD j 0 ||| 2 ^ i)) (st O (64 * j + i + 1) true) := by
  refine ⟨by simp [h.len], h.m1, h.m2, fun t ht => ?_, fun t s ht hs => ?_⟩
  · rw [getD_setN _ _ _ _ hj]
    split
    · exact or_lt (h.lt j hj) (Nat.lt_of_lt_of_eq (Nat.pow_lt_pow_right (by omega) hi) rfl)
    · exact h.lt t (by simpa using ht)
  · rw [getD_setN _ _ _ _ hj]
    have hb := h.bit t s (by simpa using ht) hs
    by_cases c : t = j
    · subst c
      rw [if_pos rfl, Nat.testBit_or, hb, Nat.testBit_two_pow]
      unfold st
      by_cases d : i = s
      · subst d
        simp [hm]
      · have d2 : ¬ s = i := fun e => d e.symm
        simp [d, d2]
    · rw [if_neg c, hb]
      unfold st
      rw [if_neg (by omega)]

theorem wd_clr {m : Nat} {W : List Nat} {O : Nat → Bool} (h : Wd m W O) (j i : Nat) (hj : j < W.length) (hi : i < 64) :
    Wd m (W.set j (nt (W.getD j 0) (2 ^ i))) (st O (64 * j + i + 1) false) := by
  have hp : 2 ^ i < 18446744073709551616 := Nat.lt_of_lt_of_eq (Nat.pow_lt_pow_right (by omega) hi) rfl
  refine ⟨by simp [h.len], h.m1, h.m2, fun t ht => ?_, fun t s ht hs => ?_⟩
  · rw [getD_setN _ _ _ _ hj]
    split
    · exact nt_lt _ _
    · exact h.lt t (by simpa using ht)
  · rw [getD_setN _ _ _ _ hj]
    have hb := h.bit t s (by simpa using ht) hs
    by_cases c : t = j
    · subst c
      rw [if_pos rfl, nt, Nat.testBit_and, hb, bit_max _ _ hp, Nat.testBit_two_pow]
      unfold st
      by_cases d : i = s
      · subst d
        simp
      · have d2 : ¬ s = i := fun e => d e.symm
        simp [d, d2, hs]
    · rw [if_neg c, hb]
      unfold st
      rw [if_neg (by omega)]

theorem wd_has {m : Nat} {W : List Nat} {O : Nat → Bool} (h : Wd m W O) (n : Nat) (h1 : 1 ≤ n) (h2 : n ≤ m) :
    (n - 1) / 64 < W.length ∧ ((W.getD ((n - 1) / 64) 0 &&& 2 ^ ((n - 1) % 64) = 0) = (O n = false)) := by
  have hj : (n - 1) / 64 < W.length := by rw [h.len]; omega
  refine ⟨hj, ?_⟩
  have hb := h.bit ((n - 1) / 64) ((n - 1) % 64) hj (by omega)
  have e : 64 * ((n - 1) / 64) + (n - 1) % 64 = n - 1 := by omega
  rw [e, show n - 1 + 1 = n by omega] at hb
  have hd : decide (n - 1 < m) = true := decide_eq_true (by omega)
  rw [hd, Bool.true_and] at hb
  have hc : 0 ≤ (((n - 1) % 64 : Nat) : Int) ∧ (((n - 1) % 64 : Nat) : Int) < 64 := by omega
  have k := and_bv (W.getD ((n - 1) / 64) 0) (((n - 1) % 64 : Nat) : Int)
  rw [bv_some _ hc, tb_nat _ _ (by omega), hb, Int.toNat_natCast] at k
  exact k

/-- What the first k words hold, as a list. -/
def lk (W : List Nat) (k : Nat) : List Int := (List.range k).flatMap fun j => (ls (W.getD j 0)).map fun i : Nat => ((64 * j + i + 1 : Nat) : Int)

theorem lk_succ (W : List Nat) (k : Nat) : lk W (k + 1) = lk W k ++ (ls (W.getD k 0)).map fun i : Nat => ((64 * k + i + 1 : Nat) : Int) := by
  unfold lk
  rw [List.range_succ, List.flatMap_append]
  simp

theorem lk_is {m : Nat} {W : List Nat} {O : Nat → Bool} (h : Wd m W O) : ∀ k, k ≤ W.length → lk W k = ((List.range (64 * k)).filter fun t => decide (t < m) && O (t + 1)).map fun t : Nat => ((t + 1 : Nat) : Int)
  | 0, _ => by simp [lk]
  | k + 1, hk => by
    rw [lk_succ, lk_is h k (by omega), show 64 * (k + 1) = 64 * k + 64 by omega, List.range_add, List.filter_append, List.map_append, List.filter_map, List.map_map]
    congr 1
    have e : ls (W.getD k 0) = (List.range 64).filter ((fun t => decide (t < m) && O (t + 1)) ∘ fun x => 64 * k + x) := by
      unfold ls
      apply List.filter_congr
      intro i hi
      exact h.bit k i (by omega) (List.mem_range.1 hi)
    rw [e]
    rfl

theorem lk_all {m : Nat} {W : List Nat} {O : Nat → Bool} (h : Wd m W O) : lk W W.length = li m O := by
  rw [lk_is h W.length (Nat.le_refl _)]
  have hl := h.len
  obtain ⟨d, hd⟩ : ∃ d, 64 * W.length = m + d := ⟨64 * W.length - m, by omega⟩
  rw [hd, List.range_add, List.filter_append, List.map_append]
  have e1 : (List.range m).filter (fun t => decide (t < m) && O (t + 1)) = (List.range m).filter fun i => O (i + 1) := by
    apply List.filter_congr
    intro i hi
    simp [List.mem_range.1 hi]
  have e2 : ((List.range d).map fun x => m + x).filter (fun t => decide (t < m) && O (t + 1)) = [] := by
    rw [List.filter_eq_nil_iff]
    intro t ht
    obtain ⟨x, _, rfl⟩ := List.mem_map.1 ht
    rw [decide_eq_false (show ¬ m + x < m by omega)]
    simp
  rw [e1, e2]
  simp [li]

theorem li_le (m : Nat) (O : Nat → Bool) : (li m O).length ≤ m := by
  unfold li
  rw [List.length_map]
  have := List.length_filter_le (fun i => O (i + 1)) (List.range m)
  simpa using this

theorem lk_le (W : List Nat) (k : Nat) : (lk W k).length ≤ 64 * k := by
  induction k with
  | zero => simp [lk]
  | succ k ih =>
    rw [lk_succ, List.length_append, List.length_map]
    have := ls_le (W.getD k 0)
    omega

/-- Without its lowest bit. -/
theorem and_pred_bit (x k q : Nat) (e : x = 2 ^ k * (2 * q + 1)) (i : Nat) : (x &&& (x - 1)).testBit i = (x.testBit i && decide (i ≠ k)) := by
  have hp := Nat.two_pow_pos k
  have e1 : x - 1 = 2 ^ k * (2 * q) + (2 ^ k - 1) := by
    rw [e, Nat.mul_add, Nat.mul_one]
    omega
  have b1 : x.testBit i = (decide (k ≤ i) && (2 * q + 1).testBit (i - k)) := by rw [e, Nat.mul_comm, Nat.testBit_mul_two_pow]
  rw [Nat.testBit_and, b1, e1, Nat.testBit_two_pow_mul_add _ (by omega)]
  by_cases c : i < k
  · have : ¬ k ≤ i := by omega
    simp [this]
  · rw [if_neg c]
    by_cases d : i = k
    · subst d
      simp
    · obtain ⟨t, ht⟩ : ∃ t, i - k = t + 1 := ⟨i - k - 1, by omega⟩
      rw [ht]
      have a1 : (2 * q + 1).testBit (t + 1) = q.testBit t := by rw [Nat.testBit_add_one]; congr 1; omega
      have a2 : (2 * q).testBit (t + 1) = q.testBit t := by rw [Nat.testBit_add_one]; congr 1; omega
      rw [a1, a2]
      cases q.testBit t <;> simp [d]

theorem ls_pred (x k q : Nat) (hk : k < 64) (e : x = 2 ^ k * (2 * q + 1)) : ls x = k :: ls (x &&& (x - 1)) := by
  have h1 : hd (ls x) = k := hd_of x k q hk e
  have hm : k ∈ ls x := by
    rw [mem_ls]
    refine ⟨hk, ?_⟩
    rw [e, Nat.mul_comm, Nat.testBit_mul_two_pow]
    simp
  have h2 : ls (x &&& (x - 1)) = (ls x).filter fun i => decide (i ≠ k) := by
    unfold ls
    rw [List.filter_filter]
    apply List.filter_congr
    intro i _
    rw [and_pred_bit x k q e i, Bool.and_comm]
  have hn : (ls x).Nodup := List.Pairwise.filter _ List.nodup_range
  rw [h2]
  cases hc : ls x with
  | nil => rw [hc] at hm; simp at hm
  | cons a r =>
    rw [hc] at h1 hn
    have : a = k := by simpa [hd] using h1
    subst this
    rw [List.nodup_cons] at hn
    congr 1
    rw [List.filter_cons, if_neg (by simp)]
    symm
    rw [List.filter_eq_self]
    intro b hb
    have : b ≠ a := fun e2 => hn.1 (e2 ▸ hb)
    simp [this]
end Go.Proofs.YtofdhljgchefgaaDoor.Sl
