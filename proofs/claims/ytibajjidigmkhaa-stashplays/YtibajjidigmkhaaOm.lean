/- A pool's pages as bytes: plain facts; no program in it. -/
import Derived.Test.YtibajjidigmkhaaFw
namespace Go.Proofs.Ytibajjidigmkhaa.Om

/-- Is an object taken (they are counted from 0 here)? -/
def bt (A : List Nat) (i : Nat) : Bool := (A.getD (i / 8) 0).testBit (i % 8)
/-- How many bits of a byte are set, and the lowest that is not. -/
def pop (x : Nat) : Nat := ((List.range 8).filter fun j => x.testBit j).length
def lz (x : Nat) : Nat := ((List.range 8).find? fun j => !x.testBit j).getD 0
/-- A byte with one bit set, or not. -/
def sb (x j : Nat) (b : Bool) : Nat := if b = true then x ||| 2 ^ j else x - (if x.testBit j = true then 2 ^ j else 0)
/-- Is a page empty, full, in part? -/
def em (A : List Nat) (p : Nat) : Bool := A.getD p 0 == 0
def fu (A : List Nat) (p : Nat) : Bool := A.getD p 0 == 255
def pt (A : List Nat) (p : Nat) : Bool := !em A p && !fu A p
def fi (f : Nat → Bool) (m : Nat) : Option Nat := (List.range m).find? f
def ct (f : Nat → Bool) (m : Nat) : Nat := ((List.range m).filter f).length
/-- The page that is taken from. -/
def nx (m : Nat) (A : List Nat) : Option Nat := match fi (pt A) m with
  | some p => some p
  | none => fi (em A) m
def tkN (m : Nat) (A : List Nat) : Int := match nx m A with
  | some p => ((p * 8 + lz (A.getD p 0) + 1 : Nat) : Int)
  | none => 0
def tkE (m : Nat) (A : List Nat) : Int := match nx m A with
  | some _ => 0
  | none => 5
def tkA (m : Nat) (A : List Nat) : List Nat := match nx m A with
  | some p => A.set p (sb (A.getD p 0) (lz (A.getD p 0)) true)
  | none => A
def ou (m : Nat) (A : List Nat) (n : Int) : Bool := decide (1 ≤ n ∧ n ≤ 8 * m) && bt A (n - 1).toNat
def gvE (m : Nat) (A : List Nat) (n : Int) : Int := if ou m A n = true then 0 else 4
def gvA (m : Nat) (A : List Nat) (n : Int) : List Nat := if ou m A n = true then A.set ((n - 1).toNat / 8) (sb (A.getD ((n - 1).toNat / 8) 0) ((n - 1).toNat % 8) false) else A
/-- How many objects are free. -/
def fr (m : Nat) (A : List Nat) : Nat := ct (fun i => !bt A i) (8 * m)
/-- The document's list of what is taken. -/
def BL (m : Nat) (A : List Nat) : List Bool := false :: (List.range (8 * m)).map (bt A)

/-- Bytes of pages. -/
structure Pg (m : Nat) (A : List Nat) : Prop where
  len : A.length = 12
  lt : ∀ p, A.getD p 0 < 256
  m1 : 1 ≤ m
  m2 : m ≤ 12

theorem pop_zero : ∀ x, x < 256 → (pop x = 0 ↔ x = 0) := by decide +kernel
theorem pop_full : ∀ x, x < 256 → (pop x < 8 ↔ x ≠ 255) := by decide +kernel
theorem pop_le : ∀ x, x < 256 → pop x ≤ 8 := by decide +kernel
theorem lz_lt : ∀ x, x < 255 → lz x < 8 := by decide +kernel
theorem lz_at : ∀ x, x < 255 → x.testBit (lz x) = false := by decide +kernel
theorem lz_low : ∀ x, x < 256 → ∀ j, j < lz x → x.testBit j = true := by decide +kernel
theorem sb_lt : ∀ x, x < 256 → ∀ j, j < 8 → sb x j true < 256 ∧ sb x j false < 256 := by decide +kernel
theorem sb_on : ∀ x, x < 256 → ∀ j, j < 8 → ∀ k, k < 8 → (sb x j true).testBit k = if k = j then true else x.testBit k := by decide +kernel
theorem sb_off : ∀ x, x < 256 → ∀ j, j < 8 → ∀ k, k < 8 → (sb x j false).testBit k = if k = j then false else x.testBit k := by decide +kernel
theorem pop_free : ∀ x, x < 256 → ((List.range 8).filter fun j => !x.testBit j).length = 8 - pop x := by decide +kernel

theorem fi_succ (f : Nat → Bool) (k : Nat) : fi f (k + 1) = match fi f k with
  | some p => some p
  | none => if f k = true then some k else none := by
  unfold fi
  rw [List.range_succ, List.find?_append]
  cases h : (List.range k).find? f with
  | some p => rfl
  | none =>
    by_cases c : f k = true
    · simp [c]
    · simp [c]

theorem fi_some {f : Nat → Bool} {m p : Nat} (h : fi f m = some p) : p < m ∧ f p = true ∧ ∀ j, j < p → f j = false := by
  induction m with
  | zero => simp [fi] at h
  | succ k ih =>
    rw [fi_succ] at h
    cases e : fi f k with
    | some q =>
      rw [e] at h
      simp at h
      subst h
      have := ih e
      exact ⟨by omega, this.2⟩
    | none =>
      rw [e] at h
      by_cases c : f k = true
      · simp [c] at h
        subst h
        refine ⟨by omega, c, fun j hj => ?_⟩
        unfold fi at e
        rw [List.find?_eq_none] at e
        simpa using e j (by simpa using hj)
      · simp [c] at h

theorem fi_none {f : Nat → Bool} {m : Nat} (h : fi f m = none) : ∀ j, j < m → f j = false := by
  unfold fi at h
  rw [List.find?_eq_none] at h
  intro j hj
  simpa using h j (by simpa using hj)

theorem fi_no {f : Nat → Bool} {m : Nat} (h : ∀ j, j < m → f j = false) : fi f m = none := by
  unfold fi
  rw [List.find?_eq_none]
  intro j hj
  simp [h j (by simpa using hj)]

theorem fi_yes {f : Nat → Bool} {m p : Nat} (hp : p < m) (hf : f p = true) (h : ∀ j, j < p → f j = false) : fi f m = some p := by
  cases e : fi f m with
  | none => rw [fi_none e p hp] at hf; cases hf
  | some q =>
    obtain ⟨_, h2, h3⟩ := fi_some e
    congr 1
    rcases Nat.lt_trichotomy q p with g | g | g
    · rw [h q g] at h2; cases h2
    · exact g
    · rw [h3 p g] at hf; cases hf

theorem ct_succ (f : Nat → Bool) (k : Nat) : ct f (k + 1) = ct f k + (if f k = true then 1 else 0) := by
  unfold ct
  rw [List.range_succ, List.filter_append, List.length_append]
  by_cases c : f k = true
  · simp [c]
  · simp [c]

theorem ct_le (f : Nat → Bool) (k : Nat) : ct f k ≤ k := by
  unfold ct
  have := List.length_filter_le f (List.range k)
  simpa using this

theorem ct_page (A : List Nat) (k : Nat) (h : A.getD k 0 < 256) : ct (fun i => !bt A i) (8 * (k + 1)) = ct (fun i => !bt A i) (8 * k) + (8 - pop (A.getD k 0)) := by
  unfold ct
  rw [show 8 * (k + 1) = 8 * k + 8 by omega, List.range_add, List.filter_append, List.length_append, ← pop_free _ h, List.filter_map, List.length_map]
  congr 2
  apply List.filter_congr
  intro j hj
  have hj : j < 8 := by simpa using hj
  simp [bt, Function.comp, show (8 * k + j) / 8 = k by omega, show (8 * k + j) % 8 = j by omega]

theorem fr_le (m : Nat) (A : List Nat) : fr m A ≤ 8 * m := ct_le _ _

theorem pt_lt {m : Nat} {A : List Nat} (h : Pg m A) {p : Nat} (k : fu A p = false) : A.getD p 0 < 255 := by
  have := h.lt p
  unfold fu at k
  have : A.getD p 0 ≠ 255 := by simpa using k
  omega

theorem nx_some {m : Nat} {A : List Nat} (h : Pg m A) {p : Nat} (e : nx m A = some p) : p < m ∧ A.getD p 0 < 255 := by
  unfold nx at e
  cases g : fi (pt A) m with
  | some q =>
    rw [g] at e
    simp at e
    subst e
    obtain ⟨h1, h2, _⟩ := fi_some g
    unfold pt at h2
    simp at h2
    exact ⟨h1, pt_lt h h2.2⟩
  | none =>
    rw [g] at e
    simp at e
    obtain ⟨h1, h2, _⟩ := fi_some e
    unfold em at h2
    have : A.getD p 0 = 0 := by simpa using h2
    exact ⟨h1, by omega⟩

theorem getD_set (A : List Nat) (p y i : Nat) (hp : p < A.length) : (A.set p y).getD i 0 = if i = p then y else A.getD i 0 := by
  rw [List.getD_eq_getElem?_getD, List.getElem?_set]
  by_cases e : p = i
  · subst e
    simp [hp]
  · rw [if_neg e, if_neg (fun g => e g.symm), List.getD_eq_getElem?_getD]

theorem pg_set {m : Nat} {A : List Nat} (h : Pg m A) (p y : Nat) (hy : y < 256) : Pg m (A.set p y) := by
  refine ⟨by simp [h.len], fun i => ?_, h.m1, h.m2⟩
  rw [List.getD_eq_getElem?_getD, List.getElem?_set]
  by_cases e : p = i
  · subst e
    by_cases l : p < A.length
    · simp [l, hy]
    · simp [l]
  · rw [if_neg e, ← List.getD_eq_getElem?_getD]
    exact h.lt i

theorem pg_take {m : Nat} {A : List Nat} (h : Pg m A) : Pg m (tkA m A) := by
  unfold tkA
  cases e : nx m A with
  | none => exact h
  | some p =>
    obtain ⟨h1, h2⟩ := nx_some h e
    exact pg_set h _ _ (sb_lt _ (h.lt p) _ (lz_lt _ h2)).1

theorem pg_give {m : Nat} {A : List Nat} (h : Pg m A) (n : Int) : Pg m (gvA m A n) := by
  unfold gvA
  by_cases c : ou m A n = true
  · rw [if_pos c]
    exact pg_set h _ _ (sb_lt _ (h.lt _) _ (by omega)).2
  · rw [if_neg c]
    exact h

/-- What is taken behind the turn of one bit. -/
theorem bt_set {m : Nat} {A : List Nat} (h : Pg m A) (k : Nat) (hk : k < 8 * m) (b : Bool) (i : Nat) : bt (A.set (k / 8) (sb (A.getD (k / 8) 0) (k % 8) b)) i = if i = k then b else bt A i := by
  have := h.m2
  have := h.len
  unfold bt
  rw [getD_set _ _ _ _ (by omega)]
  by_cases e : i / 8 = k / 8
  · rw [if_pos e]
    have e2 : (sb (A.getD (k / 8) 0) (k % 8) b).testBit (i % 8) = if i % 8 = k % 8 then b else (A.getD (k / 8) 0).testBit (i % 8) := by
      cases b with
      | true => exact sb_on _ (h.lt _) _ (by omega) _ (by omega)
      | false => exact sb_off _ (h.lt _) _ (by omega) _ (by omega)
    rw [e2, e]
    by_cases g : i % 8 = k % 8
    · rw [if_pos g, if_pos (by omega)]
    · rw [if_neg g, if_neg (by omega)]
  · rw [if_neg e, if_neg (by intro g; exact e (by rw [g]))]

theorem bl_len (m : Nat) (A : List Nat) : (BL m A).length = 8 * m + 1 := by simp [BL]
theorem bl_at (m : Nat) (A : List Nat) (i : Nat) (hi : i < 8 * m) : (BL m A)[i + 1]? = some (bt A i) := by
  simp [BL, hi]
theorem bl_set {m : Nat} {A : List Nat} (h : Pg m A) (k : Nat) (hk : k < 8 * m) (b : Bool) : BL m (A.set (k / 8) (sb (A.getD (k / 8) 0) (k % 8) b)) = (BL m A).set (k + 1) b := by
  apply List.ext_getElem?
  intro i
  cases i with
  | zero => simp [BL]
  | succ i =>
    by_cases hi : i < 8 * m
    · rw [bl_at _ _ _ hi, bt_set h k hk, List.getElem?_set]
      by_cases e : i = k
      · subst e
        simp [bl_len, hk]
      · rw [if_neg e, if_neg (by omega), bl_at _ _ _ hi]
    · rw [List.getElem?_eq_none (by rw [bl_len]; omega), List.getElem?_eq_none (by rw [List.length_set, bl_len]; omega)]
end Go.Proofs.Ytibajjidigmkhaa.Om
