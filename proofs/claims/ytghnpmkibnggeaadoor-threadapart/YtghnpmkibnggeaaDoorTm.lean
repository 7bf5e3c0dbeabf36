/- Threads as plain records, by numbers that are given out: plain facts; no program in it. -/
import Derived.Test.YtghnpmkibnggeaaDoorSl
namespace Go.Proofs.YtghnpmkibnggeaaDoor.Tm
open Mm Sl

structure Th where
  prio : Int
  mask : Nat
  cpu : Int
  forced : Bool
  sleeps : Bool
  timer : Int

/-- A thread as it is at first; none. -/
def zt : Th := ⟨0, 0, 0, false, false, 0⟩
def nw (p : Int) (m : Nat) : Th := ⟨p, m, 0, false, false, 0⟩

/-- One of them turned. -/
def sx (X : Nat → Th) (i : Nat) (t : Th) : Nat → Th := fun j => if j = i then t else X j
theorem sx_same (X : Nat → Th) (i : Nat) (t : Th) : sx X i t i = t := if_pos rfl
theorem sx_other (X : Nat → Th) {i j : Nat} (h : j ≠ i) (t : Th) : sx X i t j = X j := if_neg h

/-- The numbers that are given out, one less, rising; those below one; those above it. -/
def dn (O : Nat → Bool) : List Nat := (List.range 32).filter fun i => O (i + 1)
def lo (O : Nat → Bool) (i : Nat) : List Nat := (List.range i).filter fun j => O (j + 1)
def hi (O : Nat → Bool) (i : Nat) : List Nat := (List.range' (i + 1) (31 - i)).filter fun j => O (j + 1)
/-- The threads that there are. -/
def yl (O : Nat → Bool) (X : Nat → Th) : List (Nat × Th) := (dn O).map fun i => (i, X i)

theorem li_dn (O : Nat → Bool) : li 32 O = (dn O).map fun i : Nat => ((i + 1 : Nat) : Int) := rfl
theorem dn_le (O : Nat → Bool) : (dn O).length ≤ 32 := by
  have := List.length_filter_le (fun i => O (i + 1)) (List.range 32)
  simpa [dn] using this
theorem yl_len (O : Nat → Bool) (X : Nat → Th) : (yl O X).length = (dn O).length := by simp [yl]
theorem dn_at (O : Nat → Bool) {i : Nat} (h : i < 32) : dn O = lo O i ++ (if O (i + 1) = true then i :: hi O i else hi O i) := by
  have e : List.range 32 = List.range i ++ i :: List.range' (i + 1) (31 - i) := by
    rw [List.range_eq_range', List.range_eq_range', ← List.range'_succ, show 31 - i + 1 = 32 - i by omega]
    have := List.range'_append_1 (s := 0) (m := i) (n := 32 - i)
    rw [Nat.zero_add, show i + (32 - i) = 32 by omega] at this
    exact this.symm
  unfold dn lo hi
  rw [e, List.filter_append, List.filter_cons]
theorem lo_mem {O : Nat → Bool} {i j : Nat} (h : j ∈ lo O i) : j < i := by
  have := (List.mem_filter.1 h).1
  simpa using this
theorem hi_mem {O : Nat → Bool} {i j : Nat} (h : j ∈ hi O i) : i < j := by
  have := List.mem_range'_1.1 (List.mem_filter.1 h).1
  omega
theorem lo_st (O : Nat → Bool) (i : Nat) (v : Bool) : lo (st O (i + 1) v) i = lo O i := by
  apply List.filter_congr
  intro j hj
  have : j < i := by simpa using hj
  exact if_neg (by omega)
theorem hi_st (O : Nat → Bool) (i : Nat) (v : Bool) : hi (st O (i + 1) v) i = hi O i := by
  apply List.filter_congr
  intro j hj
  have := List.mem_range'_1.1 hj
  exact if_neg (by omega)
theorem lo_sx (O : Nat → Bool) (X : Nat → Th) (i : Nat) (t : Th) : (lo O i).map (fun j => (j, sx X i t j)) = (lo O i).map fun j => (j, X j) := by
  apply List.map_congr_left
  intro j hj
  rw [sx_other X (by have := lo_mem hj; omega)]
theorem hi_sx (O : Nat → Bool) (X : Nat → Th) (i : Nat) (t : Th) : (hi O i).map (fun j => (j, sx X i t j)) = (hi O i).map fun j => (j, X j) := by
  apply List.map_congr_left
  intro j hj
  rw [sx_other X (by have := hi_mem hj; omega)]

theorem yl_with (O : Nat → Bool) (X : Nat → Th) {i : Nat} (h : i < 32) (ho : O (i + 1) = true) : yl O X = (lo O i).map (fun j => (j, X j)) ++ (i, X i) :: (hi O i).map fun j => (j, X j) := by
  unfold yl
  rw [dn_at O h, if_pos ho, List.map_append, List.map_cons]
theorem yl_none (O : Nat → Bool) (X : Nat → Th) {i : Nat} (h : i < 32) (ho : O (i + 1) = false) : yl O X = (lo O i).map (fun j => (j, X j)) ++ (hi O i).map fun j => (j, X j) := by
  unfold yl
  rw [dn_at O h, if_neg (by rw [ho]; simp), List.map_append]
theorem yl_upd (O : Nat → Bool) (X : Nat → Th) {i : Nat} (h : i < 32) (ho : O (i + 1) = true) (t : Th) : yl O (sx X i t) = (lo O i).map (fun j => (j, X j)) ++ (i, t) :: (hi O i).map fun j => (j, X j) := by
  rw [yl_with O _ h ho, lo_sx, hi_sx, sx_same]
theorem yl_new (O : Nat → Bool) (X : Nat → Th) {i : Nat} (h : i < 32) (t : Th) : yl (st O (i + 1) true) (sx X i t) = (lo O i).map (fun j => (j, X j)) ++ (i, t) :: (hi O i).map fun j => (j, X j) := by
  rw [yl_with _ _ h (if_pos rfl), lo_st, hi_st, lo_sx, hi_sx, sx_same]
theorem yl_del (O : Nat → Bool) (X : Nat → Th) {i : Nat} (h : i < 32) (t : Th) : yl (st O (i + 1) false) (sx X i t) = (lo O i).map (fun j => (j, X j)) ++ (hi O i).map fun j => (j, X j) := by
  rw [yl_none _ _ h (if_pos rfl), lo_st, hi_st, lo_sx, hi_sx]

/-- The place of a thread. -/
def fd (O : Nat → Bool) (n : Int) : Int := if hs 32 O n = true then ((lo O (n.toNat - 1)).length : Int) else -1

theorem hs_some {O : Nat → Bool} {n : Int} (h : hs 32 O n = true) : ∃ i : Nat, i < 32 ∧ n = (i : Int) + 1 ∧ n.toNat - 1 = i ∧ O (i + 1) = true := by
  unfold hs at h
  rw [Bool.and_eq_true] at h
  have h1 := of_decide_eq_true h.1
  have e : n.toNat = n.toNat - 1 + 1 := by omega
  exact ⟨n.toNat - 1, by omega, by omega, rfl, by rw [← e]; exact h.2⟩
theorem hs_of {O : Nat → Bool} {i : Nat} (h : i < 32) (ho : O (i + 1) = true) : hs 32 O ((i : Int) + 1) = true := by
  unfold hs
  rw [Bool.and_eq_true]
  exact ⟨decide_eq_true (by omega), by rw [show ((i : Int) + 1).toNat = i + 1 by omega]; exact ho⟩
theorem dn_mem {O : Nat → Bool} {i : Nat} : i ∈ dn O ↔ i < 32 ∧ O (i + 1) = true := by
  unfold dn
  rw [List.mem_filter, List.mem_range]
theorem dn_get {O : Nat → Bool} {k : Nat} (h : k < (dn O).length) : (dn O).getD k 0 < 32 ∧ O ((dn O).getD k 0 + 1) = true := by
  apply dn_mem.1
  rw [List.getD_eq_getElem?_getD, List.getElem?_eq_getElem h]
  exact List.getElem_mem _
theorem lo_place {O : Nat → Bool} {i k : Nat} (h : i < 32) (ho : O (i + 1) = true) (hk : k < (dn O).length) (e : (dn O).getD k 0 = i) : (lo O i).length = k := by
  rw [dn_at O h, if_pos ho] at e hk
  rw [List.getD_eq_getElem?_getD] at e
  rcases Nat.lt_trichotomy k (lo O i).length with c | c | c
  · rw [List.getElem?_append_left c, List.getElem?_eq_getElem c] at e
    have := lo_mem (List.getElem_mem c)
    simp at e
    omega
  · exact c.symm
  · rw [List.getElem?_append_right (by omega), show k - (lo O i).length = k - (lo O i).length - 1 + 1 by omega, List.getElem?_cons_succ] at e
    have hl : k - (lo O i).length - 1 < (hi O i).length := by simp at hk; omega
    rw [List.getElem?_eq_getElem hl] at e
    have := hi_mem (List.getElem_mem hl)
    simp at e
    omega
theorem fd_hit {O : Nat → Bool} {n : Int} {k : Nat} (h : k < (dn O).length) (e : (((dn O).getD k 0 : Nat) : Int) + 1 = n) : fd O n = k := by
  have g := dn_get h
  have hp := lo_place g.1 g.2 h rfl
  have hh := hs_of g.1 g.2
  rw [e] at hh
  unfold fd
  rw [if_pos hh, show n.toNat - 1 = (dn O).getD k 0 by omega, hp]
theorem fd_miss {O : Nat → Bool} {n : Int} (h : ∀ k, k < (dn O).length → (((dn O).getD k 0 : Nat) : Int) + 1 ≠ n) : fd O n = -1 := by
  unfold fd
  rw [if_neg]
  intro hh
  obtain ⟨i, h1, h2, _, h4⟩ := hs_some hh
  obtain ⟨k, hk, e⟩ := List.mem_iff_getElem.1 (dn_mem.2 ⟨h1, h4⟩)
  apply h k hk
  rw [List.getD_eq_getElem?_getD, List.getElem?_eq_getElem hk, e]
  simp [h2]
theorem fd_no {O : Nat → Bool} {n : Int} (h : hs 32 O n = false) : fd O n = -1 := by
  unfold fd
  rw [if_neg (by rw [h]; simp)]
theorem fd_yes {O : Nat → Bool} {n : Int} (h : hs 32 O n = true) : fd O n = ((lo O (n.toNat - 1)).length : Int) := if_pos h
theorem lo_lt {O : Nat → Bool} {i : Nat} (h : i < 32) (ho : O (i + 1) = true) : (lo O i).length < (dn O).length := by
  rw [dn_at O h, if_pos ho]
  simp
theorem dn_lo {O : Nat → Bool} {i : Nat} (h : i < 32) (ho : O (i + 1) = true) : (dn O).getD (lo O i).length 0 = i := by
  rw [dn_at O h, if_pos ho, List.getD_eq_getElem?_getD, List.getElem?_append_right (Nat.le_refl _)]
  simp

/-- The lowest one that is free. -/
theorem ff_is {O : Nat → Bool} : (ff 32 O = none ∧ (dn O).length = 32) ∨ ∃ i, ff 32 O = some i ∧ i < 32 ∧ O (i + 1) = false ∧ lo O i = List.range i ∧ (dn O).length < 32 := by
  cases e : ff 32 O with
  | none =>
    refine Or.inl ⟨rfl, ?_⟩
    unfold ff at e
    rw [List.find?_eq_none] at e
    have : dn O = List.range 32 := by
      unfold dn
      rw [List.filter_eq_self]
      intro j hj
      simpa using e j hj
    rw [this]
    simp
  | some i =>
    unfold ff at e
    rw [List.find?_range_eq_some] at e
    obtain ⟨h1, h2, h3⟩ := e
    have h2' : i < 32 := List.mem_range.1 h2
    have ho : O (i + 1) = false := by simpa using h1
    refine Or.inr ⟨i, rfl, h2', ho, ?_, ?_⟩
    · unfold lo
      rw [List.filter_eq_self]
      intro j hj
      have := h3 j (by simpa using hj)
      simpa using this
    · rw [dn_at O h2', if_neg (by rw [ho]; simp), List.length_append]
      have a := List.length_filter_le (fun j => O (j + 1)) (List.range i)
      have b := List.length_filter_le (fun j => O (j + 1)) (List.range' (i + 1) (31 - i))
      rw [List.length_range] at a
      rw [List.length_range'] at b
      unfold lo hi
      omega
/-- Where the lowest free number goes: behind as many, each in its place. -/
theorem full_at {O : Nat → Bool} {i k : Nat} (h : i < 32) (ho : O (i + 1) = false) (hl : lo O i = List.range i) (hk : k < (dn O).length) : (k < i → (dn O).getD k 0 = k) ∧ (i ≤ k → k < (dn O).getD k 0) := by
  have e := dn_at O h
  rw [if_neg (by rw [ho]; simp), hl] at e
  rw [e] at hk ⊢
  refine ⟨fun c => ?_, fun c => ?_⟩
  · rw [List.getD_eq_getElem?_getD, List.getElem?_append_left (by simpa using c), List.getElem?_range c]
    rfl
  · rw [List.getD_eq_getElem?_getD, List.getElem?_append_right (by simpa using c), List.length_range]
    rw [List.length_append, List.length_range] at hk
    have hk2 : k - i < (hi O i).length := by omega
    rw [List.getElem?_eq_getElem hk2]
    have hp : (hi O i).Pairwise (· < ·) := List.Pairwise.filter _ List.pairwise_lt_range'
    show k < (hi O i)[k - i]
    clear hk e
    have key : ∀ (L : List Nat) (a q : Nat) (hq : q < L.length), L.Pairwise (· < ·) → (∀ x ∈ L, a < x) → a + q < L[q] := by
      intro L
      induction L with
      | nil => intro a q hq; simp at hq
      | cons x r ih =>
        intro a q hq hp ha
        rw [List.pairwise_cons] at hp
        cases q with
        | zero => simpa using ha x (by simp)
        | succ q =>
          have := ih x q (by simpa using hq) hp.2 hp.1
          have hx := ha x (by simp)
          simp only [List.getElem_cons_succ]
          omega
    have := key (hi O i) i (k - i) hk2 hp (fun x hx => hi_mem hx)
    omega

/- What the calls answer, and what is there then. -/
def can (c m : Nat) : Bool := decide (m ≠ 0) && decide (nt m (up (c : Int)) = 0)
def spB (c : Nat) (p : Int) (m : Nat) : Bool := decide (0 ≤ p ∧ p < 8) && can c m
def spN (c : Nat) (O : Nat → Bool) (p : Int) (m : Nat) : Int := if spB c p m = true then tN (ff 32 O) else 0
def spE (c : Nat) (O : Nat → Bool) (p : Int) (m : Nat) : Int := if spB c p m = true then tE (ff 32 O) else 2
def spO (c : Nat) (O : Nat → Bool) (p : Int) (m : Nat) : Nat → Bool := if spB c p m = true then tO O (ff 32 O) else O
def tX (X : Nat → Th) (t : Th) : Option Nat → (Nat → Th) | some i => sx X i t | none => X
def spX (c : Nat) (O : Nat → Bool) (X : Nat → Th) (p : Int) (m : Nat) : Nat → Th := if spB c p m = true then tX X (nw p m) (ff 32 O) else X
def exX (O : Nat → Bool) (X : Nat → Th) (n : Int) : Nat → Th := if hs 32 O n = true then sx X (n.toNat - 1) zt else X
def gtX (O : Nat → Bool) (X : Nat → Th) (n : Int) : Th := if hs 32 O n = true then X (n.toNat - 1) else zt
def amE (c : Nat) (O : Nat → Bool) (n : Int) (m : Nat) : Int := if hs 32 O n = true then (if can c m = true then 0 else 2) else 4
def amX (c : Nat) (O : Nat → Bool) (X : Nat → Th) (n : Int) (m : Nat) : Nat → Th := if hs 32 O n = true ∧ can c m = true then sx X (n.toNat - 1) { X (n.toNat - 1) with mask := m } else X
def plE (c : Nat) (O : Nat → Bool) (n u : Int) : Int := if hs 32 O n = true then (if 0 ≤ u ∧ u < c then 0 else 3) else 4
def plX (c : Nat) (O : Nat → Bool) (X : Nat → Th) (n u : Int) (f : Bool) : Nat → Th := if hs 32 O n = true ∧ (0 ≤ u ∧ u < c) then sx X (n.toNat - 1) { X (n.toNat - 1) with cpu := u, forced := f } else X
def slE (O : Nat → Bool) (X : Nat → Th) (n : Int) : Int := if hs 32 O n = true then (if (X (n.toNat - 1)).sleeps = true then 6 else 0) else 4
def slX (O : Nat → Bool) (X : Nat → Th) (n t : Int) : Nat → Th := if hs 32 O n = true ∧ (X (n.toNat - 1)).sleeps = false then sx X (n.toNat - 1) { X (n.toNat - 1) with sleeps := true, timer := t } else X
def wkE (O : Nat → Bool) (X : Nat → Th) (n : Int) : Int := if hs 32 O n = true then (if (X (n.toNat - 1)).sleeps = true then 0 else 6) else 4
def wkN (O : Nat → Bool) (X : Nat → Th) (n : Int) : Int := if hs 32 O n = true ∧ (X (n.toNat - 1)).sleeps = true then (X (n.toNat - 1)).timer else 0
def wkX (O : Nat → Bool) (X : Nat → Th) (n : Int) : Nat → Th := if hs 32 O n = true ∧ (X (n.toNat - 1)).sleeps = true then sx X (n.toNat - 1) { X (n.toNat - 1) with sleeps := false, timer := 0 } else X
end Go.Proofs.YtghnpmkibnggeaaDoor.Tm
