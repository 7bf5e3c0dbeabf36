/- Numbers in parts and their sum, in two words of 64 bits: plain facts; no program in it. -/
import Derived.WalkKit
import Derived.ProofKit
namespace Go.Proofs.Ytbmdfoohabipjaa.Pm

/-- The number itself where 64 bits with a sign hold it; else 0. -/
def fv (n : Int) : Int := if -9223372036854775808 ≤ n ∧ n ≤ 9223372036854775807 then n else 0
/-- 0 where 64 bits with a sign hold the number; else the error of what does not fit. -/
def fe (n : Int) : Int := if -9223372036854775808 ≤ n ∧ n ≤ 9223372036854775807 then 0 else 16
/-- Is there such a core? -/
def ic (L : List Int) (c : Int) : Bool := decide (0 ≤ c ∧ c < (L.length : Int))
def at' (L : List Int) (c : Int) : Int := L.getD c.toNat 0
def adE (L : List Int) (c n : Int) : Int := if ic L c = true then fe (at' L c + n) else 3
def adL (L : List Int) (c n : Int) : List Int := if ic L c = true ∧ fe (at' L c + n) = 0 then L.set c.toNat (at' L c + n) else L
def fdE (L : List Int) (f t : Int) : Int := if ic L f = true ∧ ic L t = true then if f = t then 2 else fe (at' L t + at' L f) else 3
def fdL (L : List Int) (f t : Int) : List Int := if ic L f = true ∧ ic L t = true ∧ f ≠ t ∧ fe (at' L t + at' L f) = 0 then (L.set t.toNat (at' L t + at' L f)).set f.toNat 0 else L
def gtN (L : List Int) (c : Int) : Int := if ic L c = true then at' L c else 0
def gtE (L : List Int) (c : Int) : Int := if ic L c = true then 0 else 3

/-- What 64 bits with a sign hold. -/
def I64 (x : Int) : Prop := -9223372036854775808 ≤ x ∧ x ≤ 9223372036854775807
/-- A number for each of 1 to 64 cores. -/
structure Pt (L : List Int) : Prop where
  n1 : 1 ≤ L.length
  n2 : L.length ≤ 64
  rg : ∀ x ∈ L, I64 x

theorem ic_lt {L : List Int} {c : Int} (h : ic L c = true) : 0 ≤ c ∧ c < (L.length : Int) ∧ c.toNat < L.length := by
  have := of_decide_eq_true h
  omega
theorem Pt.at {L : List Int} (h : Pt L) {c : Int} (hc : ic L c = true) : I64 (at' L c) := by
  have hl := (ic_lt hc).2.2
  refine h.rg _ ?_
  unfold at'
  rw [List.getD_eq_getElem?_getD, List.getElem?_eq_getElem hl]
  exact List.getElem_mem hl
theorem pt_set {L : List Int} (h : Pt L) (i : Nat) (x : Int) (hx : I64 x) : Pt (L.set i x) := by
  refine ⟨by simpa using h.n1, by simpa using h.n2, fun y hy => ?_⟩
  rcases List.mem_or_eq_of_mem_set hy with g | g
  · exact h.rg y g
  · exact g ▸ hx
theorem fe_zero {n : Int} (h : fe n = 0) : I64 n := by
  unfold fe at h
  unfold I64
  split at h
  · assumption
  · omega
theorem fe_ok {n : Int} (h : I64 n) : fe n = 0 ∧ fv n = n := ⟨if_pos h, if_pos h⟩
theorem fe_no {n : Int} (h : ¬ I64 n) : fe n = 16 ∧ fv n = 0 := ⟨if_neg h, if_neg h⟩
theorem pt_ad {L : List Int} (h : Pt L) (c n : Int) : Pt (adL L c n) := by
  unfold adL
  split
  · rename_i g
    exact pt_set h _ _ (fe_zero g.2)
  · exact h
theorem pt_fd {L : List Int} (h : Pt L) (f t : Int) : Pt (fdL L f t) := by
  unfold fdL
  split
  · rename_i g
    exact pt_set (pt_set h _ _ (fe_zero g.2.2.2)) _ _ (by unfold I64; omega)
  · exact h
theorem pt_new (m : Nat) (h1 : 1 ≤ m) (h2 : m ≤ 64) : Pt (List.replicate m 0) :=
  ⟨by simpa using h1, by simpa using h2, fun x hx => by rw [List.eq_of_mem_replicate hx]; unfold I64; omega⟩

/- sums -/
theorem sum_set : ∀ (L : List Int) (i : Nat) (x : Int), i < L.length → (L.set i x).sum = L.sum + x - L.getD i 0
  | [], i, x, h => by simp at h
  | a :: t, 0, x, _ => by simp [List.getD]; omega
  | a :: t, i + 1, x, h => by
    have ih := sum_set t i x (by simpa using h)
    simp only [List.set_cons_succ, List.sum_cons, ih]
    have e : (a :: t).getD (i + 1) 0 = t.getD i 0 := by simp [List.getD]
    rw [e]
    omega
theorem getD_set_ne (L : List Int) (i j : Nat) (x : Int) (h : i ≠ j) : (L.set i x).getD j 0 = L.getD j 0 := by
  simp only [List.getD, List.getElem?_set]
  rw [if_neg h]
theorem sum_ad (L : List Int) (c n : Int) : (adE L c n = 0 ∧ (adL L c n).sum = L.sum + n) ∨ ((adE L c n == 0) = false ∧ adL L c n = L) := by
  unfold adE adL
  cases i : ic L c
  · exact Or.inr ⟨by simp, by simp⟩
  · by_cases e : fe (at' L c + n) = 0
    · refine Or.inl ⟨by simp [e], ?_⟩
      rw [if_pos ⟨rfl, e⟩, sum_set _ _ _ (ic_lt i).2.2]
      unfold at'
      omega
    · exact Or.inr ⟨by simp [e], by rw [if_neg (fun q => e q.2)]⟩
theorem sum_fd (L : List Int) (f t : Int) : (fdL L f t).sum = L.sum := by
  unfold fdL
  split
  · rename_i g
    obtain ⟨g1, g2, g3, g4⟩ := g
    obtain ⟨a1, a2, a3⟩ := ic_lt g1
    obtain ⟨b1, b2, b3⟩ := ic_lt g2
    rw [sum_set _ _ _ (by simpa using a3), sum_set _ _ _ b3, getD_set_ne _ _ _ _ (by omega)]
    unfold at'
    omega
  · rfl
theorem sum_take (L : List Int) (k : Nat) (h : k < L.length) : (L.take (k + 1)).sum = (L.take k).sum + L.getD k 0 := by
  have e : L.getD k 0 = L[k] := by simp [List.getD, h]
  rw [e, List.take_succ_eq_append_getElem h, List.sum_append, List.sum_cons, List.sum_nil, Int.add_zero]
theorem sum_le {L : List Int} (h : Pt L) (k : Nat) (hk : k ≤ L.length) : -(9223372036854775808 * (k : Int)) ≤ (L.take k).sum ∧ (L.take k).sum ≤ 9223372036854775807 * (k : Int) := by
  induction k with
  | zero => simp
  | succ k ih =>
    have i1 := ih (by omega)
    rw [sum_take L k (by omega)]
    have hm : I64 (L.getD k 0) := by
      refine h.rg _ ?_
      rw [List.getD_eq_getElem?_getD, List.getElem?_eq_getElem (by omega : k < L.length)]
      exact List.getElem_mem _
    unfold I64 at hm
    generalize (L.take k).sum = S at *
    generalize L.getD k 0 = x at *
    have e : ((k + 1 : Nat) : Int) = (k : Int) + 1 := by omega
    rw [e, Int.mul_add, Int.mul_add]
    omega

/-- A sum in two words. -/
def lo (S : Int) : Int := S % 18446744073709551616
def hi (S : Int) : Int := (S / 18446744073709551616) % 18446744073709551616
def sg (n : Int) : Int := if n < 0 then 18446744073709551615 else 0

theorem lo_step (S n : Int) : (lo S + lo n + 0) % 18446744073709551616 = lo (S + n) := by unfold lo; omega
theorem hi_step (S n : Int) (hn : I64 n) : (hi S + (sg n + (lo S + lo n + 0) / 18446744073709551616) % 18446744073709551616) % 18446744073709551616 = hi (S + n) := by
  unfold I64 at hn
  have a : n / 18446744073709551616 = if n < 0 then -1 else 0 := by split <;> omega
  unfold hi sg lo
  split at a
  · rw [if_pos (by assumption)]
    omega
  · rw [if_neg (by assumption)]
    omega
theorem fits (S : Int) (h1 : -(9223372036854775808 * 64) ≤ S) (h2 : S ≤ 9223372036854775807 * 64) (x : Int) (hx : x = (lo S + 9223372036854775808) % 18446744073709551616 - 9223372036854775808) :
    (I64 S ∧ x = S ∧ (hi S != sg x) = false) ∨ (¬ I64 S ∧ (hi S != sg x) = true) := by
  subst hx
  by_cases c : I64 S
  · refine Or.inl ⟨c, ?_⟩
    unfold I64 at c
    have e : (lo S + 9223372036854775808) % 18446744073709551616 - 9223372036854775808 = S := by unfold lo; omega
    rw [e]
    refine ⟨rfl, ?_⟩
    have : hi S = sg S := by
      unfold hi sg
      split <;> omega
    simp [this]
  · refine Or.inr ⟨c, ?_⟩
    unfold I64 at c
    have : hi S ≠ sg ((lo S + 9223372036854775808) % 18446744073709551616 - 9223372036854775808) := by
      unfold hi sg lo
      split <;> omega
    simpa using this
end Go.Proofs.Ytbmdfoohabipjaa.Pm
