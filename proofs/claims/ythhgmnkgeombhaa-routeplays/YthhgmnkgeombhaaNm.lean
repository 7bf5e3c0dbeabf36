/- The cores of interrupts, as plain numbers (-1: it has none): plain facts; no program in it. -/
import Derived.Test.YthhgmnkgeombhaaMm
namespace Go.Proofs.Ythhgmnkgeombhaa.Nm
open Mm

/-- One of them turned. -/
def sp (P : Nat → Int) (i : Nat) (u : Int) : Nat → Int := fun j => if j = i then u else P j
theorem sp_same (P : Nat → Int) (i : Nat) (u : Int) : sp P i u i = u := if_pos rfl
theorem sp_other (P : Nat → Int) {i j : Nat} (h : j ≠ i) (u : Int) : sp P i u j = P j := if_neg h

/-- Each has a core that there is, or none. -/
def okP (c : Nat) (P : Nat → Int) : Prop := ∀ i, i < 16 → -1 ≤ P i ∧ P i < c
theorem okP_new (c : Nat) (h : 1 ≤ c) : okP c fun _ => -1 := fun _ _ => ⟨by show (-1 : Int) ≤ -1; omega, by show (-1 : Int) < c; omega⟩
theorem okP_sp {c : Nat} {P : Nat → Int} (h : okP c P) (i : Nat) {u : Int} (h1 : -1 ≤ u) (h2 : u < c) : okP c (sp P i u) := fun j hj => by
  by_cases e : j = i
  · subst e
    rw [sp_same]
    exact ⟨h1, h2⟩
  · rw [sp_other P e]
    exact h j hj

def is (n : Int) : Bool := decide (0 ≤ n ∧ n < 16)
theorem is_some {n : Int} (h : is n = true) : ∃ i : Nat, i < 16 ∧ n = (i : Int) ∧ n.toNat = i := by
  have := of_decide_eq_true h
  exact ⟨n.toNat, by omega, by omega, rfl⟩
theorem is_none {n : Int} (h : is n = false) : n < 0 ∨ 16 ≤ n := by
  have := of_decide_eq_false h
  omega
theorem is_nat {i : Nat} (h : i < 16) : is (i : Int) = true := decide_eq_true (by omega)

/-- Has it a core? Which (0, if none)? -/
def th (P : Nat → Int) (i : Nat) : Bool := decide (0 ≤ P i)
def cp (P : Nat → Int) (i : Nat) : Int := if 0 ≤ P i then P i else 0

/- What the calls answer, and what is there then. -/
def inC (c : Nat) (u : Int) : Bool := decide (0 ≤ u ∧ u < c)
def stE (c : Nat) (n u : Int) : Int := if is n = true then (if inC c u = true then 0 else 3) else 3
def ofE (P : Nat → Int) (n : Int) : Int := if is n = true then (if th P n.toNat = true then 0 else 4) else 3
def ofN (P : Nat → Int) (n : Int) : Int := if is n = true then cp P n.toNat else 0
def ofB (P : Nat → Int) (n : Int) : Bool := is n && th P n.toNat
def stp (e : Int) (P : Nat → Int) (n u : Int) : Nat → Int := if e = 0 then sp P n.toNat u else P
theorem stp_ok (P : Nat → Int) (n u : Int) : stp 0 P n u = sp P n.toNat u := if_pos rfl
theorem stp_no {e : Int} (h : e ≠ 0) (P : Nat → Int) (n u : Int) : stp e P n u = P := if_neg h

/-- Does it go to that core? -/
def on (P : Nat → Int) (u : Int) : Nat → Bool := fun i => decide (0 ≤ P i) && (P i == u)
/-- The cores of the first k. -/
def cl (P : Nat → Int) (k : Nat) : Nat := wl 0 ((List.range k).map P)
theorem cl_lt (P : Nat → Int) (k : Nat) : cl P k < 18446744073709551616 := wl_lt _ _ (by omega)
theorem cl_succ (P : Nat → Int) (k : Nat) : cl P (k + 1) = cl P k ||| bv (P k) := by
  unfold cl
  rw [List.range_succ, List.map_append]
  exact wl_snoc _ _ _
theorem cl_yes (P : Nat → Int) (k : Nat) (h : th P k = true) : cl P (k + 1) = wl (cl P k) [cp P k] := by
  have := of_decide_eq_true h
  rw [cl_succ, show cp P k = P k from if_pos this]
  rfl
theorem cl_no (P : Nat → Int) (k : Nat) (h : th P k = false) : cl P (k + 1) = cl P k := by
  have := of_decide_eq_false h
  rw [cl_succ, bv_none _ (by omega), Nat.or_zero]
theorem on_no (P : Nat → Int) (u : Int) (k : Nat) (h : th P k = false) : on P u k = false := by
  unfold on
  rw [show decide (0 ≤ P k) = false from h]
  rfl
theorem on_yes (P : Nat → Int) (u : Int) (k : Nat) (h : th P k = true) : on P u k = (cp P k == u) := by
  have := of_decide_eq_true h
  unfold on
  rw [show decide (0 ≤ P k) = true from h, show cp P k = P k from if_pos this]
  rfl
theorem on_at (P : Nat → Int) (u : Int) (k : Nat) (h : 0 ≤ u) : on P u k = (P k == u) := by
  unfold on
  by_cases e : P k = u
  · rw [decide_eq_true (by omega)]
    rfl
  · have : (P k == u) = false := by simpa using e
    rw [this, Bool.and_false]
theorem on_neg (P : Nat → Int) (u : Int) (h : u < 0) (k : Nat) : on P u k = false := by
  unfold on
  by_cases e : 0 ≤ P k
  · have : (P k == u) = false := by rw [beq_eq_false_iff_ne]; omega
    rw [this, Bool.and_false]
  · rw [decide_eq_false e]
    rfl
theorem up_has {c : Nat} (h : c ≤ 64) (u : Int) : tb (up (c : Int)) u = inC c u := by
  unfold inC
  by_cases e : 0 ≤ u ∧ u < 64
  · rw [tb_some _ _ e, bit_up]
    have : u.toNat < 64 := by omega
    by_cases g : u < c
    · rw [decide_eq_true (by omega), decide_eq_true (by omega)]
    · rw [decide_eq_false (by omega), decide_eq_false (by omega)]
  · rw [tb_none _ _ e, decide_eq_false (by omega)]
end Go.Proofs.Ythhgmnkgeombhaa.Nm
