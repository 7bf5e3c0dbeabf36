/- Interrupts as plain records, by their numbers: plain facts; no program in it. -/
import Derived.Test.YthhgmnkgeombhaaMm
namespace Go.Proofs.Ythhgmnkgeombhaa.Bm
open Mm

structure Iq where
  wt : Bool
  ms : Bool
  pd : Bool
  bs : Nat

/-- One that is not wanted; one that is wanted anew. -/
def zi : Iq := ⟨false, false, false, 0⟩
def nw (m : Nat) : Iq := ⟨true, false, false, m⟩

/-- One of them turned. -/
def sx (X : Nat → Iq) (i : Nat) (t : Iq) : Nat → Iq := fun j => if j = i then t else X j
theorem sx_same (X : Nat → Iq) (i : Nat) (t : Iq) : sx X i t i = t := if_pos rfl
theorem sx_other (X : Nat → Iq) {i j : Nat} (h : j ≠ i) (t : Iq) : sx X i t j = X j := if_neg h
theorem sx_sx (X : Nat → Iq) (i : Nat) (t u : Iq) : sx (sx X i t) i u = sx X i u := by
  funext j
  unfold sx
  split <;> rfl

/-- Is there such an interrupt? May it be for these cores? -/
def is (n : Int) : Bool := decide (0 ≤ n ∧ n < 16)
def can (c m : Nat) : Bool := decide (m ≠ 0) && decide (nt m (up (c : Int)) = 0)
/-- Can it be handled? -/
def rdy (t : Iq) : Bool := t.wt && t.pd && !t.ms

/- What the calls answer, and what is there then. -/
def atE (n : Int) : Int := if is n = true then 0 else 3
def waE (X : Nat → Iq) (n : Int) : Int := if is n = true then (if (X n.toNat).wt = true then 0 else 4) else 3
def rqE (c : Nat) (X : Nat → Iq) (n : Int) (m : Nat) : Int := if is n = true then (if (X n.toNat).wt = true then 6 else if can c m = true then 0 else 2) else 3
def amE (c : Nat) (X : Nat → Iq) (n : Int) (m : Nat) : Int := if waE X n = 0 then (if can c m = true then 0 else 2) else waE X n
def hsE (X : Nat → Iq) (n : Int) (b : Bool) : Int := if waE X n = 0 then (if (X n.toNat).ms = b then 6 else 0) else waE X n
def clE (X : Nat → Iq) (n : Int) : Int := if waE X n = 0 then (if rdy (X n.toNat) = true then 0 else 12) else waE X n
/-- What is there behind a call that ended so: one turned, or all as it was. -/
def stp (e : Int) (X : Nat → Iq) (n : Int) (t : Iq) : Nat → Iq := if e = 0 then sx X n.toNat t else X
theorem stp_ok (X : Nat → Iq) (n : Int) (t : Iq) : stp 0 X n t = sx X n.toNat t := if_pos rfl
theorem stp_no {e : Int} (h : e ≠ 0) (X : Nat → Iq) (n : Int) (t : Iq) : stp e X n t = X := if_neg h

def rdB (X : Nat → Iq) (n : Int) : Bool := is n && rdy (X n.toNat)
def gtX (X : Nat → Iq) (n : Int) : Iq := if is n = true then X n.toNat else zi

theorem is_some {n : Int} (h : is n = true) : ∃ i : Nat, i < 16 ∧ n = (i : Int) ∧ n.toNat = i := by
  have := of_decide_eq_true h
  exact ⟨n.toNat, by omega, by omega, rfl⟩
theorem is_none {n : Int} (h : is n = false) : n < 0 ∨ 16 ≤ n := by
  have := of_decide_eq_false h
  omega
theorem is_nat {i : Nat} (h : i < 16) : is (i : Int) = true := decide_eq_true (by omega)

theorem wa_some {X : Nat → Iq} {n : Int} (h : waE X n = 0) : ∃ i : Nat, i < 16 ∧ n = (i : Int) ∧ n.toNat = i ∧ (X i).wt = true := by
  unfold waE at h
  by_cases e : is n = true
  · rw [if_pos e] at h
    obtain ⟨i, h1, h2, h3⟩ := is_some e
    rw [h3] at h
    cases q : (X i).wt with
    | true => exact ⟨i, h1, h2, h3, q⟩
    | false => rw [q] at h; simp at h
  · rw [if_neg e] at h
    omega
theorem wa_nat {X : Nat → Iq} {i : Nat} (h : i < 16) (q : (X i).wt = true) : waE X (i : Int) = 0 := by
  unfold waE
  rw [if_pos (is_nat h), Int.toNat_natCast, if_pos q]
end Go.Proofs.Ythhgmnkgeombhaa.Bm
