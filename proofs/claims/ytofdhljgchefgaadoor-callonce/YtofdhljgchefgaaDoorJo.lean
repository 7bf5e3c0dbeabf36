/- Calls that are sent to one core, moved to another one, and taken: plain facts; no program in it. -/
import Derived.Test.YtofdhljgchefgaaDoorCm
namespace Go.Proofs.YtofdhljgchefgaaDoor.Cm
open Fm Sl

/-- The numbers a + 1 to b. -/
def sq (a b : Nat) : List Int := (List.range' a (b - a)).map fun j : Nat => (j : Int) + 1
theorem mem_sq {a b : Nat} {x : Int} : x ∈ sq a b ↔ (a : Int) + 1 ≤ x ∧ x ≤ (b : Int) := by
  unfold sq
  simp only [List.mem_map, List.mem_range'_1]
  constructor
  · rintro ⟨j, ⟨h1, h2⟩, rfl⟩
    omega
  · rintro ⟨h1, h2⟩
    exact ⟨(x - 1).toNat, by omega, by omega⟩
theorem sq_snoc {a b : Nat} (h : a ≤ b) : sq a (b + 1) = sq a b ++ [(b : Int) + 1] := by
  unfold sq
  rw [show b + 1 - a = (b - a) + 1 by omega, List.range'_concat, List.map_append, List.map_singleton]
  simp
  omega
theorem sq_cons {a b : Nat} (h : a < b) : sq a b = ((a : Int) + 1) :: sq (a + 1) b := by
  unfold sq
  rw [show b - a = (b - (a + 1)) + 1 by omega, List.range'_succ, List.map_cons]
theorem sq_nil {a b : Nat} (h : b ≤ a) : sq a b = [] := by
  unfold sq
  rw [show b - a = 0 by omega]
  rfl
theorem onc2_none {A B : List Int} {id : Int} : onc [A, B] id = none ↔ id ∉ A ∧ id ∉ B := by
  rw [onc_none]
  constructor
  · intro h
    exact ⟨h 0, h 1⟩
  · intro h c
    match c with
    | 0 => exact h.1
    | 1 => exact h.2
    | c + 2 => simp [ks]
theorem nx_sq {k : Nat} (h : k < 32) : nx [sq 0 k, []] = some k := by
  refine nx_is h ?_ fun j hj => ?_
  · rw [onc2_none, mem_sq]
    refine ⟨by omega, by simp⟩
  · rw [ne_eq, onc2_none, mem_sq]
    intro q
    exact q.1 (by omega)

theorem send_sq {k : Nat} (h : k < 32) : seN [sq 0 k, []] 0 = (k : Int) + 1 ∧ seE [sq 0 k, []] 0 = 0 ∧ seK [sq 0 k, []] 0 = [sq 0 (k + 1), []] := by
  have i : isc [sq 0 k, []].length 0 = true := rfl
  unfold seN seE seK
  rw [if_pos i, if_pos i, if_pos i, nx_sq h, sq_snoc (by omega)]
  refine ⟨by simp [tN], rfl, by simp [psh, ks]⟩
theorem move_sq {m n : Nat} (h : m < n) : moN [sq m n, sq 0 m] 0 1 = (m : Int) + 1 ∧ moE [sq m n, sq 0 m] 0 1 = 0 ∧ moK [sq m n, sq 0 m] 0 1 = [sq (m + 1) n, sq 0 (m + 1)] := by
  have i : isc [sq m n, sq 0 m].length 0 = true ∧ isc [sq m n, sq 0 m].length 1 = true ∧ (0 : Int) ≠ 1 := by simp [isc]
  unfold moN moE moK
  rw [if_pos i, if_pos ⟨i.1, i.2.1⟩, if_neg i.2.2, if_pos i]
  have e0 : ks [sq m n, sq 0 m] (0 : Int).toNat = sq m n := rfl
  have e1 : ks [sq m n, sq 0 m] (1 : Int).toNat = sq 0 m := rfl
  unfold mv
  rw [e0, e1, sq_cons h, sq_snoc (a := 0) (b := m) (by omega)]
  exact ⟨rfl, rfl, rfl⟩
/-- What is left behind t takes. -/
def le3 (n m t : Nat) : Ks := [sq (max m t) n, sq t m]
theorem take_sq {n m t : Nat} (h : t < n) : ckN (le3 n m t) (if t < m then 1 else 0) = (t : Int) + 1 ∧ ckE (le3 n m t) (if t < m then 1 else 0) = 0 ∧ ckK (le3 n m t) (if t < m then 1 else 0) = le3 n m (t + 1) := by
  by_cases q : t < m
  · rw [if_pos q]
    have i : isc (le3 n m t).length 1 = true := rfl
    unfold ckN ckE ckK
    rw [if_pos i, if_pos i, if_pos i]
    unfold le3
    have e1 : ks [sq (max m t) n, sq t m] (1 : Int).toNat = sq t m := rfl
    rw [e1, sq_cons q, show max m t = m by omega, show max m (t + 1) = m by omega]
    exact ⟨rfl, rfl, rfl⟩
  · rw [if_neg q]
    have i : isc (le3 n m t).length 0 = true := rfl
    unfold ckN ckE ckK
    rw [if_pos i, if_pos i, if_pos i]
    unfold le3
    have e1 : ks [sq (max m t) n, sq t m] (0 : Int).toNat = sq (max m t) n := rfl
    rw [e1, show max m t = t by omega, sq_cons h, show max m (t + 1) = t + 1 by omega, sq_nil (a := t) (b := m) (by omega), sq_nil (a := t + 1) (b := m) (by omega)]
    exact ⟨rfl, rfl, rfl⟩
theorem has_sq {n m t : Nat} : haB (le3 n m (t + 1)) ((t : Int) + 1) = false := by
  unfold haB le3
  have : onc [sq (max m (t + 1)) n, sq (t + 1) m] ((t : Int) + 1) = none := by
    rw [onc2_none, mem_sq, mem_sq]
    omega
  rw [this]
  rfl
theorem load_sq {n m : Nat} (h : m ≤ n) : (clL (le3 n m n) 0).length = 0 ∧ (clL (le3 n m n) 1).length = 0 := by
  unfold le3
  rw [sq_nil (a := max m n) (b := n) (by omega), sq_nil (a := n) (b := m) (by omega)]
  exact ⟨rfl, rfl⟩
end Go.Proofs.YtofdhljgchefgaaDoor.Cm
