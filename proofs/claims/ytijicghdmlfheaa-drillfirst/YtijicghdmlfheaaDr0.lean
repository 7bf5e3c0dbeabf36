/- Dice and events that are rolled, as plain data. No program in it. -/
import Derived.Test.YtijicghdmlfheaaFw
import Derived.Test.YtijicghdmlfheaaMm
namespace Go.Proofs.Ytijicghdmlfheaa.Dri
open Go.ChangeShapes Go.WideShapes Go.ChangeAt Go.RowKit
open Mm

/-- The next number; whether something is rolled below b; what is rolled; what is there then. -/
def st (x : Nat) : Nat := (x * 6364136223846793005 + 1442695040888963407) % 18446744073709551616
def vd (b : Int) : Bool := decide (1 ≤ b) && decide (b ≤ 2147483648)
def rlN (x : Nat) (b : Int) : Int := if vd b = true then ((st x / 8589934592 % b.toNat : Nat) : Int) else 0
def rlS (x : Nat) (b : Int) : Nat := if vd b = true then st x else x
theorem st_lt (x : Nat) : st x < 18446744073709551616 := Nat.mod_lt _ (by decide)
theorem rlS_lt (x : Nat) (b : Int) (h : x < 18446744073709551616) : rlS x b < 18446744073709551616 := by
  unfold rlS
  split
  · exact st_lt x
  · exact h
theorem rl_rg (x : Nat) (b : Int) : 0 ≤ rlN x b ∧ (vd b = true → rlN x b < b) := by
  unfold rlN
  constructor
  · split <;> omega
  · intro h
    rw [if_pos h]
    unfold vd at h
    simp only [Bool.and_eq_true, decide_eq_true_eq] at h
    have : 0 < b.toNat := by omega
    have := Nat.mod_lt (st x / 8589934592) this
    omega
structure Ev where
  kind : Int
  cpu : Int
  id : Int
  mask : Nat
  n : Int
def ez : Ev := ⟨0, 0, 0, 0, 0⟩
/-- The kind; what is there behind it. -/
def kdN (x : Nat) : Int := if rlN x 100 < 60 then 1 else if rlN x 100 < 66 then 2 else 3 + rlN (st x) 28
def kdS (x : Nat) : Nat := if rlN x 100 < 66 then st x else st (st x)
def mk (x : Nat) : Nat := (rlN x 255).toNat + 1
def mkc (x : Nat) (c : Int) : Nat := if mk x &&& up c = 0 then 1 else mk x &&& up c
def evN (x : Nat) (c : Int) : Ev := ⟨kdN x, rlN (kdS x) c, rlN (st (kdS x)) 6, mkc (st (st (st (kdS x)))) c, rlN (st (st (kdS x))) 20⟩
def evS (x : Nat) : Nat := st (st (st (st (kdS x))))
section
variable {α : Type} (f : Nat → α) (g : Nat → Nat)
/-- What comes one after another out of a number. -/
def sq : Nat → Nat → List α
  | _, 0 => []
  | x, k + 1 => f x :: sq (g x) k
def sqS : Nat → Nat → Nat
  | x, 0 => x
  | x, k + 1 => sqS (g x) k
theorem sq_len (x k : Nat) : (sq f g x k).length = k := by
  induction k generalizing x with
  | zero => rfl
  | succ k ih => simp only [sq, List.length_cons, ih]
theorem sq_snoc (x k : Nat) : sq f g x (k + 1) = sq f g x k ++ [f (sqS g x k)] := by
  induction k generalizing x with
  | zero => rfl
  | succ k ih => rw [sq, ih, sq, sqS, List.cons_append]
theorem sqS_snoc (x k : Nat) : sqS g x (k + 1) = g (sqS g x k) := by
  induction k generalizing x with
  | zero => rfl
  | succ k ih => rw [sqS, ih, sqS]
/-- Fewer are what more begin with. -/
theorem sq_take (x n m : Nat) (h : n ≤ m) : (sq f g x m).take n = sq f g x n := by
  induction n generalizing x m with
  | zero => rfl
  | succ n ih =>
    obtain ⟨m, rfl⟩ : ∃ k, m = k + 1 := ⟨m - 1, by omega⟩
    rw [sq, sq, List.take_succ_cons, ih _ _ (by omega)]
end
/-- So many events, one after another. -/
def scr (c : Int) (x k : Nat) : List Ev := sq (fun x => evN x c) evS x k
def scrS (x k : Nat) : Nat := sqS evS x k
end Go.Proofs.Ytijicghdmlfheaa.Dri
