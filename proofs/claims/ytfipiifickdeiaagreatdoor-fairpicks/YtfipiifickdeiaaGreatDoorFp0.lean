/- Turns of cores in a window of picks, as plain data: how often each core is in it, which cores are. No program in it. -/
import Derived.Test.YtfipiifickdeiaaGreatDoorXa
import Derived.Test.YtfipiifickdeiaaGreatDoorXb
namespace Go.Proofs.YtfipiifickdeiaaGreatDoor.Fai
open Go.ChangeShapes Go.WideShapes Go.ChangeAt Go.RowKit
open Mm

/-- How often a core is in a window. -/
def cnt (L : List Int) (c : Nat) : Nat := L.countP fun x => decide (x = (c : Int))
theorem cnt_snoc (L : List Int) (x : Int) (c : Nat) : cnt (L ++ [x]) c = cnt L c + if x = (c : Int) then 1 else 0 := by
  unfold cnt
  rw [List.countP_append]
  congr 1
  by_cases e : x = (c : Int)
  · rw [if_pos e, List.countP_cons_of_pos (by simpa using e)]; rfl
  · rw [if_neg e, List.countP_cons_of_neg (by simpa using e)]; rfl
theorem cnt_cons (L : List Int) (x : Int) (c : Nat) : cnt (x :: L) c = cnt L c + if x = (c : Int) then 1 else 0 := by
  unfold cnt
  by_cases e : x = (c : Int)
  · rw [if_pos e, List.countP_cons_of_pos (by simpa using e)]
  · rw [if_neg e, List.countP_cons_of_neg (by simpa using e)]; rfl
theorem cnt_le (L : List Int) (c : Nat) : cnt L c ≤ L.length := List.countP_le_length
theorem cnt_mem (L : List Int) (c : Nat) : 0 < cnt L c ↔ (c : Int) ∈ L := by
  unfold cnt
  rw [List.countP_pos_iff]
  constructor
  · rintro ⟨x, hx, e⟩
    rw [decide_eq_true_eq] at e
    exact e ▸ hx
  · intro h
    exact ⟨_, h, by simp⟩
/-- A pick that is no core's is in no mask. -/
theorem wl_out (m : Nat) (x : Int) (h : ¬ (0 ≤ x ∧ x < 64)) (L : List Int) : wl m (L ++ [x]) = wl m L := by
  rw [wl_snoc]
  unfold bv
  rw [if_neg h, Nat.or_zero]
theorem wl_cons_out (x : Int) (h : ¬ (0 ≤ x ∧ x < 64)) (L : List Int) : wl 0 (x :: L) = wl 0 L := by
  show wl (0 ||| bv x) L = _
  unfold bv
  rw [if_neg h, Nat.or_zero]
theorem bit_nt (a b i : Nat) (hb : b < 18446744073709551616) : (nt a b).testBit i = (a.testBit i && (decide (i < 64) && !b.testBit i)) := by
  unfold nt
  rw [Nat.testBit_and, bit_max b i hb]
/-- A core leaves the window: it is taken out of the mask if it was there once. -/
theorem wl_last (L : List Int) (c : Nat) (h : cnt L c = 0) : nt (wl 0 ((c : Int) :: L)) (bv c) = wl 0 L := by
  apply Nat.eq_of_testBit_eq
  intro i
  rw [bit_nt _ _ _ (bv_lt _), bit_wl, bit_wl, bit_bv]
  have z : (c : Int) ∉ L := fun q => by have := (cnt_mem L c).2 q; omega
  by_cases hi : i < 64
  · by_cases e : (c : Int) = (i : Int)
    · have z2 : (i : Int) ∉ L := e ▸ z
      simp [hi, e, z2]
    · have e2 : ¬ (i : Int) = (c : Int) := fun q => e q.symm
      simp [hi, e, e2]
  · simp [hi]
theorem wl_more (L : List Int) (c : Nat) (h : ¬ cnt L c = 0) : wl 0 ((c : Int) :: L) = wl 0 L := by
  apply Nat.eq_of_testBit_eq
  intro i
  rw [bit_wl, bit_wl]
  have z : (c : Int) ∈ L := (cnt_mem L c).1 (by omega)
  by_cases e : (i : Int) = (c : Int)
  · rw [e]; simp [z]
  · simp [List.mem_cons, e]

/-- The window's cells: 64 numbers and a mask. -/
def cl (f : Nat → Int) (m : Nat) : List Value := (List.range 64).map (fun i => .int .i64 (f i)) ++ [.int .u64 (m : Int)]
def up1 (f : Nat → Int) (c : Nat) (v : Int) : Nat → Int := fun i => if i = c then v else f i
theorem cl_get (f : Nat → Int) (m c : Nat) (hc : c < 64) : (cl f m)[c]? = some (.int .i64 (f c)) := by
  unfold cl
  rw [List.getElem?_append_left (by simpa using hc), List.getElem?_map, List.getElem?_range hc]
  rfl
theorem cl_mask (f : Nat → Int) (m : Nat) : (cl f m)[64]? = some (.int .u64 (m : Int)) := by
  unfold cl
  rw [List.getElem?_append_right (by simp)]
  simp
theorem cl_set (f : Nat → Int) (m c : Nat) (hc : c < 64) (v : Int) : (cl f m).set c (.int .i64 v) = cl (up1 f c v) m := by
  apply List.ext_getElem?
  intro i
  unfold cl
  rw [List.getElem?_set]
  by_cases e : c = i
  · subst e
    rw [if_pos rfl, if_pos (by simp; omega), List.getElem?_append_left (by simpa using hc), List.getElem?_map, List.getElem?_range hc]
    simp [up1]
  · rw [if_neg e]
    by_cases hi : i < 64
    · rw [List.getElem?_append_left (by simpa using hi), List.getElem?_append_left (by simpa using hi), List.getElem?_map, List.getElem?_map, List.getElem?_range hi]
      have e2 : ¬ i = c := fun q => e q.symm
      simp [up1, e2]
    · rw [List.getElem?_append_right (by simp; omega), List.getElem?_append_right (by simp; omega)]
      simp
theorem cl_setm (f : Nat → Int) (m n : Nat) : (cl f m).set 64 (.int .u64 (n : Int)) = cl f n := by
  unfold cl
  rw [List.set_append_right _ _ (by simp)]
  simp

/-- Fair: each core of a set is in each window. -/
def win (xs : List Int) (n i : Nat) : List Int := (xs.drop i).take n
def fairp (xs : List Int) (o : Nat) (n : Int) : Bool := decide (1 ≤ n) && (List.range (xs.length + 1 - n.toNat)).all fun i => decide (nt o (wl 0 (win xs n.toNat i)) = 0)
theorem win_snoc (xs : List Int) (n i : Nat) (h : i + n < xs.length) : win xs n i ++ [xs.getD (i + n) 0] = win xs (n + 1) i := by
  unfold win
  rw [List.take_add_one]
  congr 1
  rw [List.getElem?_drop, List.getD_eq_getElem?_getD, List.getElem?_eq_getElem h]
  rfl
theorem win_cons (xs : List Int) (n i : Nat) (h : i < xs.length) : win xs (n + 1) i = xs.getD i 0 :: win xs n (i + 1) := by
  unfold win
  rw [List.drop_eq_getElem_cons h, List.take_succ_cons, List.getD_eq_getElem?_getD, List.getElem?_eq_getElem h]
  rfl
def bnd (n : Int) : Int := if n < 1 ∨ 10000 < n then 0 else n * 500
end Go.Proofs.YtfipiifickdeiaaGreatDoor.Fai
