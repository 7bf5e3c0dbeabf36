/- Feeds of a governor as plain records: the last four of them, gone round in an array; their sums, and the frequency that they make. No program in it. -/
import Derived.Test.YtjfmokfjnjbheaaLw
import Derived.Test.YtjfmokfjnjbheaaNv
namespace Go.Proofs.Ytjfmokfjnjbheaa
open Go.ChangeShapes Go.WideShapes Go.ChangeAt Go.RowKit

structure Fq where
  b : Int
  a : Int

def fz : Fq := ⟨0, 0⟩
def fq : Lay Fq where
  n := 2
  f := fun x => [.int .i64 x.b, .int .i64 x.a]
  z := fz
  len := fun _ => rfl
  one := fun x u hu => by
    simp only [List.mem_cons, List.not_mem_nil, or_false] at hu
    rcases hu with rfl | rfl <;> rfl
  pos := by decide

/-- A feed that can be. -/
def Fok (x : Fq) : Prop := 0 ≤ x.b ∧ x.b ≤ x.a ∧ x.a ≤ 1099511627776
def sb : List Fq → Int
  | [] => 0
  | x :: r => x.b + sb r
def sa : List Fq → Int
  | [] => 0
  | x :: r => x.a + sa r
theorem sb_app (X Y : List Fq) : sb (X ++ Y) = sb X + sb Y := by
  induction X with
  | nil => simp [sb]
  | cons x r ih => rw [List.cons_append, sb, sb, ih]; omega
theorem sa_app (X Y : List Fq) : sa (X ++ Y) = sa X + sa Y := by
  induction X with
  | nil => simp [sa]
  | cons x r ih => rw [List.cons_append, sa, sa, ih]; omega
theorem sum_in (Y : List Fq) (h : ∀ x ∈ Y, Fok x) : 0 ≤ sb Y ∧ sb Y ≤ sa Y ∧ sa Y ≤ 1099511627776 * (Y.length : Int) := by
  induction Y with
  | nil => simp [sb, sa]
  | cons x r ih =>
    have a := ih fun y hy => h y (by simp [hy])
    have b := h x (by simp)
    unfold Fok at b
    simp only [sb, sa, List.length_cons]
    omega

/-- As they stand in the array where the eldest one is at place p. -/
def arr (p : Nat) (q : List Fq) : List Fq := q.drop (4 - p) ++ q.take (4 - p)
theorem arr_sb (p : Nat) (q : List Fq) : sb (arr p q) = sb q := by
  have : sb (q.take (4 - p) ++ q.drop (4 - p)) = sb q := by rw [List.take_append_drop]
  rw [sb_app] at this
  rw [arr, sb_app]
  omega
theorem arr_sa (p : Nat) (q : List Fq) : sa (arr p q) = sa q := by
  have : sa (q.take (4 - p) ++ q.drop (4 - p)) = sa q := by rw [List.take_append_drop]
  rw [sa_app] at this
  rw [arr, sa_app]
  omega
theorem arr_len {p : Nat} {q : List Fq} (h : q.length = 4) : (arr p q).length = 4 := by
  rw [arr, List.length_append, List.length_drop, List.length_take]
  omega
theorem four_of {q : List Fq} (h : q.length = 4) : ∃ a b c d, q = [a, b, c, d] := by
  match q, h with
  | [a, b, c, d], _ => exact ⟨a, b, c, d, rfl⟩
/-- One more: the eldest one goes. -/
def nxt (q : List Fq) (x : Fq) : List Fq := q.drop 1 ++ [x]
theorem nxt_len {q : List Fq} (h : q.length = 4) (x : Fq) : (nxt q x).length = 4 := by
  rw [nxt, List.length_append, List.length_drop, h]
  rfl
theorem nxt_ok {q : List Fq} {x : Fq} (h : ∀ y ∈ q, Fok y) (hx : Fok x) : ∀ y ∈ nxt q x, Fok y := by
  intro y hy
  rcases List.mem_append.1 hy with e | e
  · exact h y (List.mem_of_mem_drop e)
  · rw [List.mem_singleton.1 e]; exact hx

/-- The last four of all. -/
def lf (Y : List Fq) : List Fq := (List.replicate 4 fz ++ Y).drop Y.length
theorem lf_nil : lf [] = [fz, fz, fz, fz] := rfl
theorem lf_app (Y : List Fq) (x : Fq) : lf (Y ++ [x]) = nxt (lf Y) x := by
  unfold lf nxt
  rw [List.length_append, List.length_singleton, ← List.append_assoc, List.drop_append_of_le_length (by simp), List.drop_drop]
theorem rep_sum : ∀ n, sb (List.replicate n fz) = 0 ∧ sa (List.replicate n fz) = 0
  | 0 => ⟨rfl, rfl⟩
  | n + 1 => by
    have := rep_sum n
    rw [List.replicate_succ, sb, sa, this.1, this.2]
    exact ⟨rfl, rfl⟩
theorem lf_sum (Y : List Fq) : sb (lf Y) = sb (Y.drop (Y.length - 4)) ∧ sa (lf Y) = sa (Y.drop (Y.length - 4)) := by
  unfold lf
  by_cases h : 4 ≤ Y.length
  · rw [List.drop_append, List.drop_of_length_le (by simpa using h), List.nil_append, List.length_replicate]
    exact ⟨rfl, rfl⟩
  · rw [List.drop_append_of_le_length (by simp; omega), sb_app, sa_app, List.drop_replicate, (rep_sum _).1, (rep_sum _).2, show Y.length - 4 = 0 by omega, List.drop_zero]
    omega

/-- What the document's loop has summed up behind k of them. -/
def pt (Y : List Fq) (k : Nat) : List Fq := (Y.take k).drop (Y.length - 4)
theorem pt_zero (Y : List Fq) : pt Y 0 = [] := by simp [pt]
theorem pt_all (Y : List Fq) : pt Y Y.length = Y.drop (Y.length - 4) := by rw [pt, List.take_length]
theorem pt_yes (Y : List Fq) {k : Nat} (h : k < Y.length) (h4 : Y.length ≤ k + 4) : pt Y (k + 1) = pt Y k ++ [Y.getD k fz] := by
  unfold pt
  rw [take_one' Y fz h, List.drop_append_of_le_length (by rw [List.length_take]; omega)]
theorem pt_no (Y : List Fq) {k : Nat} (h4 : ¬ Y.length ≤ k + 4) : pt Y (k + 1) = pt Y k := by
  unfold pt
  rw [List.drop_of_length_le (by rw [List.length_take]; omega), List.drop_of_length_le (by rw [List.length_take]; omega)]
theorem pt_in (Y : List Fq) (k : Nat) (h : ∀ x ∈ Y, Fok x) : 0 ≤ sb (pt Y k) ∧ sb (pt Y k) ≤ sa (pt Y k) ∧ sa (pt Y k) ≤ 4398046511104 := by
  have a := sum_in (pt Y k) fun x hx => h x (List.mem_of_mem_take (List.mem_of_mem_drop hx))
  have l : (pt Y k).length ≤ 4 := by
    unfold pt
    rw [List.length_drop, List.length_take]
    omega
  omega

/-- Limits that can be. -/
def Lim (lo hi : Int) : Prop := 1 ≤ lo ∧ lo ≤ hi ∧ hi ≤ 100000
/-- The frequency. -/
def bz (q : List Fq) : Int := pc (sb q) (sa q)
def fr (lo hi : Int) (q : List Fq) : Int := sc lo hi (bz q)
theorem fr_in {lo hi : Int} (h : Lim lo hi) (q : List Fq) : lo ≤ fr lo hi q ∧ fr lo hi q ≤ hi := sc_in lo hi _ h.2.1
/-- All of them without a busy step; all of them busy. -/
theorem fr_low {lo hi : Int} {q : List Fq} (h : sb q = 0) : fr lo hi q = lo := by
  rw [fr, bz, show pc (sb q) (sa q) = 0 by rw [pc, if_pos (by omega)], sc, if_pos (by omega)]
theorem fr_high {lo hi : Int} {q : List Fq} (hl : lo ≤ hi) (h : sb q = sa q) (h1 : 1 ≤ sa q) : fr lo hi q = hi := by
  rw [fr, bz, show pc (sb q) (sa q) = 100 by rw [pc, if_neg (by omega), if_pos (by omega)], sc, if_neg (by omega), if_pos (by omega)]
end Go.Proofs.Ytjfmokfjnjbheaa
