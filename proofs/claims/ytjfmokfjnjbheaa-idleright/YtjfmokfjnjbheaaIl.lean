/- Ways to rest as plain records: which can be a table, which one is chosen, what they cost. No program in it. -/
import Derived.Test.YtjfmokfjnjbheaaLw
namespace Go.Proofs.Ytjfmokfjnjbheaa
open Go.ChangeShapes Go.WideShapes Go.ChangeAt Go.RowKit

structure Wy where
  ex : Int
  le : Int
  pw : Int

def wz : Wy := ⟨0, 0, 0⟩
def wy : Lay Wy where
  n := 3
  f := fun x => [.int .i64 x.ex, .int .i64 x.le, .int .i64 x.pw]
  z := wz
  len := fun _ => rfl
  one := fun x u hu => by
    simp only [List.mem_cons, List.not_mem_nil, or_false] at hu
    rcases hu with rfl | rfl | rfl <;> rfl
  pos := by decide

/-- The three cells of the k-th. -/
theorem wrow_cell {w : World} {a : Option Addr} {n cap : Nat} {Y : List Wy} (h : LRow wy w (.slice a n cap) Y) {k : Nat} (hk : k < Y.length) :
    ∃ b off, a = some ⟨b, off, none⟩ ∧ b < w.heap.size ∧ w.cell? ⟨b, off + k * 3, none⟩ = some (.int .i64 (Y.getD k wz).ex) ∧ w.cell? ⟨b, off + k * 3 + 1, none⟩ = some (.int .i64 (Y.getD k wz).le) ∧ w.cell? ⟨b, off + k * 3 + 2, none⟩ = some (.int .i64 (Y.getD k wz).pw) := by
  obtain ⟨b, off, e, hb, d⟩ := lrow_cell h hk
  exact ⟨b, off, e, hb, d 0 (by decide), d 1 (by decide), d 2 (by decide)⟩
theorem wrow_at {w : World} {b off n cap : Nat} {Y : List Wy} (h : LRow wy w (.slice (some ⟨b, off, none⟩) n cap) Y) {k : Nat} (hk : k < Y.length) :
    w.cell? ⟨b, off + k * 3, none⟩ = some (.int .i64 (Y.getD k wz).ex) ∧ w.cell? ⟨b, off + k * 3 + 1, none⟩ = some (.int .i64 (Y.getD k wz).le) ∧ w.cell? ⟨b, off + k * 3 + 2, none⟩ = some (.int .i64 (Y.getD k wz).pw) :=
  ⟨lrow_at h hk 0 (by decide), lrow_at h hk 1 (by decide), lrow_at h hk 2 (by decide)⟩

/-- A call answers whether something is so. -/
def Says (P : Prop) (e : Ending) : Prop := ∃ b, e = .returned (.bool b) ∧ (b = true ↔ P)
theorem Says.yes {P : Prop} (h : P) : Says P (.returned (.bool true)) := ⟨true, rfl, by simp [h]⟩
theorem Says.no {P : Prop} (h : ¬ P) : Says P (.returned (.bool false)) := ⟨false, rfl, by simp [h]⟩

/-- May a way stand behind another one? -/
def Fol (a s : Wy) : Prop := a.ex ≤ s.ex ∧ a.le ≤ s.le ∧ s.pw ≤ a.pw ∧ 0 ≤ s.pw
/-- Can ways be a table? -/
def Rgt (Y : List Wy) : Prop := 1 ≤ Y.length ∧ Y.length ≤ 8 ∧ (Y.getD 0 wz).ex = 0 ∧ (Y.getD 0 wz).le = 0 ∧ 0 ≤ (Y.getD 0 wz).pw ∧ ∀ k, 1 ≤ k → k < Y.length → Fol (Y.getD (k - 1) wz) (Y.getD k wz)
/-- A way for so long a rest that wakes within the limit. -/
def Okw (Y : List Wy) (r l : Int) (j : Nat) : Prop := (Y.getD j wz).ex ≤ l ∧ (Y.getD j wz).le ≤ r
/-- Of the first n ways the one that is chosen. -/
def Cho (Y : List Wy) (r l : Int) (n c : Nat) : Prop := (c = 0 ∧ ∀ j, 1 ≤ j → j < n → ¬ Okw Y r l j) ∨ (1 ≤ c ∧ c < n ∧ Okw Y r l c ∧ ∀ j, c < j → j < n → ¬ Okw Y r l j)

theorem Cho.one {Y : List Wy} {r l : Int} {n c d : Nat} (h : Cho Y r l n c) (k : Cho Y r l n d) : c = d := by
  rcases h with ⟨rfl, h⟩ | ⟨h1, h2, h3, h4⟩ <;> rcases k with ⟨rfl, k⟩ | ⟨k1, k2, k3, k4⟩
  · rfl
  · exact absurd k3 (h d k1 k2)
  · exact absurd h3 (k c h1 h2)
  · rcases Nat.lt_trichotomy c d with e | e | e
    · exact absurd k3 (h4 d e k2)
    · exact e
    · exact absurd h3 (k4 c e h2)
theorem cho_none (Y : List Wy) (r l : Int) : Cho Y r l 0 0 := Or.inl ⟨rfl, fun j _ h => by omega⟩
theorem cho_yes {Y : List Wy} {r l : Int} {n c : Nat} (h : Cho Y r l n c) (k : Okw Y r l n) : Cho Y r l (n + 1) n := by
  by_cases e : n = 0
  · subst e
    exact Or.inl ⟨rfl, fun j h1 h2 => by omega⟩
  · exact Or.inr ⟨by omega, by omega, k, fun j h1 h2 => by omega⟩
theorem cho_no {Y : List Wy} {r l : Int} {n c : Nat} (h : Cho Y r l n c) (k : ¬ Okw Y r l n) : Cho Y r l (n + 1) c := by
  rcases h with ⟨rfl, h⟩ | ⟨h1, h2, h3, h4⟩
  · refine Or.inl ⟨rfl, fun j j1 j2 => ?_⟩
    by_cases e : j = n
    · rw [e]; exact k
    · exact h j j1 (by omega)
  · refine Or.inr ⟨h1, by omega, h3, fun j j1 j2 => ?_⟩
    by_cases e : j = n
    · rw [e]; exact k
    · exact h4 j j1 (by omega)

theorem rgt_ex {Y : List Wy} (h : Rgt Y) : ∀ j, j < Y.length → 0 ≤ (Y.getD j wz).ex
  | 0, _ => by rw [h.2.2.1]; exact Int.le_refl _
  | j + 1, hj => by
    have a := rgt_ex h j (by omega)
    have b := (h.2.2.2.2.2 (j + 1) (by omega) hj).1
    rw [Nat.add_sub_cancel] at b
    omega
/-- Of ways that can be a table the one that is chosen wakes within the limit. -/
theorem cho_right {Y : List Wy} {r l : Int} {c : Nat} (h : Rgt Y) (k : Cho Y r l Y.length c) (hl : 0 ≤ l) : c < Y.length ∧ (Y.getD c wz).ex ≤ l := by
  have h1 := h.1
  rcases k with ⟨rfl, _⟩ | ⟨k1, k2, k3, _⟩
  · exact ⟨by omega, by rw [h.2.2.1]; exact hl⟩
  · exact ⟨k2, k3.1⟩
/-- A longer rest is no lighter way. -/
theorem cho_more {Y : List Wy} {r m l : Int} {n c d : Nat} (h : Cho Y r l n c) (k : Cho Y m l n d) (hr : r ≤ m) : c ≤ d := by
  rcases h with ⟨rfl, _⟩ | ⟨h1, h2, h3, _⟩
  · exact Nat.zero_le _
  · have o : Okw Y m l c := ⟨h3.1, Int.le_trans h3.2 hr⟩
    rcases k with ⟨rfl, k⟩ | ⟨k1, k2, k3, k4⟩
    · exact absurd o (k c h1 h2)
    · rcases Nat.lt_or_ge d c with e | e
      · exact absurd o (k4 c e h2)
      · exact e

/-- What so many ticks of the way at a place cost. -/
def cst (Y : List Wy) (at_ t : Int) : Int := if at_ < 0 ∨ (Y.length : Int) ≤ at_ ∨ t < 0 ∨ 2147483648 < t ∨ (Y.getD at_.toNat wz).pw < 0 ∨ 2147483648 < (Y.getD at_.toNat wz).pw then 0 else (Y.getD at_.toNat wz).pw * t
theorem mul_fits {a b : Int} (h1 : 0 ≤ a) (h2 : a ≤ 2147483648) (h3 : 0 ≤ b) (h4 : b ≤ 2147483648) : 0 ≤ a * b ∧ a * b ≤ 4611686018427387904 := by
  have := Int.mul_le_mul h2 h4 h3 (by omega)
  exact ⟨Int.mul_nonneg h1 h3, by omega⟩
theorem mul_wrap {a b : Int} (h1 : 0 ≤ a) (h2 : a ≤ 2147483648) (h3 : 0 ≤ b) (h4 : b ≤ 2147483648) : wrap64 (a * b) = a * b := by
  have := mul_fits h1 h2 h3 h4
  generalize a * b = c at *
  unfold wrap64
  omega
/-- How many ticks a core will rest. -/
def prd (now due : Int) (known : Bool) : Int := if known = false then 1073741824 else if now < 0 ∨ due ≤ now then 0 else if 1073741824 < due - now then 1073741824 else due - now
theorem prd_in (now due : Int) (known : Bool) : 0 ≤ prd now due known ∧ prd now due known ≤ 1073741824 := by
  unfold prd
  split
  · omega
  · split
    · omega
    · split <;> omega

/-- The ways that there are. -/
def wt : List Wy := [⟨0, 0, 100⟩, ⟨2, 10, 60⟩, ⟨10, 50, 25⟩, ⟨50, 400, 5⟩]
theorem wt_right : Rgt wt := by
  refine ⟨by decide, by decide, rfl, rfl, by decide, fun k h1 h2 => ?_⟩
  have h2 : k < 4 := h2
  have : k = 1 ∨ k = 2 ∨ k = 3 := by omega
  rcases this with rfl | rfl | rfl <;> exact ⟨by decide, by decide, by decide, by decide⟩
theorem wt_two : Cho wt 60 20 wt.length 2 := by
  refine Or.inr ⟨by decide, by decide, ⟨by decide, by decide⟩, fun j h1 h2 => ?_⟩
  have h2 : j < 4 := h2
  obtain rfl : j = 3 := by omega
  exact fun h => absurd h.1 (by decide)
theorem wt_cost : cst wt 1 3 = 180 := by decide
theorem prd_four : prd 5 9 true = 4 := by decide
end Go.Proofs.Ytjfmokfjnjbheaa
