/- The first best of the cores of a mask: what both programs reckon. No program in it. -/
import Derived.Test.YtpmjojemcpgpiaaDoorVk
import Derived.Test.YtpmjojemcpgpiaaDoorUm
namespace Go.Proofs.YtpmjojemcpgpiaaDoor
open Fm Qm

section
variable (f : Int → Int) (bt : Int → Int → Bool)
/-- The best of a list so far; -1: none yet. -/
def bs (L : List Int) : Int := L.foldl (fun a c => if a < 0 ∨ bt (f c) (f a) = true then c else a) (-1)
theorem bs_snoc (L : List Int) (c : Int) : bs f bt (L ++ [c]) = if bs f bt L < 0 ∨ bt (f c) (f (bs f bt L)) = true then c else bs f bt L := by
  unfold bs
  rw [List.foldl_append]
  rfl
theorem bs_in (L : List Int) : bs f bt L = -1 ∨ bs f bt L ∈ L := by
  unfold bs
  have : ∀ (L : List Int) (a : Int), L.foldl (fun a c => if a < 0 ∨ bt (f c) (f a) = true then c else a) a = a ∨ L.foldl (fun a c => if a < 0 ∨ bt (f c) (f a) = true then c else a) a ∈ L := by
    intro L
    induction L with
    | nil => intro a; exact Or.inl rfl
    | cons x r ih =>
      intro a
      rw [List.foldl_cons]
      rcases ih (if a < 0 ∨ bt (f x) (f a) = true then x else a) with h | h
      · rw [h]
        by_cases c : a < 0 ∨ bt (f x) (f a) = true
        · rw [if_pos c]; exact Or.inr (by simp)
        · rw [if_neg c]; exact Or.inl rfl
      · exact Or.inr (List.mem_cons_of_mem _ h)
  exact this L (-1)
theorem bs_pos {L : List Int} (hL : L ≠ []) (h0 : ∀ c ∈ L, 0 ≤ c) : 0 ≤ bs f bt L := by
  obtain ⟨r, c, rfl⟩ : ∃ r c, L = r ++ [c] := ⟨L.dropLast, L.getLast hL, (List.dropLast_concat_getLast hL).symm⟩
  rw [bs_snoc]
  by_cases q : bs f bt r < 0 ∨ bt (f c) (f (bs f bt r)) = true
  · rw [if_pos q]; exact h0 c (by simp)
  · rw [if_neg q]
    have := fun e => q (Or.inl e)
    omega
/-- The one that the program holds behind j of the list. -/
def fs0 (L : List Int) (j : Nat) : Int := if j = 0 then L.headD 0 else bs f bt (L.take j)
theorem fs0_step {L : List Int} (h0 : ∀ c ∈ L, 0 ≤ c) {j : Nat} (hj : j < L.length) : fs0 f bt L (j + 1) = if bt (f (L.getD j 0)) (f (fs0 f bt L j)) = true then L.getD j 0 else fs0 f bt L j := by
  have hg : L.getD j 0 = L[j] := by rw [List.getD_eq_getElem?_getD, List.getElem?_eq_getElem hj]; rfl
  have ht : L.take (j + 1) = L.take j ++ [L.getD j 0] := by rw [hg, List.take_add_one, List.getElem?_eq_getElem hj]; rfl
  unfold fs0
  rw [if_neg (by omega), ht, bs_snoc]
  by_cases e : j = 0
  · subst e
    rw [if_pos rfl, show bs f bt (L.take 0) = -1 from by rw [List.take_zero]; rfl, if_pos (Or.inl (by decide))]
    have : L.headD 0 = L.getD 0 0 := by cases L <;> rfl
    rw [this]
    split <;> rfl
  · rw [if_neg e]
    have hp := bs_pos f bt (L := L.take j) (fun q => by have := congrArg List.length q; rw [List.length_take, List.length_nil] at this; omega) (fun c hc => h0 c (List.mem_of_mem_take hc))
    have e2 : (bs f bt (L.take j) < 0 ∨ bt (f (L.getD j 0)) (f (bs f bt (L.take j))) = true) ↔ bt (f (L.getD j 0)) (f (bs f bt (L.take j))) = true := ⟨fun q => by rcases q with q | q; omega; exact q, Or.inr⟩
    by_cases c : bt (f (L.getD j 0)) (f (bs f bt (L.take j))) = true
    · rw [if_pos c, if_pos (Or.inr c)]
    · rw [if_neg c, if_neg (fun q => c (e2.1 q))]
end

/-- The cores of a mask among the first n. -/
def bc (m n : Nat) : List Int := KK (fun i => m.testBit i) n
theorem KK_pos (p : Nat → Bool) (n : Nat) : ∀ c ∈ KK p n, (0 : Int) ≤ c := by
  intro c hc
  unfold KK at hc
  obtain ⟨i, _, rfl⟩ := List.mem_map.1 hc
  omega
theorem KK_congr {p q : Nat → Bool} {n : Nat} (h : ∀ i, i < n → p i = q i) : KK p n = KK q n := by
  unfold KK
  congr 1
  exact List.filter_congr fun i hi => h i (List.mem_range.1 hi)
theorem KK_cut {p q : Nat → Bool} {n : Nat} (h : ∀ i, i < n → q i = p i) (h0 : ∀ i, n ≤ i → q i = false) (k : Nat) : KK q (n + k) = KK p n := by
  induction k with
  | zero => exact KK_congr h
  | succ k ih => rw [← Nat.add_assoc, KK_miss q (n + k) (h0 _ (by omega)), ih]
theorem li_up (m n : Nat) (hn : n ≤ 64) : li (m &&& Mm.up n) = bc m n := by
  have := KK_cut (p := fun i => m.testBit i) (q := fun i => (m &&& Mm.up n).testBit i) (n := n) (fun i hi => by
    rw [Nat.testBit_and, Mm.bit_up, decide_eq_true (by omega), Bool.and_true]) (fun i hi => by
    rw [Nat.testBit_and, Mm.bit_up, decide_eq_false (by omega), Bool.and_false]) (64 - n)
  rw [show n + (64 - n) = 64 by omega] at this
  exact this
theorem li_ls (m : Nat) : li m = (Mm.ls m).map fun i : Nat => (i : Int) := rfl
theorem li_hd (m : Nat) : ((Mm.hd (Mm.ls m) : Nat) : Int) = (li m).headD 0 := by
  rw [li_ls]
  unfold Mm.hd
  cases Mm.ls m <;> rfl
theorem li_er (m : Nat) : Mm.er (Mm.ls m) = if li m = [] then 12 else 0 := by
  rw [li_ls]
  unfold Mm.er
  cases Mm.ls m <;> rfl
def bsN (f : Int → Int) (bt : Int → Int → Bool) (L : List Int) : Int := if L = [] then 0 else bs f bt L
def bsE (L : List Int) : Int := if L = [] then 12 else 0
theorem fs0_end (f : Int → Int) (bt : Int → Int → Bool) (L : List Int) : fs0 f bt L L.length = bsN f bt L := by
  unfold fs0 bsN
  by_cases e : L = []
  · subst e; rfl
  · have : L.length ≠ 0 := fun q => e (List.length_eq_zero_iff.1 q)
    rw [if_neg this, if_neg e, List.take_length]
end Go.Proofs.YtpmjojemcpgpiaaDoor
