/- The first and the last one of some floats, as plain folds; they do not hang on how the floats are handed on. No program in it. -/
import Derived.Test.YtmelbbojanomiaaFlo
namespace Go.Proofs.Ytmelbbojanomiaa.Flo

/-- One more, held against what was found. -/
def st1 (d : Int) (f x : Nat) : Nat := if isN x then f else if isN f then x else if od x f = d then x else f
/-- The last one (d is 1), the first one (d is -1) of those that are numbers. -/
def bst (d : Int) (l : List Nat) : Nat := l.foldl (st1 d) 9221120237041090561

theorem bst_take (d : Int) (l : List Nat) (k x : Nat) (h : l[k]? = some x) : bst d (l.take (k + 1)) = st1 d (bst d (l.take k)) x := by
  have hk : k < l.length := by
    rcases Nat.lt_or_ge k l.length with q | q
    · exact q
    · rw [List.getElem?_eq_none q] at h; cases h
  have e : l[k] = x := by rw [List.getElem?_eq_getElem hk] at h; exact Option.some.inj h
  unfold bst
  rw [List.take_succ_eq_append_getElem hk, List.foldl_append, e]
  rfl
theorem fold_lt (d : Int) (l : List Nat) (f : Nat) (hf : f < 18446744073709551616) (h : ∀ x ∈ l, x < 18446744073709551616) : l.foldl (st1 d) f < 18446744073709551616 := by
  induction l generalizing f with
  | nil => exact hf
  | cons x r ih =>
    refine ih _ ?_ (fun y hy => h y (List.mem_cons_of_mem _ hy))
    have := h x (List.mem_cons_self ..)
    unfold st1
    repeat' split
    all_goals assumption
theorem bst_lt (d : Int) (l : List Nat) (h : ∀ x ∈ l, x < 18446744073709551616) : bst d l < 18446744073709551616 := fold_lt d l _ (by omega) h
theorem bst_take_lt (d : Int) (l : List Nat) (k : Nat) (h : ∀ x ∈ l, x < 18446744073709551616) : bst d (l.take k) < 18446744073709551616 := bst_lt d _ fun x hx => h x (List.mem_of_mem_take hx)

def lle (d : Int) (y r : Nat) : Prop := if d = 1 then ky y ≤ ky r else ky r ≤ ky y
theorem lle_refl (d : Int) (y : Nat) : lle d y y := by unfold lle; split <;> omega
theorem lle_trans {d : Int} {x y z : Nat} (h : lle d x y) (k : lle d y z) : lle d x z := by
  unfold lle at *
  by_cases q : d = 1
  · rw [if_pos q] at *; omega
  · rw [if_neg q] at *; omega
theorem od_yes {d : Int} {x f : Nat} (hd : d = 1 ∨ d = -1) (h : od x f = d) : lle d f x := by
  unfold od at h
  unfold lle
  rcases hd with rfl | rfl
  · rw [if_pos rfl]; split at h <;> (try split at h) <;> omega
  · rw [if_neg (by omega)]; split at h <;> (try split at h) <;> omega
theorem od_no {d : Int} {x f : Nat} (hd : d = 1 ∨ d = -1) (h : od x f ≠ d) : lle d x f := by
  unfold od at h
  unfold lle
  rcases hd with rfl | rfl
  · rw [if_pos rfl]; split at h <;> (try split at h) <;> omega
  · rw [if_neg (by omega)]; split at h <;> (try split at h) <;> omega

theorem fold_spec (d : Int) (hd : d = 1 ∨ d = -1) (l : List Nat) (f : Nat) :
    (isN f = true → (∀ x ∈ l, isN x = true) → isN (l.foldl (st1 d) f) = true) ∧
    ((isN f = false ∨ ∃ x ∈ l, isN x = false) → isN (l.foldl (st1 d) f) = false ∧ (l.foldl (st1 d) f = f ∨ l.foldl (st1 d) f ∈ l) ∧ (isN f = false → lle d f (l.foldl (st1 d) f)) ∧ ∀ y ∈ l, isN y = false → lle d y (l.foldl (st1 d) f)) := by
  induction l generalizing f with
  | nil =>
    refine ⟨fun h _ => h, fun h => ⟨?_, Or.inl rfl, fun _ => lle_refl _ _, fun y hy => by simp at hy⟩⟩
    rcases h with h | ⟨x, hx, _⟩
    · exact h
    · simp at hx
  | cons x r ih =>
    obtain ⟨i1, i2⟩ := ih (st1 d f x)
    rw [List.foldl_cons]
    constructor
    · intro h1 h2
      refine i1 ?_ (fun y hy => h2 y (List.mem_cons_of_mem _ hy))
      unfold st1
      rw [if_pos (h2 x (List.mem_cons_self ..))]
      exact h1
    · intro h
      cases hx : isN x with
      | true =>
        have e : st1 d f x = f := by unfold st1; rw [if_pos hx]
        rw [e] at i1 i2 ⊢
        have h' : isN f = false ∨ ∃ y ∈ r, isN y = false := by
          rcases h with h | ⟨y, hy, q⟩
          · exact Or.inl h
          · rcases List.mem_cons.1 hy with rfl | hy
            · rw [hx] at q; cases q
            · exact Or.inr ⟨y, hy, q⟩
        obtain ⟨a, b, c, e⟩ := i2 h'
        refine ⟨a, b.imp id (List.mem_cons_of_mem _), c, fun y hy q => ?_⟩
        rcases List.mem_cons.1 hy with rfl | hy
        · rw [hx] at q; cases q
        · exact e y hy q
      | false =>
        have n1 : isN (st1 d f x) = false := by
          unfold st1
          rw [hx]
          simp only [Bool.false_eq_true, if_false]
          repeat' split
          · exact hx
          · exact hx
          · rename_i q _; simpa using q
        have n2 : lle d x (st1 d f x) := by
          unfold st1
          rw [hx]
          simp only [Bool.false_eq_true, if_false]
          repeat' split
          · exact lle_refl _ _
          · exact lle_refl _ _
          · rename_i q; exact od_no hd q
        have n3 : isN f = false → lle d f (st1 d f x) := by
          intro hf
          unfold st1
          rw [hx, hf]
          simp only [Bool.false_eq_true, if_false]
          split
          · rename_i q; exact od_yes hd q
          · exact lle_refl _ _
        have n4 : st1 d f x = f ∨ st1 d f x = x := by
          unfold st1
          repeat' split
          all_goals simp
        obtain ⟨a, b, c, e⟩ := i2 (Or.inl n1)
        refine ⟨a, ?_, fun hf => lle_trans (n3 hf) (c n1), fun y hy q => ?_⟩
        · rcases b with b | b
          · rw [b]
            rcases n4 with n4 | n4
            · exact Or.inl n4
            · rw [n4]; exact Or.inr (List.mem_cons_self ..)
          · exact Or.inr (List.mem_cons_of_mem _ b)
        · rcases List.mem_cons.1 hy with rfl | hy
          · exact lle_trans n2 (c n1)
          · exact e y hy q

theorem nan_is : isN 9221120237041090561 = true := by decide +kernel

/-- Handed on backwards they have the same first one and the same last one. -/
theorem bst_back (d : Int) (hd : d = 1 ∨ d = -1) (l : List Nat) (h : ∀ x ∈ l, x < 18446744073709551616) : ky (bst d l) = ky (bst d l.reverse) := by
  have hr : ∀ x ∈ l.reverse, x < 18446744073709551616 := fun x hx => h x (List.mem_reverse.1 hx)
  obtain ⟨a1, a2⟩ := fold_spec d hd l 9221120237041090561
  obtain ⟨b1, b2⟩ := fold_spec d hd l.reverse 9221120237041090561
  by_cases e : ∃ x ∈ l, isN x = false
  · obtain ⟨x, hx, q⟩ := e
    obtain ⟨c1, c2, _, c3⟩ := a2 (Or.inr ⟨x, hx, q⟩)
    obtain ⟨d1, d2, _, d3⟩ := b2 (Or.inr ⟨x, List.mem_reverse.2 hx, q⟩)
    have m1 : bst d l ∈ l := by
      rcases c2 with c2 | c2
      · rw [c2, nan_is] at c1; cases c1
      · exact c2
    have m2 : bst d l.reverse ∈ l.reverse := by
      rcases d2 with d2 | d2
      · rw [d2, nan_is] at d1; cases d1
      · exact d2
    have e1 : lle d (bst d l.reverse) (bst d l) := c3 _ (List.mem_reverse.1 m2) d1
    have e2 : lle d (bst d l) (bst d l.reverse) := d3 _ (List.mem_reverse.2 m1) c1
    unfold lle at e1 e2
    by_cases q : d = 1
    · rw [if_pos q] at *; omega
    · rw [if_neg q] at *; omega
  · have all : ∀ x ∈ l, isN x = true := fun x hx => by
      cases q : isN x with
      | true => rfl
      | false => exact absurd ⟨x, hx, q⟩ e
    have n1 := (ky_nan _ (bst_lt d l h)).2 (a1 nan_is all)
    have n2 := (ky_nan _ (bst_lt d l.reverse hr)).2 (b1 nan_is fun x hx => all x (List.mem_reverse.1 hx))
    rw [n1, n2]

/-- Order puts any three in one order. -/
theorem od_back (x y : Nat) : od y x = -od x y := by unfold od; repeat' split
                                                     all_goals omega
theorem od_self (x : Nat) : od x x = 0 := by unfold od; rw [if_neg (by omega), if_neg (by omega)]
theorem od_le (x y z : Nat) (h : od x y ≤ 0) (k : od y z ≤ 0) : od x z ≤ 0 := by
  unfold od at *
  repeat' split at h
  all_goals repeat' split at k
  all_goals repeat' split
  all_goals omega
theorem od_zero (x y z : Nat) (h : od x y = 0) (k : od y z = 0) : od x z = 0 := by
  unfold od at *
  repeat' split at h
  all_goals repeat' split at k
  all_goals repeat' split
  all_goals omega
theorem od_eq_zero (x y : Nat) : (od x y == 0) = (ky x == ky y) := by
  unfold od
  by_cases h : ky x < ky y
  · rw [if_pos h, show (ky x == ky y) = false by rw [beq_eq_false_iff_ne]; omega]; rfl
  · rw [if_neg h]
    by_cases k : ky y < ky x
    · rw [if_pos k, show (ky x == ky y) = false by rw [beq_eq_false_iff_ne]; omega]; rfl
    · rw [if_neg k, show (ky x == ky y) = true by rw [beq_iff_eq]; omega]; rfl
end Go.Proofs.Ytmelbbojanomiaa.Flo
