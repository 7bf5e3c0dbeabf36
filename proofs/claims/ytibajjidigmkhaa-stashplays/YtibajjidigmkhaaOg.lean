/- A pool's pages: what is taken is taken once. No program in it. -/
import Derived.Test.YtibajjidigmkhaaOm
namespace Go.Proofs.Ytibajjidigmkhaa
open Om

theorem bt_page (A : List Nat) (p k : Nat) (h : k < 8) : bt A (8 * p + k) = (A.getD p 0).testBit k := by
  unfold bt
  rw [show (8 * p + k) / 8 = p by omega, show (8 * p + k) % 8 = k by omega]

theorem ct_full {f : Nat → Bool} {k : Nat} (h : ∀ j, j < k → f j = true) : ct f k = k := by
  induction k with
  | zero => rfl
  | succ k ih => rw [ct_succ, ih (fun j hj => h j (by omega)), h k (by omega)]; rfl
theorem ct_zero {f : Nat → Bool} {k : Nat} (h : ∀ j, j < k → f j = false) : ct f k = 0 := by
  induction k with
  | zero => rfl
  | succ k ih => rw [ct_succ, ih (fun j hj => h j (by omega)), h k (by omega)]; rfl
theorem ct_congr {f g : Nat → Bool} {k : Nat} (h : ∀ j, j < k → f j = g j) : ct f k = ct g k := by
  induction k with
  | zero => rfl
  | succ k ih => rw [ct_succ, ct_succ, ih (fun j hj => h j (by omega)), h k (by omega)]
theorem ct_parts {A : List Nat} {k : Nat} (h : ∀ j, j < k → pt A j = false) : ct (em A) k + ct (fu A) k = k := by
  induction k with
  | zero => rfl
  | succ k ih =>
    have i := ih (fun j hj => h j (by omega))
    have hk := h k (by omega)
    rw [ct_succ, ct_succ]
    unfold pt at hk
    cases e : em A k with
    | true =>
      have : fu A k = false := by unfold em at e; unfold fu; rw [show A.getD k 0 = 0 by simpa using e]; rfl
      rw [this]
      simp
      omega
    | false =>
      rw [e] at hk
      have : fu A k = true := by simpa using hk
      rw [this]
      simp
      omega

theorem once_none {m : Nat} {A : List Nat} (e : nx m A = none) : ct (em A) m = 0 ∧ m - ct (em A) m - ct (fu A) m = 0 := by
  unfold nx at e
  cases g : fi (pt A) m with
  | some q => rw [g] at e; cases e
  | none =>
    rw [g] at e
    have h1 := ct_parts (fi_none g)
    have h2 := ct_zero (fi_none e)
    omega

theorem once_some {m : Nat} {A : List Nat} (h : Pg m A) {p : Nat} (e : nx m A = some p) :
    (1 : Int) ≤ tkN m A ∧ tkN m A ≤ 8 * m ∧ ou m A (tkN m A) = false ∧ ou m (tkA m A) (tkN m A) = true ∧ (¬ (((ct (em (tkA m A)) m : Nat) : Int) < ((ct (em A) m : Nat) : Int)) ∨ ¬ ((0 : Int) < ((m - ct (em A) m - ct (fu A) m : Nat) : Int))) := by
  obtain ⟨hp, hx⟩ := nx_some h e
  have hl := lz_lt _ hx
  have n1 : tkN m A = ((8 * p + lz (A.getD p 0) + 1 : Nat) : Int) := by unfold tkN; rw [e]; simp; omega
  have a1 : tkA m A = A.set p (sb (A.getD p 0) (lz (A.getD p 0)) true) := by unfold tkA; rw [e]
  have b1 : bt A (8 * p + lz (A.getD p 0)) = false := by rw [bt_page A p _ hl]; exact lz_at _ hx
  have b2 : bt (tkA m A) (8 * p + lz (A.getD p 0)) = true := by
    have := bt_set h (8 * p + lz (A.getD p 0)) (by omega) true (8 * p + lz (A.getD p 0))
    rw [show (8 * p + lz (A.getD p 0)) / 8 = p by omega, show (8 * p + lz (A.getD p 0)) % 8 = lz (A.getD p 0) by omega] at this
    rw [a1, this, if_pos rfl]
  refine ⟨by omega, by omega, ?_, ?_, ?_⟩
  · unfold ou
    rw [n1, show (((8 * p + lz (A.getD p 0) + 1 : Nat) : Int) - 1).toNat = 8 * p + lz (A.getD p 0) by omega, b1]
    simp
  · unfold ou
    rw [n1, show (((8 * p + lz (A.getD p 0) + 1 : Nat) : Int) - 1).toNat = 8 * p + lz (A.getD p 0) by omega, b2, decide_eq_true (by omega)]
    rfl
  · unfold nx at e
    cases g : fi (pt A) m with
    | none =>
      have := ct_parts (fi_none g)
      right
      omega
    | some q =>
      rw [g] at e
      simp at e
      subst e
      left
      have hq := (fi_some g).2.1
      have hz : em A q = false := by
        unfold pt at hq
        simp at hq
        exact hq.1
      have hlen := h.len
      have hm2 := h.m2
      rw [a1, ct_congr (g := em A) fun j hj => ?_]
      · omega
      · unfold em
        rw [getD_set _ _ _ _ (by omega)]
        by_cases d : j = q
        · subst d
          rw [if_pos rfl]
          unfold em at hz
          rw [hz]
          have t := sb_on _ (h.lt j) _ hl _ hl
          rw [if_pos rfl] at t
          have : sb (A.getD j 0) (lz (A.getD j 0)) true ≠ 0 := fun c => by rw [c] at t; simp at t
          simpa using this
        · rw [if_neg d]
end Go.Proofs.Ytibajjidigmkhaa
