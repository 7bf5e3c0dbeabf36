/- Things with priorities as cells in memory, and where in their list one stands. No program in it. -/
import Derived.Test.YtpmjojemcpgpiaaDoorQm
import Derived.WalkKit
namespace Go.Proofs.YtpmjojemcpgpiaaDoor
open Fm Qm

/-- The cells of a list of things. -/
def fl : Its → List Value
  | [] => []
  | x :: r => .int .i64 x.1 :: .int .i64 x.2 :: fl r
theorem fl_len (X : Its) : (fl X).length = X.length * 2 := by
  induction X with
  | nil => rfl
  | cons x r ih => simp [fl, ih]; omega
theorem fl_app (X Y : Its) : fl (X ++ Y) = fl X ++ fl Y := by
  induction X with
  | nil => rfl
  | cons x r ih => simp [fl, ih]
theorem fl_take (X : Its) (k : Nat) : (fl X).take (k * 2) = fl (X.take k) := by
  induction X generalizing k with
  | nil => simp [fl]
  | cons x r ih =>
    cases k with
    | zero => simp [fl]
    | succ k => rw [show (k + 1) * 2 = k * 2 + 1 + 1 by omega]; simp [fl, ih]
theorem fl_drop (X : Its) (k : Nat) : (fl X).drop (k * 2) = fl (X.drop k) := by
  induction X generalizing k with
  | nil => simp [fl]
  | cons x r ih =>
    cases k with
    | zero => simp
    | succ k => rw [show (k + 1) * 2 = k * 2 + 1 + 1 by omega]; simp [fl, ih]
theorem fl_at (X : Its) (k : Nat) (h : k < X.length) : (fl X)[k * 2]? = some (.int .i64 (X.getD k (0, 0)).1) ∧ (fl X)[k * 2 + 1]? = some (.int .i64 (X.getD k (0, 0)).2) := by
  induction X generalizing k with
  | nil => simp at h
  | cons x r ih =>
    cases k with
    | zero => simp [fl]
    | succ k =>
      have := ih k (by simpa using h)
      rw [show (k + 1) * 2 = k * 2 + 1 + 1 by omega]
      simpa [fl] using this
theorem fl_one (X : Its) : ∀ u ∈ fl X, u.oneCell' = true := by
  induction X with
  | nil => intro u h; simp [fl] at h
  | cons x r ih =>
    intro u h
    simp only [fl, List.mem_cons] at h
    rcases h with rfl | rfl | h
    · rfl
    · rfl
    · exact ih u h

theorem ids_at (X : Its) (k : Nat) : (ids X).getD k 0 = (X.getD k (0, 0)).2 := by
  unfold ids
  simp only [List.getD, List.getElem?_map]
  cases X[k]? <;> rfl
theorem ids_len (X : Its) : (ids X).length = X.length := by simp [ids]

/-- Where one stands: what it is there, and what is left without it. -/
theorem at_ix {X : Its} (h : (ids X).Nodup) {n : Int} {k : Nat} (e : ix (ids X) n = k) : k < X.length ∧ n ∈ ids X ∧ (X.getD k (0, 0)).1 = prP X n ∧ del X n = X.take k ++ X.drop (k + 1) := by
  have hm : n ∈ ids X := by
    apply Classical.byContradiction
    intro c
    rw [ix_neg _ _ c] at e
    omega
  obtain ⟨k2, e2, hk, g, gb⟩ := ix_pos (ids X) n hm
  clear gb
  obtain rfl : k2 = k := by omega
  rw [ids_len] at hk
  rw [ids_at] at g
  refine ⟨hk, hm, ?_, ?_⟩
  · have hx : X.getD k2 (0, 0) ∈ X := by simp [List.getD, hk]
    exact (prP_hit h (by rw [← g]; exact hx)).symm
  · clear e e2 hm
    induction X generalizing k2 with
    | nil => simp at hk
    | cons x r ih =>
      unfold ids at h
      rw [List.map_cons, List.nodup_cons] at h
      cases k2 with
      | zero =>
        have g2 : x.2 = n := by simpa using g
        unfold del
        rw [List.filter_cons]
        have : (x.2 != n) = false := by simp [g2]
        rw [this]
        simp only [Bool.false_eq_true, if_false, List.take_zero, List.nil_append, Nat.zero_add, List.drop_succ_cons, List.drop_zero]
        rw [List.filter_eq_self]
        intro y hy
        simp
        intro e
        exact h.1 (by rw [g2, ← e]; exact List.mem_map_of_mem hy)
      | succ k2 =>
        have g2 : (r.getD k2 (0, 0)).2 = n := by simpa using g
        have hk2 : k2 < r.length := by simpa using hk
        have hxn : x.2 ≠ n := by
          intro e
          apply h.1
          rw [e, ← g2]
          exact List.mem_map_of_mem (by simp [List.getD, hk2])
        have := ih h.2 k2 hk2 g2
        unfold del at this ⊢
        rw [List.filter_cons]
        have e2 : (x.2 != n) = true := by simpa using hxn
        rw [e2]
        simp [this]
end Go.Proofs.YtpmjojemcpgpiaaDoor
