/- What the loops of PrioFirst and PrioRound keep: lemmas outside the walks. -/
import Derived.Test.YtpmjojemcpgpiaaQf
import Derived.Test.YtpmjojemcpgpiaaFs
namespace Go.Proofs.Ytpmjojemcpgpiaa
open Go.ChangeShapes Go.WideShapes Go.ChangeAt Go.RowKit
open Fm Qm

/-- A list that has been turned so often. -/
def rot (k : Nat) (L : List Int) : List Int := L.drop k ++ L.take k
theorem rot_zero (L : List Int) : rot 0 L = L := by simp [rot]
theorem rot_all (L : List Int) : rot L.length L = L := by simp [rot]
theorem rot_step (k : Nat) (L : List Int) (h : k < L.length) : tL (rot k L) = rot (k + 1) L := by
  unfold tL rot
  rw [List.drop_eq_getElem_cons h]
  simp only [List.cons_append, List.tail_cons, List.take_succ_cons, List.take_zero, List.append_assoc]
  rw [List.take_succ_eq_append_getElem h]
theorem rot_head (k : Nat) (L : List Int) (h : k < L.length) : (rot k L).headD 0 = L.getD k 0 := by
  unfold rot
  rw [List.drop_eq_getElem_cons h]
  simp [List.getD, h]
theorem rot_ne (k : Nat) (L : List Int) (h : k < L.length) : rot k L ≠ [] := by
  unfold rot
  rw [List.drop_eq_getElem_cons h]
  simp
  omega

theorem gth_parts (X : Its) (k d : Nat) : ∃ Y, gth X (k + d) = gth X k ++ Y ∧ ∀ x ∈ Y, ∃ q, k ≤ q ∧ q < k + d ∧ x ∈ lv X (7 - q) := by
  induction d with
  | zero => exact ⟨[], by simp, fun x hx => by simp at hx⟩
  | succ d ih =>
    obtain ⟨Y, e, h⟩ := ih
    refine ⟨Y ++ lv X (7 - (k + d)), ?_, fun x hx => ?_⟩
    · have q : gth X (k + (d + 1)) = gth X (k + d) ++ lv X (7 - (k + d)) := rfl
      rw [q, e, List.append_assoc]
    · rcases List.mem_append.1 hx with hx | hx
      · obtain ⟨q, a, b, c⟩ := h x hx
        exact ⟨q, a, by omega, c⟩
      · exact ⟨k + d, by omega, by omega, hx⟩

theorem cat_parts {X : Its} {k : Nat} (g : Gr X k) : ∃ Y, cat X = lv X k ++ Y ∧ ∀ x ∈ Y, ∃ i, i ≠ k ∧ x ∈ lv X i := by
  obtain ⟨hk, _, he⟩ := g
  obtain ⟨Y, e, h⟩ := gth_parts X (8 - k) k
  rw [show 8 - k + k = 8 by omega] at e
  refine ⟨Y, ?_, fun x hx => ?_⟩
  · unfold cat
    rw [e, show 8 - k = (7 - k) + 1 by omega]
    unfold gth
    rw [gth_empty (k := 7 - k) (fun j a b => he j (by omega) b) (by omega), show 7 - (7 - k) = k by omega]
    rfl
  · obtain ⟨q, a, b, c⟩ := h x hx
    exact ⟨7 - q, by omega, c⟩

theorem cat_same {X Y : Its} (h : ∀ i, lv X i = lv Y i) : cat X = cat Y := by
  have : ∀ k, gth X k = gth Y k := by
    intro k
    induction k with
    | zero => rfl
    | succ k ih => unfold gth; rw [ih, h]
  exact this 8

/-- Turned j times, the greatest priority being k. -/
structure Tn (m : Nat) (X0 X : Its) (k j : Nat) : Prop where
  ok : Ok m X
  lv : ∀ i, Qm.lv X i = if i = k then rot j (Qm.lv X0 k) else Qm.lv X0 i

theorem tn_zero {m : Nat} {X : Its} (h : Ok m X) (k : Nat) : Tn m X X k 0 := ⟨h, fun i => by
  by_cases c : i = k
  · rw [if_pos c, rot_zero, c]
  · rw [if_neg c]⟩
theorem tn_gr {m : Nat} {X0 X : Its} {k j : Nat} (g : Gr X0 k) (h : Tn m X0 X k j) (hj : j < (Qm.lv X0 k).length) : Gr X k := by
  refine ⟨g.1, by rw [h.lv k, if_pos rfl]; exact rot_ne _ _ hj, fun i a b => ?_⟩
  rw [h.lv i, if_neg (by omega)]
  exact g.2.2 i a b
theorem tn_step {m : Nat} {X0 X : Its} {k j : Nat} (g : Gr X0 k) (h : Tn m X0 X k j) (hj : j < (Qm.lv X0 k).length) : Tn m X0 (tnX X) k (j + 1) := by
  refine ⟨ok_tnX h.ok, fun i => ?_⟩
  rw [lv_tnX h.ok (tn_gr g h hj)]
  by_cases c : i = k
  · rw [if_pos c, if_pos c, h.lv i, if_pos c, rot_step _ _ hj]
  · rw [if_neg c, if_neg c, h.lv i, if_neg c]
theorem tn_top {m : Nat} {X0 X : Its} {k j : Nat} (g : Gr X0 k) (h : Tn m X0 X k j) (hj : j < (Qm.lv X0 k).length) : tpN X = (cat X0).getD j 0 ∧ tpE X = 0 := by
  have gx := tn_gr g h hj
  obtain ⟨Y, e, _⟩ := cat_parts g
  refine ⟨?_, if_neg (gr_ne gx)⟩
  rw [tpN_gr gx, h.lv k, if_pos rfl, rot_head _ _ hj, e, getD_app_left _ _ _ hj]
theorem mem_rot (j : Nat) (L : List Int) (x : Int) : x ∈ rot j L ↔ x ∈ L := by
  unfold rot
  rw [List.mem_append]
  conv => rhs; rw [← List.take_append_drop j L, List.mem_append]
  exact Or.comm
theorem getD_mem (L : List Int) (j : Nat) (h : j < L.length) : L.getD j 0 ∈ L := by
  rw [getD_of L j h]
  exact List.getElem_mem h
theorem tn_in {m : Nat} {X0 X : Its} {k j : Nat} (g : Gr X0 k) (h : Tn m X0 X k j) {i : Nat} (hi : i < (Qm.lv X0 k).length) : prP X ((cat X0).getD i 0) = k := by
  obtain ⟨Y, e, _⟩ := cat_parts g
  rw [e, getD_app_left _ _ _ hi]
  apply prP_hit h.ok.nd
  rw [← mem_lv, h.lv k, if_pos rfl, mem_rot]
  exact getD_mem _ _ hi
theorem tn_out {m : Nat} {X0 X : Its} {k j : Nat} (g : Gr X0 k) (h : Tn m X0 X k j) {i : Nat} (hi : (Qm.lv X0 k).length ≤ i) (hi2 : i < (cat X0).length) : prP X ((cat X0).getD i 0) ≠ k := by
  obtain ⟨Y, e, hY⟩ := cat_parts g
  rw [e] at hi2 ⊢
  rw [getD_app_right _ _ _ hi]
  rw [List.length_append] at hi2
  obtain ⟨q, hq, hm⟩ := hY _ (getD_mem Y (i - (Qm.lv X0 k).length) (by omega))
  have : prP X (Y.getD (i - (Qm.lv X0 k).length) 0) = q := by
    apply prP_hit h.ok.nd
    rw [← mem_lv, h.lv q, if_neg hq]
    exact hm
  rw [this]
  omega
theorem tn_all {m : Nat} {X0 X : Its} {k j : Nat} (h : Tn m X0 X k j) (hj : j = (Qm.lv X0 k).length) : cat X = cat X0 := by
  apply cat_same
  intro i
  rw [h.lv i]
  by_cases c : i = k
  · subst c
    rw [if_pos rfl, hj, rot_all]
  · rw [if_neg c]
theorem lv_cat_le {X : Its} {k : Nat} (g : Gr X k) : (Qm.lv X k).length ≤ (cat X).length := by
  obtain ⟨Y, e, _⟩ := cat_parts g
  rw [e, List.length_append]
  omega

/-- None goes ahead of one with a greater priority. -/
theorem gth_ids {X : Its} {k : Nat} {n : Int} (h : n ∈ gth X k) : n ∈ ids X := by
  induction k with
  | zero => simp [gth] at h
  | succ k ih =>
    unfold gth at h
    rcases List.mem_append.1 h with h | h
    · exact ih h
    · exact (mem_ids X n).2 ⟨_, (mem_lv _ _ _).1 h⟩
theorem gth_ge {X : Its} (hn : (ids X).Nodup) {k : Nat} (hk : k ≤ 8) : ∀ n ∈ gth X k, 8 - (k : Int) ≤ prP X n := by
  induction k with
  | zero => intro n h; simp [gth] at h
  | succ k ih =>
    intro n h
    unfold gth at h
    rcases List.mem_append.1 h with h | h
    · have := ih (by omega) n h
      omega
    · rw [prP_hit hn ((mem_lv _ _ _).1 h)]
      omega
theorem gth_pair {X : Its} (hn : (ids X).Nodup) {k : Nat} (hk : k ≤ 8) : (gth X k).Pairwise fun a b => prP X b ≤ prP X a := by
  induction k with
  | zero => simp [gth]
  | succ k ih =>
    unfold gth
    rw [List.pairwise_append]
    refine ⟨ih (by omega), ?_, fun a ha b hb => ?_⟩
    · apply List.pairwise_of_forall_mem_list
      intro a ha b hb
      rw [prP_hit hn ((mem_lv _ _ _).1 ha), prP_hit hn ((mem_lv _ _ _).1 hb)]
      exact Int.le_refl _
    · have := gth_ge hn (k := k) (by omega) a ha
      rw [prP_hit hn ((mem_lv _ _ _).1 hb)]
      omega
theorem cat_fall {X : Its} (hn : (ids X).Nodup) {i : Nat} (hi : i + 1 < (cat X).length) : prP X ((cat X).getD (i + 1) 0) ≤ prP X ((cat X).getD i 0) := by
  have := gth_pair hn (k := 8) (Nat.le_refl _)
  rw [List.pairwise_iff_getElem] at this
  rw [getD_of _ _ hi, getD_of _ _ (by omega : i < (cat X).length)]
  exact this i (i + 1) (by unfold cat at hi; omega) (by unfold cat at hi; exact hi) (by omega)
theorem cat_in {X : Its} {i : Nat} (hi : i < (cat X).length) : (cat X).getD i 0 ∈ ids X := gth_ids (k := 8) (getD_mem _ _ hi)
theorem cat_nil {X : Its} (h : ∀ x ∈ X, 0 ≤ x.1 ∧ x.1 < 8) (hl : (cat X).length = 0) : X = [] := by
  rw [len_cat h] at hl
  exact List.eq_nil_of_length_eq_zero hl
theorem cat_cons {X : Its} (h : ∀ x ∈ X, 0 ≤ x.1 ∧ x.1 < 8) (hl : 0 < (cat X).length) : X ≠ [] := by
  intro e
  subst e
  simp [cat, gth, lv_nil] at hl
theorem tp_zero {X : Its} : tpN X = (cat X).getD 0 0 := by
  unfold tpN
  cases cat X <;> rfl
end Go.Proofs.Ytpmjojemcpgpiaa
