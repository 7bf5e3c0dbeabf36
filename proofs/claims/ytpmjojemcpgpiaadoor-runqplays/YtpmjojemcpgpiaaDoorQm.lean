/- Things with priorities as one list, in the order in which they came: levels, the whole order, and what pushes, drops and turns make of them. No program in it. -/
import Derived.Test.YtpmjojemcpgpiaaDoorFm
namespace Go.Proofs.YtpmjojemcpgpiaaDoor.Qm
open Fm

abbrev Its := List (Int × Int)

/-- The things of one priority, in order. -/
def lv (X : Its) (k : Nat) : List Int := (X.filter fun x => x.1 == (k : Int)).map Prod.snd
def ids (X : Its) : List Int := X.map Prod.snd
/-- Those of the k greatest priorities, as they go ahead of each other; all of them. -/
def gth (X : Its) : Nat → List Int
  | 0 => []
  | k + 1 => gth X k ++ lv X (7 - k)
def cat (X : Its) : List Int := gth X 8
def del (X : Its) (n : Int) : Its := X.filter fun x => x.2 != n

structure Ok (m : Nat) (X : Its) : Prop where
  nd : (ids X).Nodup
  le : X.length ≤ m
  rg : ∀ x ∈ X, 0 ≤ x.1 ∧ x.1 < 8

theorem ok_nil (m : Nat) : Ok m [] := ⟨by simp [ids], by simp, fun _ h => by simp at h⟩

theorem mem_lv (X : Its) (k : Nat) (n : Int) : n ∈ lv X k ↔ ((k : Int), n) ∈ X := by
  unfold lv
  simp
theorem mem_ids (X : Its) (n : Int) : n ∈ ids X ↔ ∃ p, (p, n) ∈ X := by
  unfold ids
  simp

theorem one_prio : ∀ {X : Its}, (ids X).Nodup → ∀ {p q n : Int}, (p, n) ∈ X → (q, n) ∈ X → p = q
  | [], _, _, _, _, h, _ => by simp at h
  | x :: r, hn, p, q, n, h1, h2 => by
    unfold ids at hn
    rw [List.map_cons, List.nodup_cons] at hn
    simp only [List.mem_cons] at h1 h2
    rcases h1 with h1 | h1 <;> rcases h2 with h2 | h2
    · have := h1.trans h2.symm
      simp only [Prod.mk.injEq] at this
      exact this.1
    · exact absurd ((mem_ids r n).2 ⟨q, h2⟩) (by rw [← h1] at hn; exact hn.1)
    · exact absurd ((mem_ids r n).2 ⟨p, h1⟩) (by rw [← h2] at hn; exact hn.1)
    · exact one_prio hn.2 h1 h2

theorem nodup_lv {X : Its} (h : (ids X).Nodup) (k : Nat) : (lv X k).Nodup :=
  List.Nodup.sublist (List.Sublist.map _ List.filter_sublist) h
theorem lv_le (X : Its) (k : Nat) : (lv X k).length ≤ X.length := by
  unfold lv
  rw [List.length_map]
  exact List.length_filter_le _ _

theorem lv_push (X : Its) (p : Nat) (n : Int) (k : Nat) : lv (X ++ [((p : Int), n)]) k = if k = p then lv X k ++ [n] else lv X k := by
  unfold lv
  rw [List.filter_append, List.map_append]
  by_cases h : k = p
  · subst h
    simp
  · have : ((p : Int) == (k : Int)) = false := by simp; omega
    simp [h, this]

theorem lv_del (X : Its) (n : Int) (k : Nat) : lv (del X n) k = wo (lv X k) n := by
  unfold lv del wo
  rw [List.filter_map, List.filter_filter, List.filter_filter]
  congr 1
  apply List.filter_congr
  intro x _
  simp [Bool.and_comm]

theorem ids_push (X : Its) (p n : Int) : ids (X ++ [(p, n)]) = ids X ++ [n] := by simp [ids]
theorem ids_del (X : Its) (n : Int) : ids (del X n) = wo (ids X) n := by
  unfold ids del wo
  rw [List.filter_map]
  rfl
theorem del_le (X : Its) (n : Int) : (del X n).length ≤ X.length := List.length_filter_le _ _
theorem del_lt {X : Its} {n : Int} (h : n ∈ ids X) : (del X n).length < X.length := by
  obtain ⟨p, hp⟩ := (mem_ids X n).1 h
  apply Classical.byContradiction
  intro c
  have e : (del X n).length = X.length := by have := del_le X n; omega
  have := (List.length_filter_eq_length_iff.1 e) (p, n) hp
  simp at this
theorem not_del (X : Its) (n : Int) : n ∉ ids (del X n) := by rw [ids_del]; exact not_mem_wo _ _
theorem del_miss {X : Its} {n : Int} (h : n ∉ ids X) : del X n = X := by
  unfold del
  rw [List.filter_eq_self]
  intro x hx
  simp
  intro e
  exact h ((mem_ids X n).2 ⟨x.1, by rw [← e]; exact hx⟩)

theorem ok_push {m : Nat} {X : Its} (h : Ok m X) {p n : Int} (hp : 0 ≤ p ∧ p < 8) (hn : n ∉ ids X) (hl : X.length < m) : Ok m (X ++ [(p, n)]) := by
  refine ⟨?_, by simp; omega, fun x hx => ?_⟩
  · rw [ids_push, List.nodup_append]
    exact ⟨h.nd, by simp, fun x hx y hy e => by simp at hy; exact hn (hy ▸ e ▸ hx)⟩
  · rcases List.mem_append.1 hx with hx | hx
    · exact h.rg x hx
    · simp at hx
      subst hx
      exact hp
theorem ok_del {m : Nat} {X : Its} (h : Ok m X) (n : Int) : Ok m (del X n) :=
  ⟨by rw [ids_del]; exact nodup_wo _ _ h.nd, Nat.le_trans (del_le X n) h.le, fun x hx => h.rg x (List.mem_filter.1 hx).1⟩

/-- What Push answers and leaves. -/
def psE (m : Nat) (X : Its) (p n : Int) : Int := if p < 0 ∨ 8 ≤ p then 2 else if n ∈ ids X then 6 else if m ≤ X.length then 5 else 0
def psX (m : Nat) (X : Its) (p n : Int) : Its := if p < 0 ∨ 8 ≤ p then X else if n ∈ ids X then X else if m ≤ X.length then X else X ++ [(p, n)]
/-- The priority of one; whether it is there. -/
def prP (X : Its) (n : Int) : Int := ((X.find? fun x => x.2 == n).map Prod.fst).getD 0
/-- What Drop and Back answer and leave. -/
def drE (X : Its) (n : Int) : Int := if n ∈ ids X then 0 else 4
def bkX (X : Its) (n : Int) : Its := if n ∈ ids X then del X n ++ [(prP X n, n)] else X
/-- The first one, whether there is one, and what Turn leaves. -/
def tpN (X : Its) : Int := (cat X).headD 0
def tpE (X : Its) : Int := if X = [] then 12 else 0
def tnX (X : Its) : Its := if X = [] then X else bkX X (tpN X)

theorem ok_psX {m : Nat} {X : Its} (h : Ok m X) (p n : Int) : Ok m (psX m X p n) := by
  unfold psX
  split
  · exact h
  · split
    · exact h
    · split
      · exact h
      · rename_i a b c
        exact ok_push h (by omega) b (by omega)

theorem prP_hit {X : Its} (h : (ids X).Nodup) {p n : Int} (hm : (p, n) ∈ X) : prP X n = p := by
  unfold prP
  cases e : X.find? (fun x => x.2 == n) with
  | none =>
    have := List.find?_eq_none.1 e (p, n) hm
    simp at this
  | some x =>
    have h1 := List.find?_some e
    have h2 := List.mem_of_find?_eq_some e
    simp at h1
    have h3 : (x.1, n) ∈ X := by rw [← h1]; exact h2
    exact one_prio h h3 hm
theorem prP_miss {X : Its} {n : Int} (h : n ∉ ids X) : prP X n = 0 := by
  unfold prP
  have : X.find? (fun x => x.2 == n) = none := by
    rw [List.find?_eq_none]
    intro x hx e
    simp at e
    exact h ((mem_ids X n).2 ⟨x.1, by rw [← e]; exact hx⟩)
  rw [this]
  rfl
theorem prP_rg {m : Nat} {X : Its} (h : Ok m X) (n : Int) : 0 ≤ prP X n ∧ prP X n < 8 := by
  by_cases c : n ∈ ids X
  · obtain ⟨p, hp⟩ := (mem_ids X n).1 c
    rw [prP_hit h.nd hp]
    exact h.rg _ hp
  · rw [prP_miss c]
    omega
/-- One that is there has a level. -/
theorem has_lv {m : Nat} {X : Its} (h : Ok m X) {n : Int} (c : n ∈ ids X) : ∃ k : Nat, k < 8 ∧ prP X n = k ∧ n ∈ lv X k ∧ ∀ j, j ≠ k → n ∉ lv X j := by
  obtain ⟨p, hp⟩ := (mem_ids X n).1 c
  have hr := h.rg _ hp
  simp only at hr
  refine ⟨p.toNat, by omega, by rw [prP_hit h.nd hp]; omega, (mem_lv _ _ _).2 (by rw [show ((p.toNat : Nat) : Int) = p by omega]; exact hp), fun j hj hm => ?_⟩
  have := one_prio h.nd ((mem_lv _ _ _).1 hm) hp
  omega
theorem no_lv {X : Its} {n : Int} (c : n ∉ ids X) (k : Nat) : n ∉ lv X k := fun h => c ((mem_ids X n).2 ⟨_, (mem_lv _ _ _).1 h⟩)

theorem ok_bkX {m : Nat} {X : Its} (h : Ok m X) (n : Int) : Ok m (bkX X n) := by
  unfold bkX
  split
  · rename_i c
    exact ok_push (ok_del h n) (prP_rg h n) (not_del X n) (by have := del_lt c; have := h.le; omega)
  · exact h
theorem len_bkX {X : Its} (h : (ids X).Nodup) (n : Int) : (bkX X n).length = X.length := by
  unfold bkX
  split
  · rename_i c
    have e : (ids (del X n)).length + 1 = (ids X).length := by
      rw [ids_del]
      have e2 : wo (ids X) n = (ids X).erase n := by rw [h.erase_eq_filter]; rfl
      rw [e2, List.length_erase_of_mem c]
      have := List.length_pos_of_mem c
      omega
    simp only [ids, List.length_map] at e
    simp
    omega
  · rfl
theorem ok_tnX {m : Nat} {X : Its} (h : Ok m X) : Ok m (tnX X) := by
  unfold tnX
  split
  · exact h
  · exact ok_bkX h _

theorem lv_bkX {m : Nat} {X : Its} (h : Ok m X) {n : Int} {k : Nat} (hk : n ∈ lv X k) (j : Nat) : lv (bkX X n) j = if j = k then wo (lv X j) n ++ [n] else lv X j := by
  have c : n ∈ ids X := (mem_ids X n).2 ⟨_, (mem_lv _ _ _).1 hk⟩
  have e : prP X n = k := prP_hit h.nd ((mem_lv _ _ _).1 hk)
  unfold bkX
  rw [if_pos c, e, lv_push, lv_del]
  by_cases d : j = k
  · rw [if_pos d, if_pos d]
  · rw [if_neg d, if_neg d]
    apply wo_miss
    intro hm
    have := one_prio h.nd ((mem_lv _ _ _).1 hm) ((mem_lv _ _ _).1 hk)
    omega

/-- Which priority is the greatest that there is. -/
def Gr (X : Its) (k : Nat) : Prop := k < 8 ∧ lv X k ≠ [] ∧ ∀ j, k < j → j < 8 → lv X j = []

theorem gr_some {m : Nat} {X : Its} (h : Ok m X) (hX : X ≠ []) : ∃ k, Gr X k := by
  have key : ∀ d, d ≤ 8 → (∃ k, Gr X k) ∨ ∀ j, 8 - d ≤ j → j < 8 → lv X j = [] := by
    intro d
    induction d with
    | zero => intro _; exact Or.inr fun j a b => by omega
    | succ d ih =>
      intro hd
      rcases ih (by omega) with g | g
      · exact Or.inl g
      · by_cases c : lv X (8 - (d + 1)) = []
        · refine Or.inr fun j a b => ?_
          by_cases e : j = 8 - (d + 1)
          · rw [e]; exact c
          · exact g j (by omega) b
        · exact Or.inl ⟨8 - (d + 1), by omega, c, fun j a b => g j (by omega) b⟩
  rcases key 8 (Nat.le_refl _) with g | g
  · exact g
  · exfalso
    obtain ⟨x, hx⟩ := List.exists_mem_of_ne_nil X hX
    have hr := h.rg x hx
    have : x.2 ∈ lv X x.1.toNat := (mem_lv _ _ _).2 (by rw [show ((x.1.toNat : Nat) : Int) = x.1 by omega]; exact hx)
    rw [g _ (by omega) (by omega)] at this
    simp at this

theorem lv_nil (k : Nat) : lv [] k = [] := rfl

theorem gth_empty {X : Its} {k : Nat} (h : ∀ j, 8 - k ≤ j → j < 8 → lv X j = []) (hk : k ≤ 8) : gth X k = [] := by
  induction k with
  | zero => rfl
  | succ k ih =>
    unfold gth
    rw [ih (fun j a b => h j (by omega) b) (by omega), h (7 - k) (by omega) (by omega)]
    rfl

theorem gth_split (X : Its) (k d : Nat) : ∃ Y, gth X (k + d) = gth X k ++ Y := by
  induction d with
  | zero => exact ⟨[], by simp⟩
  | succ d ih =>
    obtain ⟨Y, e⟩ := ih
    refine ⟨Y ++ lv X (7 - (k + d)), ?_⟩
    have q : gth X (k + (d + 1)) = gth X (k + d) ++ lv X (7 - (k + d)) := rfl
    rw [q, e, List.append_assoc]

/-- The first of all is the first of the greatest priority. -/
theorem cat_gr {X : Its} {k : Nat} (g : Gr X k) : ∃ Y, cat X = lv X k ++ Y := by
  obtain ⟨hk, _, he⟩ := g
  obtain ⟨Y, e⟩ := gth_split X (8 - k) k
  rw [show 8 - k + k = 8 by omega] at e
  refine ⟨Y, ?_⟩
  unfold cat
  rw [e, show 8 - k = (7 - k) + 1 by omega]
  unfold gth
  rw [gth_empty (k := 7 - k) (fun j a b => he j (by omega) b) (by omega), show 7 - (7 - k) = k by omega]
  rfl

theorem tpN_gr {X : Its} {k : Nat} (g : Gr X k) : tpN X = (lv X k).headD 0 := by
  obtain ⟨Y, e⟩ := cat_gr g
  unfold tpN
  rw [e]
  obtain ⟨x, r, h⟩ := List.exists_cons_of_ne_nil g.2.1
  rw [h]
  rfl
theorem gr_ne {X : Its} {k : Nat} (g : Gr X k) : X ≠ [] := fun e => by subst e; exact g.2.1 rfl
theorem tp_mem {X : Its} {k : Nat} (g : Gr X k) : tpN X ∈ lv X k := by
  rw [tpN_gr g]
  obtain ⟨x, r, h⟩ := List.exists_cons_of_ne_nil g.2.1
  rw [h]
  simp

/-- What Turn leaves, level by level. -/
theorem lv_tnX {m : Nat} {X : Its} (h : Ok m X) {k : Nat} (g : Gr X k) (j : Nat) : lv (tnX X) j = if j = k then tL (lv X j) else lv X j := by
  unfold tnX
  rw [if_neg (gr_ne g), lv_bkX h (tp_mem g)]
  by_cases c : j = k
  · subst c
    rw [if_pos rfl, if_pos rfl, tpN_gr g]
    have nd := nodup_lv h.nd j
    obtain ⟨x, r, e⟩ := List.exists_cons_of_ne_nil g.2.1
    rw [e] at nd ⊢
    rw [show List.headD (x :: r) 0 = x from rfl, wo_head r x nd]
    rfl
  · rw [if_neg c, if_neg c]

theorem sum_len {X : Its} (h : ∀ x ∈ X, 0 ≤ x.1 ∧ x.1 < 8) : (lv X 0).length + (lv X 1).length + (lv X 2).length + (lv X 3).length + (lv X 4).length + (lv X 5).length + (lv X 6).length + (lv X 7).length = X.length := by
  induction X with
  | nil => rfl
  | cons x r ih =>
    have h1 := ih fun y hy => h y (List.mem_cons_of_mem _ hy)
    have h2 := h x (by simp)
    obtain ⟨p, n⟩ := x
    simp only at h2
    have e : ∀ k : Nat, (lv ((p, n) :: r) k).length = (lv r k).length + if p = (k : Int) then 1 else 0 := by
      intro k
      unfold lv
      rw [List.filter_cons]
      by_cases c : p = (k : Int)
      · simp [c]
      · simp [c]
    simp only [e, List.length_cons]
    obtain rfl | rfl | rfl | rfl | rfl | rfl | rfl | rfl : p = 0 ∨ p = 1 ∨ p = 2 ∨ p = 3 ∨ p = 4 ∨ p = 5 ∨ p = 6 ∨ p = 7 := by omega
    all_goals simp
    all_goals omega

/-- How many those of the first k levels are. -/
def cnt (X : Its) : Nat → Nat
  | 0 => 0
  | k + 1 => cnt X k + (lv X k).length
theorem cnt_all {X : Its} (h : ∀ x ∈ X, 0 ≤ x.1 ∧ x.1 < 8) : cnt X 8 = X.length := by
  rw [← sum_len h]
  simp [cnt]
theorem len_cat {X : Its} (h : ∀ x ∈ X, 0 ≤ x.1 ∧ x.1 < 8) : (cat X).length = X.length := by
  rw [← sum_len h]
  simp [cat, gth]
  omega
theorem gth_le {X : Its} (h : ∀ x ∈ X, 0 ≤ x.1 ∧ x.1 < 8) {k : Nat} (hk : k ≤ 8) : (gth X k).length ≤ X.length := by
  obtain ⟨Y, e⟩ := gth_split X k (8 - k)
  rw [show k + (8 - k) = 8 by omega] at e
  have := len_cat h
  unfold cat at this
  rw [e, List.length_append] at this
  omega
theorem cnt_le {X : Its} (h : ∀ x ∈ X, 0 ≤ x.1 ∧ x.1 < 8) {k : Nat} (hk : k ≤ 8) : cnt X k ≤ X.length := by
  rw [← cnt_all h]
  have : ∀ d, cnt X k ≤ cnt X (k + d) := by
    intro d
    induction d with
    | zero => exact Nat.le_refl _
    | succ d ih => exact Nat.le_trans ih (Nat.le_add_right _ _)
  have := this (8 - k)
  rwa [show k + (8 - k) = 8 by omega] at this
end Go.Proofs.YtpmjojemcpgpiaaDoor.Qm
