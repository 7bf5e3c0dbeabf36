/- A ring of numbers, and the list that stands in it: plain facts on lists; no program in it. -/
namespace Go.Proofs.Ytaaikbehdfkhlaa.Fm

/-- Where in a ring of m the one stands that has k ahead of it. -/
def pl (m f k : Nat) : Nat := if f + k < m then f + k else f + k - m

/-- How many are ahead of n; -1, if it is not there. -/
def ix (L : List Int) (n : Int) : Int := if n ∈ L then (L.idxOf n : Nat) else -1

theorem getD_of (L : List Int) (k : Nat) (h : k < L.length) : L.getD k 0 = L[k] := by simp [List.getD, h]

theorem ext_getD (A B : List Int) (hl : A.length = B.length) (h : ∀ i, i < A.length → A.getD i 0 = B.getD i 0) : A = B := by
  apply List.ext_getElem hl
  intro i h1 h2
  have := h i h1
  rwa [getD_of A i h1, getD_of B i h2] at this

theorem mem_getD (L : List Int) (n : Int) : n ∈ L ↔ ∃ k, k < L.length ∧ L.getD k 0 = n := by
  rw [List.mem_iff_getElem]
  constructor
  · rintro ⟨k, h, e⟩
    exact ⟨k, h, by rw [getD_of L k h]; exact e⟩
  · rintro ⟨k, h, e⟩
    exact ⟨k, h, by rw [getD_of L k h] at e; exact e⟩

theorem idx_first : ∀ (L : List Int) (n : Int) (k : Nat), k < L.length → L.getD k 0 = n → (∀ j, j < k → L.getD j 0 ≠ n) → L.idxOf n = k
  | [], _, k, h, _, _ => by simp at h
  | a :: r, n, 0, _, e, _ => by
    have : a = n := by simpa using e
    subst this
    simp
  | a :: r, n, k + 1, h, e, f => by
    have hne : a ≠ n := by simpa using f 0 (by omega)
    have ih := idx_first r n k (by simpa using h) (by simpa using e) fun j hj => by simpa using f (j + 1) (by omega)
    rw [List.idxOf_cons, show (a == n) = false by simpa using hne]
    simp only [cond_false, ih]

theorem idx_before : ∀ (L : List Int) (n : Int) (j : Nat), j < L.idxOf n → j < L.length → L.getD j 0 ≠ n
  | [], _, j, _, h => by simp at h
  | a :: r, n, 0, h, _ => by
    intro e
    have : a = n := by simpa using e
    subst this
    simp at h
  | a :: r, n, j + 1, h, h2 => by
    rw [List.idxOf_cons] at h
    have h3 : j < r.idxOf n := by
      by_cases c : a = n
      · rw [show (a == n) = true by simpa using c] at h
        simp only [cond_true] at h
        omega
      · rw [show (a == n) = false by simpa using c] at h
        simp only [cond_false] at h
        omega
    simpa using idx_before r n j h3 (by simpa using h2)

theorem ix_hit (L : List Int) (n : Int) (k : Nat) (h : k < L.length) (e : L.getD k 0 = n) (f : ∀ j, j < k → L.getD j 0 ≠ n) : ix L n = k := by
  unfold ix
  rw [if_pos ((mem_getD L n).2 ⟨k, h, e⟩)]
  rw [idx_first L n k h e f]

theorem ix_miss (L : List Int) (n : Int) (f : ∀ j, j < L.length → L.getD j 0 ≠ n) : ix L n = -1 := by
  unfold ix
  rw [if_neg]
  intro h
  obtain ⟨k, hk, e⟩ := (mem_getD L n).1 h
  exact f k hk e

theorem ix_neg (L : List Int) (n : Int) (h : n ∉ L) : ix L n = -1 := if_neg h
theorem ix_pos (L : List Int) (n : Int) (h : n ∈ L) : ∃ k : Nat, ix L n = k ∧ k < L.length ∧ L.getD k 0 = n ∧ ∀ j, j < k → L.getD j 0 ≠ n := by
  have hl : L.idxOf n < L.length := List.idxOf_lt_length_of_mem h
  refine ⟨L.idxOf n, if_pos h, hl, ?_, fun j hj => ?_⟩
  · rw [getD_of L _ hl]
    exact List.getElem_idxOf hl
  · exact idx_before L n j hj (by omega)

theorem getD_app_left (A B : List Int) (j : Nat) (h : j < A.length) : (A ++ B).getD j 0 = A.getD j 0 := by
  simp [List.getD, List.getElem?_append_left h]
theorem getD_app_right (A B : List Int) (j : Nat) (h : A.length ≤ j) : (A ++ B).getD j 0 = B.getD (j - A.length) 0 := by
  simp [List.getD, List.getElem?_append_right h]

theorem ix_app_left (A B : List Int) (n : Int) (h : n ∈ A) : ix (A ++ B) n = ix A n := by
  obtain ⟨k, e, hk, g, f⟩ := ix_pos A n h
  rw [e]
  exact ix_hit _ _ _ (by simp; omega) (by rw [getD_app_left _ _ _ hk]; exact g) fun j hj => by rw [getD_app_left _ _ _ (by omega)]; exact f j hj

theorem ix_app_right (A B : List Int) (n : Int) (h : n ∉ A) (h2 : n ∈ B) : ix (A ++ B) n = A.length + ix B n := by
  obtain ⟨k, e, hk, g, f⟩ := ix_pos B n h2
  rw [e]
  have := ix_hit (A ++ B) n (A.length + k) (by simp; omega) (by rw [getD_app_right _ _ _ (by omega), show A.length + k - A.length = k by omega]; exact g) fun j hj => by
    by_cases c : j < A.length
    · rw [getD_app_left _ _ _ c]
      intro e2
      exact h ((mem_getD A n).2 ⟨j, c, e2⟩)
    · rw [getD_app_right _ _ _ (by omega)]
      exact f _ (by omega)
  rw [this]
  omega

/-- The list L stands in the ring r of m, from f on. -/
structure Rg (m f : Nat) (r L : List Int) : Prop where
  len : r.length = m
  m1 : 1 ≤ m
  m2 : m ≤ 1024
  hf : f < m
  hc : L.length ≤ m
  at' : ∀ k, k < L.length → r.getD (pl m f k) 0 = L.getD k 0

theorem getD_set (r : List Int) (p q : Nat) (n : Int) (hp : p < r.length) : (r.set p n).getD q 0 = if q = p then n else r.getD q 0 := by
  simp only [List.getD, List.getElem?_set]
  by_cases h : p = q
  · subst h; simp [hp]
  · have : ¬ q = p := fun e => h e.symm
    simp [h, this]

theorem pl_lt {m f k : Nat} (hf : f < m) (hk : k ≤ m) : pl m f k < m := by unfold pl; split <;> omega
theorem pl_inj {m f j k : Nat} (_ : f < m) (hj : j < m) (hk : k < m) (h : pl m f j = pl m f k) : j = k := by
  unfold pl at h
  split at h <;> split at h <;> omega
theorem pl_pl {m f k : Nat} (hf : f < m) (hk : k + 1 < m) : pl m (pl m f 1) k = pl m f (k + 1) := by
  unfold pl
  split <;> split <;> split <;> omega

theorem rg_new (m : Nat) (h1 : 1 ≤ m) (h2 : m ≤ 1024) : Rg m 0 (List.replicate m 0) [] :=
  ⟨by simp, h1, h2, by omega, by simp, fun k hk => by simp at hk⟩

theorem rg_push {m f : Nat} {r L : List Int} (h : Rg m f r L) (n : Int) (hc : L.length < m) : Rg m f (r.set (pl m f L.length) n) (L ++ [n]) := by
  have hp := pl_lt (k := L.length) h.hf (by omega)
  refine ⟨by simp [h.len], h.m1, h.m2, h.hf, by simp; omega, fun k hk => ?_⟩
  rw [getD_set _ _ _ _ (by rw [h.len]; exact hp)]
  by_cases c : k = L.length
  · subst c
    rw [if_pos rfl, getD_app_right _ _ _ (Nat.le_refl _)]
    simp
  · have hk2 : k < L.length := by simp at hk; omega
    rw [if_neg, getD_app_left _ _ _ hk2]
    · exact h.at' k hk2
    · intro e
      have := pl_inj h.hf (by omega) hc e
      omega

theorem getD_tail (L : List Int) (k : Nat) : L.tail.getD k 0 = L.getD (k + 1) 0 := by
  cases L <;> simp [List.getD]

theorem rg_pop {m f : Nat} {r L : List Int} (h : Rg m f r L) (hc : 0 < L.length) : Rg m (pl m f 1) r L.tail := by
  have hl : L.tail.length = L.length - 1 := by simp
  have := h.hc
  refine ⟨h.len, h.m1, h.m2, pl_lt h.hf h.m1, by omega, fun k hk => ?_⟩
  rw [pl_pl h.hf (by omega), getD_tail]
  exact h.at' (k + 1) (by omega)

/-- While one is taken out: so many of those behind it have moved up. -/
structure Dr (m f : Nat) (r L : List Int) (gap k : Nat) : Prop where
  len : r.length = m
  at' : ∀ j, j < L.length → r.getD (pl m f j) 0 = if gap ≤ j ∧ j < gap + k then L.getD (j + 1) 0 else L.getD j 0

theorem dr_start {m f : Nat} {r L : List Int} (h : Rg m f r L) (gap : Nat) : Dr m f r L gap 0 :=
  ⟨h.len, fun j hj => by rw [if_neg (by omega)]; exact h.at' j hj⟩

theorem dr_step {m f : Nat} {r L : List Int} {gap k : Nat} (h : Dr m f r L gap k) (hf : f < m) (hL : L.length ≤ m) (hk : gap + k + 1 < L.length) :
    Dr m f (r.set (pl m f (gap + k)) (r.getD (pl m f (gap + k + 1)) 0)) L gap (k + 1) := by
  refine ⟨by simp [h.len], fun j hj => ?_⟩
  rw [getD_set _ _ _ _ (by rw [h.len]; exact pl_lt hf (by omega))]
  by_cases c : j = gap + k
  · subst c
    rw [if_pos rfl, if_pos (by omega), h.at' _ hk, if_neg (by omega)]
  · rw [if_neg, h.at' j hj]
    · by_cases d : gap ≤ j ∧ j < gap + k
      · rw [if_pos d, if_pos (by omega)]
      · rw [if_neg d, if_neg (by omega)]
    · intro e
      exact c (pl_inj hf (by omega) (by omega) e)

theorem getD_eraseIdx (L : List Int) (gap j : Nat) : (L.eraseIdx gap).getD j 0 = if j < gap then L.getD j 0 else L.getD (j + 1) 0 := by
  simp only [List.getD, List.getElem?_eraseIdx]
  split <;> rfl

theorem dr_end {m f : Nat} {r L : List Int} {gap k : Nat} (h : Dr m f r L gap k) (hr : 1 ≤ m ∧ m ≤ 1024 ∧ f < m ∧ L.length ≤ m) (hg : gap < L.length) (hk : gap + k + 1 = L.length) : Rg m f r (L.eraseIdx gap) := by
  have hl : (L.eraseIdx gap).length = L.length - 1 := List.length_eraseIdx_of_lt hg
  refine ⟨h.len, hr.1, hr.2.1, hr.2.2.1, by omega, fun j hj => ?_⟩
  rw [h.at' j (by omega), getD_eraseIdx]
  by_cases c : gap ≤ j
  · rw [if_pos (by omega), if_neg (by omega)]
  · rw [if_neg (by omega), if_pos (by omega)]

theorem rg_one {m f : Nat} {r L : List Int} (h : Rg m f r L) (hc : f + L.length ≤ m) : (r.drop f).take L.length = L := by
  have hl : ((r.drop f).take L.length).length = L.length := by simp [h.len]; omega
  apply ext_getD _ _ hl
  intro i hi
  rw [hl] at hi
  rw [← h.at' i hi]
  simp only [List.getD, List.getElem?_take, if_pos hi, List.getElem?_drop]
  rw [show pl m f i = f + i from if_pos (by omega)]

theorem rg_two {m f : Nat} {r L : List Int} (h : Rg m f r L) (hc : m < f + L.length) : (r.drop f).take (m - f) ++ (r.drop 0).take (f + L.length - m) = L := by
  have hm := h.hf
  have hh := h.hc
  have l1 : ((r.drop f).take (m - f)).length = m - f := by simp [h.len]
  have l2 : ((r.drop 0).take (f + L.length - m)).length = f + L.length - m := by simp [h.len]; omega
  have hl : ((r.drop f).take (m - f) ++ (r.drop 0).take (f + L.length - m)).length = L.length := by rw [List.length_append, l1, l2]; omega
  apply ext_getD _ _ hl
  intro i hi
  rw [hl] at hi
  rw [← h.at' i hi]
  by_cases c : i < m - f
  · rw [getD_app_left _ _ _ (by rw [l1]; exact c)]
    simp only [List.getD, List.getElem?_take, if_pos c, List.getElem?_drop]
    rw [show pl m f i = f + i from if_pos (by omega)]
  · rw [getD_app_right _ _ _ (by rw [l1]; omega), l1]
    simp only [List.getD, List.getElem?_take, List.getElem?_drop]
    rw [if_pos (by omega), show pl m f i = f + i - m from if_neg (by omega), show 0 + (i - (m - f)) = f + i - m by omega]

/-- What Push answers and leaves. -/
def pE (m : Nat) (L : List Int) (n : Int) : Int := if n ∈ L then 6 else if m ≤ L.length then 5 else 0
def pL (m : Nat) (L : List Int) (n : Int) : List Int := if n ∈ L then L else if m ≤ L.length then L else L ++ [n]
/-- Whether there is a first one. -/
def fE (L : List Int) : Int := if L = [] then 12 else 0
/-- What Drop answers and leaves. -/
def dE (L : List Int) (n : Int) : Int := if n ∈ L then 0 else 4
def wo (L : List Int) (n : Int) : List Int := L.filter fun x => x != n
/-- What Turn leaves. -/
def tL (L : List Int) : List Int := L.tail ++ L.take 1

theorem erase_ix (L : List Int) (n : Int) (h : L.Nodup) (gap : Nat) (e : ix L n = gap) : L.eraseIdx gap = wo L n := by
  have hm : n ∈ L := by
    apply Classical.byContradiction
    intro c
    rw [ix_neg L n c] at e
    omega
  have : gap = L.idxOf n := by
    unfold ix at e
    rw [if_pos hm] at e
    omega
  subst this
  rw [← List.erase_eq_eraseIdx_of_idxOf (l := L) (a := n) (i := L.idxOf n) rfl, h.erase_eq_filter]
  rfl

theorem wo_miss (L : List Int) (n : Int) (h : n ∉ L) : wo L n = L := by
  unfold wo
  rw [List.filter_eq_self]
  intro x hx
  simp
  intro e
  exact h (e ▸ hx)

theorem wo_head (L : List Int) (n : Int) (h : (n :: L).Nodup) : wo (n :: L) n = L := by
  rw [List.nodup_cons] at h
  unfold wo
  rw [List.filter_cons]
  simp
  intro a ha e
  exact h.1 (e ▸ ha)

theorem nodup_wo (L : List Int) (n : Int) (h : L.Nodup) : (wo L n).Nodup := List.Pairwise.filter _ h
theorem wo_le (L : List Int) (n : Int) : (wo L n).length ≤ L.length := List.length_filter_le _ _
theorem not_mem_wo (L : List Int) (n : Int) : n ∉ wo L n := by
  unfold wo
  simp

theorem nodup_pL (m : Nat) (L : List Int) (n : Int) (h : L.Nodup) : (pL m L n).Nodup := by
  unfold pL
  split
  · exact h
  · split
    · exact h
    · rename_i a _
      rw [List.nodup_append]
      refine ⟨h, by simp, ?_⟩
      intro x hx y hy e
      simp at hy
      exact a (hy ▸ e ▸ hx)

theorem pL_le (m : Nat) (L : List Int) (n : Int) (h : L.length ≤ m) : (pL m L n).length ≤ m := by
  unfold pL
  split
  · exact h
  · split
    · exact h
    · simp; omega

theorem nodup_tL (L : List Int) (h : L.Nodup) : (tL L).Nodup := by
  cases L with
  | nil => simp [tL]
  | cons a r =>
    simp only [tL, List.tail_cons, List.take_succ_cons, List.take_zero]
    rw [List.nodup_cons] at h
    rw [List.nodup_append]
    refine ⟨h.2, by simp, ?_⟩
    intro x hx y hy e
    simp at hy
    exact h.1 (hy ▸ e ▸ hx)
theorem len_tL (L : List Int) : (tL L).length = L.length := by
  cases L <;> simp [tL]
end Go.Proofs.Ytaaikbehdfkhlaa.Fm
