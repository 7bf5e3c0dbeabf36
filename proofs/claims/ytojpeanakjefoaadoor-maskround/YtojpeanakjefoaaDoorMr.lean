/- Plain facts on a rising list that is gone round: one behind the other, each once; no program in it. -/
import Derived.Test.YtojpeanakjefoaaDoorMm
namespace Go.Proofs.YtojpeanakjefoaaDoor.Mm

theorem rising_ls (m : Nat) : (ls m).Pairwise (· < ·) := by
  unfold ls
  exact List.Pairwise.filter _ List.pairwise_lt_range

theorem above_at : ∀ (L : List Nat), L.Pairwise (· < ·) → ∀ j (hj : j < L.length), (L.filter fun k : Nat => decide (((L[j] : Nat) : Int) < (k : Int))) = L.drop (j + 1)
  | [], _, j, hj => by simp at hj
  | a :: r, h, 0, _ => by
    have hr := (List.pairwise_cons.1 h).1
    simp only [List.getElem_cons_zero, List.filter_cons, List.drop_succ_cons, List.drop_zero]
    have e : decide ((a : Int) < (a : Int)) = false := decide_eq_false (by omega)
    rw [e]
    simp only [Bool.false_eq_true, if_false]
    rw [List.filter_eq_self]
    intro k hk
    have := hr k hk
    exact decide_eq_true (by omega)
  | a :: r, h, j + 1, hj => by
    have hr := (List.pairwise_cons.1 h).1
    have hj' : j < r.length := by simpa using hj
    have ih := above_at r (List.pairwise_cons.1 h).2 j hj'
    simp only [List.getElem_cons_succ, List.filter_cons, List.drop_succ_cons]
    have := hr r[j] (List.getElem_mem hj')
    have e : decide (((r[j] : Nat) : Int) < (a : Int)) = false := decide_eq_false (by omega)
    rw [e]
    simp only [Bool.false_eq_true, if_false]
    exact ih

theorem above_from (c : Int) : ∀ (L : List Nat), L.Pairwise (· < ·) → (L.filter fun k : Nat => decide (c < (k : Int))) = L.drop (L.filter fun k : Nat => decide ((k : Int) ≤ c)).length
  | [], _ => rfl
  | a :: r, h => by
    have hr := (List.pairwise_cons.1 h).1
    have ih := above_from c r (List.pairwise_cons.1 h).2
    simp only [List.filter_cons]
    by_cases ha : (a : Int) ≤ c
    · have e1 : decide ((a : Int) ≤ c) = true := decide_eq_true ha
      have e2 : decide (c < (a : Int)) = false := decide_eq_false (by omega)
      rw [e1, e2]
      simp only [Bool.false_eq_true, if_false, if_true, List.length_cons, List.drop_succ_cons]
      exact ih
    · have e1 : decide ((a : Int) ≤ c) = false := decide_eq_false ha
      have e2 : decide (c < (a : Int)) = true := decide_eq_true (by omega)
      have f : (r.filter fun k : Nat => decide ((k : Int) ≤ c)) = [] := by
        rw [List.filter_eq_nil_iff]
        intro k hk
        have := hr k hk
        simp
        omega
      rw [e1, e2, f]
      rw [f] at ih
      simp only [Bool.false_eq_true, if_false, if_true, List.length_nil, List.drop_zero] at ih ⊢
      rw [ih]

/-- How many cores are not above a number. -/
def low (m : Nat) (c : Int) : Nat := ((ls m).filter fun k : Nat => decide ((k : Int) ≤ c)).length
/-- The core that comes t behind the first one above c, the list gone round. -/
def rd (m : Nat) (c : Int) (t : Nat) : Nat := (ls m).getD ((low m c + t) % (ls m).length) 0
/-- The first t of them. -/
def sn (m : Nat) (c : Int) (t : Nat) : List Int := (List.range t).map fun i : Nat => (rd m c i : Int)

theorem low_le (m : Nat) (c : Int) : low m c ≤ (ls m).length := List.length_filter_le _ _

/-- The next one of a place in the list: the one behind it, or the first one. -/
theorem nx_drop (m : Nat) (c : Int) (j : Nat) (h0 : 0 < (ls m).length) (hj : j ≤ (ls m).length) (e : ((ls m).filter fun k : Nat => decide (c < (k : Int))) = (ls m).drop j) :
    hd (nx m c) = (ls m).getD (j % (ls m).length) 0 ∧ er (nx m c) = 0 := by
  have hn : ls m ≠ [] := fun h => by rw [h] at h0; simp at h0
  unfold nx
  rw [e]
  by_cases h : j = (ls m).length
  · have z : (ls m).drop j = [] := by rw [h]; exact List.drop_length
    rw [if_pos z, h, Nat.mod_self]
    refine ⟨?_, if_neg hn⟩
    unfold hd
    rw [List.headD_eq_head?_getD, List.getD_eq_getElem?_getD, List.head?_eq_getElem?]
  · have hl : j < (ls m).length := by omega
    have z : (ls m).drop j ≠ [] := by
      intro g
      have := congrArg List.length g
      rw [List.length_drop] at this
      simp at this
      omega
    rw [if_neg z, Nat.mod_eq_of_lt hl]
    refine ⟨?_, if_neg z⟩
    unfold hd
    rw [List.headD_eq_head?_getD, List.getD_eq_getElem?_getD, List.head?_drop]

theorem round_start (m : Nat) (c : Int) (h0 : 0 < (ls m).length) : hd (nx m c) = rd m c 0 ∧ er (nx m c) = 0 := by
  have := nx_drop m c (low m c) h0 (low_le m c) (above_from c (ls m) (rising_ls m))
  rw [rd, Nat.add_zero]
  exact this

theorem rd_at (m : Nat) (c : Int) (t : Nat) (h0 : 0 < (ls m).length) : ∃ h : (low m c + t) % (ls m).length < (ls m).length, rd m c t = (ls m)[(low m c + t) % (ls m).length] := by
  have h := Nat.mod_lt (low m c + t) h0
  refine ⟨h, ?_⟩
  rw [rd, List.getD_eq_getElem?_getD, List.getElem?_eq_getElem h]
  rfl

theorem round_step (m : Nat) (c : Int) (t : Nat) (h0 : 0 < (ls m).length) : hd (nx m (rd m c t : Nat)) = rd m c (t + 1) ∧ er (nx m (rd m c t : Nat)) = 0 := by
  obtain ⟨h, e⟩ := rd_at m c t h0
  have a := above_at (ls m) (rising_ls m) _ h
  rw [← e] at a
  have := nx_drop m (rd m c t : Nat) ((low m c + t) % (ls m).length + 1) h0 (by omega) a
  rw [Nat.mod_add_mod] at this
  exact this

theorem rd_in (m : Nat) (c : Int) (t : Nat) (h0 : 0 < (ls m).length) : rd m c t < 64 ∧ tb m (rd m c t : Nat) = true := by
  obtain ⟨h, e⟩ := rd_at m c t h0
  have := (mem_ls m (rd m c t)).1 (by rw [e]; exact List.getElem_mem h)
  refine ⟨this.1, ?_⟩
  rw [tb_nat m _ this.1]
  exact this.2

theorem mod_inj (N p s t : Nat) (hs : s < t) (ht : t < N) (i : (p + s) % N = (p + t) % N) : False := by
  have a1 := Nat.div_add_mod (p + s) N
  have a2 := Nat.div_add_mod (p + t) N
  rw [i] at a1
  have d : N * ((p + t) / N) = N * ((p + s) / N) + (t - s) := by omega
  have q : (p + s) / N ≤ (p + t) / N := Nat.div_le_div_right (by omega)
  obtain ⟨u, hu⟩ : ∃ u, (p + t) / N = (p + s) / N + u := ⟨_, (Nat.add_sub_cancel' q).symm⟩
  rw [hu, Nat.mul_add] at d
  have v : N * u = t - s := by omega
  rcases u with _ | u
  · simp at v; omega
  · rw [Nat.mul_add, Nat.mul_one] at v
    omega

theorem rd_inj (m : Nat) (c : Int) (s t : Nat) (hs : s < t) (ht : t < (ls m).length) : rd m c s ≠ rd m c t := by
  have h0 : 0 < (ls m).length := by omega
  obtain ⟨h1, e1⟩ := rd_at m c s h0
  obtain ⟨h2, e2⟩ := rd_at m c t h0
  intro e
  rw [e1, e2] at e
  have nd : (ls m).Nodup := List.Pairwise.filter _ List.nodup_range
  have i := (List.getElem_inj nd).1 e
  exact mod_inj _ _ s t hs ht i

theorem seen_succ (m : Nat) (c : Int) (t : Nat) : sn m c (t + 1) = sn m c t ++ [(rd m c t : Int)] := by
  unfold sn
  rw [List.range_succ, List.map_append]
  rfl

theorem seen_not (m : Nat) (c : Int) (t : Nat) (ht : t < (ls m).length) : tb (wl 0 (sn m c t)) (rd m c t : Nat) = false := by
  have r := (rd_in m c t (by omega)).1
  rw [tb_nat _ _ r, bit_wl, Nat.zero_testBit, Bool.false_or]
  have : ¬ ((rd m c t : Nat) : Int) ∈ sn m c t := by
    intro h
    unfold sn at h
    obtain ⟨s, hs, e⟩ := List.mem_map.1 h
    exact rd_inj m c s t (List.mem_range.1 hs) ht (by omega)
  simp [this]

theorem seen_all (m : Nat) (c : Int) (hm : m < 18446744073709551616) : wl 0 (sn m c (ls m).length) = m := by
  apply Nat.eq_of_testBit_eq
  intro i
  rw [bit_wl, Nat.zero_testBit, Bool.false_or]
  by_cases hi : i < 64
  · simp only [hi, decide_true, Bool.true_and]
    rw [Bool.eq_iff_iff]
    constructor
    · intro h
      have h := of_decide_eq_true h
      unfold sn at h
      obtain ⟨s, hs, e⟩ := List.mem_map.1 h
      have hs := List.mem_range.1 hs
      have r := rd_in m c s (by omega)
      rw [tb_nat _ _ r.1] at r
      have : rd m c s = i := by omega
      rw [← this]
      exact r.2
    · intro h
      have hmem : i ∈ ls m := (mem_ls m i).2 ⟨hi, h⟩
      obtain ⟨j, hj, e⟩ := List.mem_iff_getElem.1 hmem
      apply decide_eq_true
      unfold sn
      refine List.mem_map.2 ⟨(j + ((ls m).length - low m c)) % (ls m).length, List.mem_range.2 (Nat.mod_lt _ (by omega)), ?_⟩
      have l := low_le m c
      have g : (low m c + (j + ((ls m).length - low m c)) % (ls m).length) % (ls m).length = j := by
        rw [Nat.add_mod_mod, show low m c + (j + ((ls m).length - low m c)) = j + (ls m).length by omega, Nat.add_mod_right, Nat.mod_eq_of_lt hj]
      have : rd m c ((j + ((ls m).length - low m c)) % (ls m).length) = i := by
        rw [rd, g, List.getD_eq_getElem?_getD, List.getElem?_eq_getElem hj, e]
        rfl
      rw [this]
  · have := bit_hi hm (show 64 ≤ i by omega)
    simp [hi, this]

end Go.Proofs.YtojpeanakjefoaaDoor.Mm
