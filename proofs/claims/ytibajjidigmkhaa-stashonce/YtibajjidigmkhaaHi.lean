/- A stash of the program in the middle of a law; each object at one place; what is left when all cores are drained. -/
import Derived.Test.YtibajjidigmkhaaRows
import Derived.Test.YtibajjidigmkhaaHe
import Derived.Test.YtibajjidigmkhaaFs
namespace Go.Proofs.Ytibajjidigmkhaa
open Go.ChangeShapes Go.WideShapes Go.ChangeAt Go.RowKit
open Om Hm

/-- The objects that are taken, of the first k. -/
def op (m : Nat) (A : List Nat) (k : Nat) : List Int := ((List.range k).map fun i : Nat => ((i : Int) + 1)).filter (ou m A)
theorem op_succ (m : Nat) (A : List Nat) (k : Nat) : op m A (k + 1) = if ou m A ((k : Int) + 1) = true then op m A k ++ [(k : Int) + 1] else op m A k := by
  unfold op
  rw [List.range_succ, List.map_append, List.filter_append]
  by_cases e : ou m A ((k : Int) + 1) = true
  · rw [if_pos e]; simp [e]
  · rw [if_neg e]; simp [e]
theorem ou_bt (m : Nat) (A : List Nat) (k : Nat) (h : k < 8 * m) : ou m A ((k : Int) + 1) = bt A k := by
  unfold ou
  rw [decide_eq_true (by omega), Bool.true_and, show ((k : Int) + 1 - 1).toNat = k by omega]
theorem op_fr (m : Nat) (A : List Nat) (k : Nat) (h : k ≤ 8 * m) : (op m A k).length + ct (fun i => !bt A i) k = k := by
  induction k with
  | zero => rfl
  | succ k ih =>
    have := ih (by omega)
    rw [op_succ, ct_succ, ou_bt m A k (by omega)]
    cases bt A k
    · simp
      omega
    · simp
      omega
theorem op_free (m : Nat) (A : List Nat) : (op m A (8 * m)).length + fr m A = 8 * m := op_fr m A (8 * m) (Nat.le_refl _)

theorem len_sub : ∀ (L1 L2 : List Int), L1.Nodup → (∀ x ∈ L1, x ∈ L2) → L1.length ≤ L2.length
  | [], L2, _, _ => by simp
  | a :: t, L2, h, s => by
    rw [List.nodup_cons] at h
    have ha : a ∈ L2 := s a (by simp)
    have := len_sub t (L2.erase a) h.2 fun x hx => by
      have hne : x ≠ a := fun e => h.1 (e ▸ hx)
      exact (List.mem_erase_of_ne hne).2 (s x (List.mem_cons_of_mem _ hx))
    rw [List.length_erase_of_mem ha] at this
    have hp : 0 < L2.length := List.length_pos_of_mem ha
    simp
    omega

theorem nodup_up (k : Nat) : ((List.range k).map fun i : Nat => ((i : Int) + 1)).Nodup := by
  induction k with
  | zero => exact List.nodup_nil
  | succ k ih =>
    rw [List.range_succ, List.map_append, List.nodup_append]
    refine ⟨ih, by simp, fun a ha b hb => ?_⟩
    obtain ⟨i, hi, rfl⟩ := List.mem_map.1 ha
    simp at hi hb
    omega
theorem nodup_op (m : Nat) (A : List Nat) (k : Nat) : (op m A k).Nodup := List.Pairwise.filter _ (nodup_up k)
theorem nodup_ol (m : Nat) (A : List Nat) (K : List (List Int)) (k : Nat) : (ol m A K k).Nodup := List.Pairwise.filter _ (nodup_up k)
theorem mem_up {k : Nat} {x : Int} : x ∈ ((List.range k).map fun i : Nat => ((i : Int) + 1)) ↔ 1 ≤ x ∧ x ≤ k := by
  rw [List.mem_map]
  constructor
  · rintro ⟨i, hi, rfl⟩
    simp at hi
    omega
  · rintro ⟨h1, h2⟩
    exact ⟨(x - 1).toNat, by simp; omega, by omega⟩
theorem ou_range {m : Nat} {A : List Nat} {x : Int} (h : ou m A x = true) : 1 ≤ x ∧ x ≤ 8 * m := by
  unfold ou at h
  rw [Bool.and_eq_true] at h
  exact of_decide_eq_true h.1

/-- What is handed out, and what the first c cores keep. -/
def lk (m : Nat) (A : List Nat) (K : List (List Int)) (c : Nat) : List Int := ol m A K 96 ++ (List.range c).flatMap (ks K)
theorem lk_succ (m : Nat) (A : List Nat) (K : List (List Int)) (c : Nat) : lk m A K (c + 1) = lk m A K c ++ ks K c := by
  unfold lk
  rw [List.range_succ, List.flatMap_append, List.append_assoc]
  simp

theorem lk_mem {m n : Nat} {A : List Nat} {K : List (List Int)} (h : Kv m A K) (hn : K.length = n) (x : Int) : x ∈ lk m A K n ↔ ou m A x = true := by
  have hm := h.pg.m2
  unfold lk
  rw [List.mem_append, List.mem_flatMap]
  constructor
  · rintro (g | ⟨j, _, hx⟩)
    · have := (List.mem_filter.1 g).2
      unfold hs at this
      rw [Bool.and_eq_true] at this
      exact this.1
    · exact h.ou j x hx
  · intro o
    cases e : kp K x with
    | true =>
      obtain ⟨j, hj, hx⟩ := kp_at e
      exact Or.inr ⟨j, by simp; omega, hx⟩
    | false =>
      refine Or.inl (List.mem_filter.2 ⟨mem_up.2 ?_, ?_⟩)
      · have := ou_range o
        omega
      · unfold hs
        rw [o, e]
        rfl
theorem lk_nodup {m : Nat} {A : List Nat} {K : List (List Int)} (h : Kv m A K) (c : Nat) : (lk m A K c).Nodup := by
  induction c with
  | zero =>
    unfold lk
    simp
    exact nodup_ol m A K 96
  | succ c ih =>
    rw [lk_succ, List.nodup_append]
    refine ⟨ih, h.nd c, fun a ha b hb e => ?_⟩
    subst e
    unfold lk at ha
    rcases List.mem_append.1 ha with g | g
    · have := (List.mem_filter.1 g).2
      unfold hs at this
      rw [kp_yes hb] at this
      simp at this
    · obtain ⟨j, hj, hx⟩ := List.mem_flatMap.1 g
      simp at hj
      exact h.ap j c a (by omega) hx hb
theorem lk_len {m n : Nat} {A : List Nat} {K : List (List Int)} (h : Kv m A K) (hn : K.length = n) : (lk m A K n).length + fr m A = 8 * m := by
  have e := op_free m A
  have h1 : (lk m A K n).length ≤ (op m A (8 * m)).length := len_sub _ _ (lk_nodup h n) fun x hx => by
    have o := (lk_mem h hn x).1 hx
    refine List.mem_filter.2 ⟨mem_up.2 ?_, o⟩
    have := ou_range o
    omega
  have h2 : (op m A (8 * m)).length ≤ (lk m A K n).length := len_sub _ _ (nodup_op m A _) fun x hx => (lk_mem h hn x).2 (List.mem_filter.1 hx).2
  omega
theorem lk_le {m : Nat} {A : List Nat} {K : List (List Int)} (h : Kv m A K) (c : Nat) : (lk m A K c).length ≤ 96 := by
  have hm := h.pg.m2
  have e := op_free m A
  have : (lk m A K c).length ≤ (op m A (8 * m)).length := len_sub _ _ (lk_nodup h c) fun x hx => by
    have o : ou m A x = true := by
      unfold lk at hx
      rcases List.mem_append.1 hx with g | g
      · have := (List.mem_filter.1 g).2
        unfold hs at this
        rw [Bool.and_eq_true] at this
        exact this.1
      · obtain ⟨j, _, hj⟩ := List.mem_flatMap.1 g
        exact h.ou j x hj
    refine List.mem_filter.2 ⟨mem_up.2 ?_, o⟩
    have := ou_range o
    omega
  omega

/- Drains. -/
theorem hs_drain {m n : Nat} {A : List Nat} {K : List (List Int)} (h : Kv m A K) (hn : K.length = n) (c : Nat) (hc : c < n) (x : Int) : hs m (drA m n A K c) (drK n K c) x = hs m A K x := by
  have i : isc n (c : Int) = true := decide_eq_true (by omega)
  unfold drA drK
  rw [i, if_pos rfl, if_pos rfl, Int.toNat_natCast]
  unfold hs
  rw [ou_gvs _ h.pg]
  by_cases q : x ∈ ks K c
  · rw [decide_eq_false (by simpa using q), kp_yes q]
    simp
  · rw [decide_eq_true q, Bool.true_and]
    congr 2
    cases e : kp K x with
    | true =>
      obtain ⟨j, _, hx⟩ := kp_at e
      refine kp_yes (i := j) ?_
      rw [ks_set K c j [] (by omega), if_neg (by intro r; subst r; exact q hx)]
      exact hx
    | false =>
      cases e2 : kp (K.set c []) x with
      | false => rfl
      | true =>
        obtain ⟨j, _, hx⟩ := kp_at e2
        rw [ks_set K c j [] (by omega)] at hx
        by_cases r : j = c
        · rw [if_pos r] at hx
          simp at hx
        · rw [if_neg r] at hx
          exact absurd hx (kp_no e j)
theorem ol_congr {m : Nat} {A A2 : List Nat} {K K2 : List (List Int)} (h : ∀ x, hs m A K x = hs m A2 K2 x) (k : Nat) : ol m A K k = ol m A2 K2 k := by
  unfold ol
  congr 1
  funext x
  exact h x
theorem drained {m n : Nat} {A : List Nat} {K : List (List Int)} (h : Kv m A K) (hn : K.length = n) (he : ∀ j, j < n → ks K j = []) : (ol m A K 96).length + fr m A = 8 * m := by
  have := lk_len h hn
  have e : (List.range n).flatMap (ks K) = [] := by
    apply List.eq_nil_iff_forall_not_mem.2
    intro x hx
    obtain ⟨j, hj, hm⟩ := List.mem_flatMap.1 hx
    rw [he j (by simpa using hj)] at hm
    simp at hm
  unfold lk at this
  rw [e, List.append_nil] at this
  exact this

/- What has been seen. -/
def sn (m : Nat) (L : List Int) (i : Nat) : List Bool := (List.range (8 * m + 1)).map fun j : Nat => decide ((j : Int) ∈ L.take i)
theorem sn_zero (m : Nat) (L : List Int) : sn m L 0 = List.replicate (8 * m + 1) false := by
  unfold sn
  apply List.ext_getElem?
  intro i
  rw [List.getElem?_map, List.getElem?_replicate]
  by_cases h : i < 8 * m + 1
  · rw [List.getElem?_range h, if_pos h]
    simp
  · rw [List.getElem?_eq_none (by simpa using h), if_neg h]
    rfl
theorem sn_at (m : Nat) (L : List Int) (i j : Nat) (h : j < 8 * m + 1) : (sn m L i)[j]? = some (decide ((j : Int) ∈ L.take i)) := by
  unfold sn
  rw [List.getElem?_map, List.getElem?_range h]
  rfl
theorem sn_set (m : Nat) (L : List Int) (i : Nat) (hi : i < L.length) (x : Nat) (hx : L.getD i 0 = (x : Int)) (_h8 : x < 8 * m + 1) : (sn m L i).set x true = sn m L (i + 1) := by
  apply List.ext_getElem?
  intro j
  by_cases hj : j < 8 * m + 1
  · rw [List.getElem?_set, sn_at m L i j hj, sn_at m L (i + 1) j hj, take_snoc L i hi, hx]
    by_cases e : x = j
    · subst e
      rw [if_pos rfl, if_pos (by simp [sn]; omega)]
      simp
    · rw [if_neg e]
      have : ¬ ((j : Int) = (x : Int)) := by omega
      simp [this]
  · rw [List.getElem?_eq_none (by simp [sn]; omega), List.getElem?_eq_none (by simp [sn]; omega)]
theorem sn_new {L : List Int} (h : L.Nodup) (i : Nat) (hi : i < L.length) : L.getD i 0 ∉ L.take i := by
  intro hm
  rw [← List.take_append_drop i L, List.nodup_append] at h
  refine h.2.2 _ hm _ ?_ rfl
  rw [List.getD_eq_getElem?_getD, List.getElem?_eq_getElem hi, Option.getD_some]
  exact List.mem_drop_iff_getElem.2 ⟨0, by omega, by simp⟩

/-- A list of the caller's own beside the stash's calls. -/
theorem SW.act2 {w wr w1 : World} {s b pb lb n m : Nat} {A A2 : List Nat} {V : List Value} {K K2 : List (List Int)} (h : SW w wr s b pb lb n m A V K) (k : SC wr w1 b pb lb n m V A2 K2) {v : Value} {xs : List Int} (l : Lv wr v xs) (d : ∀ g ∈ vb v, g ∉ bl V) :
    ∃ V2, SW w w1 s b pb lb n m A2 V2 K2 ∧ Lv w1 v xs ∧ ∀ g ∈ vb v, g ∉ bl V2 := by
  obtain ⟨V2, h2, hV⟩ := k.ex
  have hl := h.le
  obtain ⟨u1, u2, u3, u4⟩ := h.up
  refine ⟨V2, ⟨h2, h.bel.trans ((k.fr.less hl).below fun g hg => ?_), u1, u2, u3, fun g hg => ?_⟩, l.keep k.fr (Nat.le_refl _) fun g hg hm => ?_, fun g hg hm => ?_⟩
  · simp only [List.mem_cons] at hg
    rcases hg with e | e | e
    · omega
    · omega
    · exact u4 g e
  · rcases hV g hg with e | e
    · exact u4 g e
    · omega
  · simp only [List.mem_cons] at hm
    rcases hm with e | e | e
    · subst e
      exact l.not h.h.st.sl (by decide) hg
    · subst e
      exact l.not h.h.po.sb (by decide) hg
    · exact d g hg e
  · rcases hV g hm with e | e
    · exact d g hg e
    · have := l.lt g hg
      omega
theorem lv_below {w w1 : World} {v : Value} {xs : List Int} (l : Lv w v xs) (f : Below w.heap.size w w1) : Lv w1 v xs := l.keep (Fr.of_below f) (Nat.le_refl _) (by simp)
/-- An answer of a call is none of the stash's lists. -/
theorem gt_apart {w wr u : World} {s b pb lb n m : Nat} {A : List Nat} {V : List Value} {K : List (List Int)} (h : SW w wr s b pb lb n m A V K) {v : Value} {G : List Int} (g : Gt wr u v G) : Lv u v G ∧ ∀ q ∈ vb v, q ∉ bl V := by
  obtain ⟨l1, l2⟩ := lv_own g.own
  refine ⟨l1, fun q hq hm => ?_⟩
  have := l2 q hq
  have := h.h.st.bl_lt hm
  omega
theorem kc_in {n : Nat} {K : List (List Int)} {c : Nat} (h : c < n) : kc n K (c : Int) = ks K c := by
  unfold kc
  rw [show isc n (c : Int) = true from decide_eq_true (by omega)]
  rfl
theorem dr_in {n : Nat} {K : List (List Int)} {c : Nat} (h : c < n) : drN n K (c : Int) = ((ks K c).length : Int) ∧ drE n (c : Int) = 0 ∧ drK n K (c : Int) = K.set c [] := by
  have i : isc n (c : Int) = true := decide_eq_true (by omega)
  unfold drN drE drK
  rw [i]
  exact ⟨rfl, rfl, rfl⟩
end Go.Proofs.Ytibajjidigmkhaa
