/- What the loops of RunqMoves keep: how many things there are, and at which priorities; the list of those that were put. -/
import Derived.Test.YtpmjojemcpgpiabUd
import Derived.Test.YtpmjojemcpgpiabFs
namespace Go.Proofs.Ytpmjojemcpgpiab
open Go.ChangeShapes Go.WideShapes Go.ChangeAt Go.RowKit
open Fm Qm

/-- How many things the first c cores have. -/
def sumK (K : Ks) : Nat → Nat
  | 0 => 0
  | c + 1 => sumK K c + (K c).length
theorem sum_up (K : Ks) (c : Nat) (X : Its) (n : Nat) : sumK (up K c X) n + (if c < n then (K c).length else 0) = sumK K n + (if c < n then X.length else 0) := by
  induction n with
  | zero => simp [sumK]
  | succ n ih =>
    unfold sumK
    by_cases e : n = c
    · subst e
      rw [up_same]
      simp only [Nat.lt_irrefl, if_false, Nat.add_zero] at ih
      simp only [Nat.lt_succ_self, if_true]
      omega
    · rw [up_other _ e]
      by_cases h : c < n
      · simp only [h, if_true, show c < n + 1 by omega] at ih ⊢
        omega
      · simp only [h, if_false, show ¬ c < n + 1 by omega] at ih ⊢
        omega

structure SI (n : Nat) (K : Ks) (T : Its) : Prop where
  sum : sumK K n = T.length
  mem : ∀ x ∈ T, ∃ c, c < n ∧ x ∈ K c

theorem si_nil (n : Nat) : SI n (fun _ => []) [] := ⟨by induction n with | zero => rfl | succ n ih => simp [sumK] at ih ⊢; exact ih, fun x hx => by simp at hx⟩

theorem pu_bad {n : Nat} {K : Ks} {c p id : Int} (h : puE n K c p id ≠ 0) : puK n K c p id = K := by
  unfold puE at h
  unfold puK
  by_cases a : isC n c
  · rw [if_pos a] at h ⊢
    by_cases b : whB n K id = true
    · rw [if_pos b]
    · rw [if_neg b] at h ⊢
      rcases ps_cases 32 (K c.toNat) p id with ⟨e, _⟩ | ⟨_, e⟩
      · exact absurd e h
      · rw [e, up_id]
  · rw [if_neg a]
theorem si_put {n : Nat} {K : Ks} {T : Its} (h : SI n K T) {c p id : Int} (e : puE n K c p id = 0) : SI n (puK n K c p id) (T ++ [(p, id)]) := by
  unfold puE at e
  unfold puK
  by_cases a : isC n c
  · rw [if_pos a] at e ⊢
    by_cases b : whB n K id = true
    · rw [if_pos b] at e; omega
    · rw [if_neg b] at e ⊢
      have hc : c.toNat < n := by unfold isC at a; omega
      rcases ps_cases 32 (K c.toNat) p id with ⟨_, e2, _⟩ | ⟨e2, _⟩
      · rw [e2]
        refine ⟨?_, fun x hx => ?_⟩
        · have := sum_up K c.toNat (K c.toNat ++ [(p, id)]) n
          have := h.sum
          simp only [hc, if_true, List.length_append, List.length_cons, List.length_nil] at *
          omega
        · rcases List.mem_append.1 hx with hx | hx
          · obtain ⟨d, hd, hm⟩ := h.mem x hx
            refine ⟨d, hd, ?_⟩
            by_cases q : d = c.toNat
            · subst q; rw [up_same]; exact List.mem_append.2 (Or.inl hm)
            · rw [up_other _ q]; exact hm
          · exact ⟨c.toNat, hc, by rw [up_same]; exact List.mem_append.2 (Or.inr hx)⟩
      · exact absurd e e2
  · rw [if_neg a] at e; omega
theorem del_len {m : Nat} {X : Its} (h : Ok m X) {n : Int} (hn : n ∈ ids X) : (del X n).length + 1 = X.length := by
  have := len_bkX h.nd n
  unfold bkX at this
  rw [if_pos hn, List.length_append] at this
  simpa using this
theorem si_move {n : Nat} {K : Ks} {T : Its} (h : SI n K T) (al : Al n K) (a b : Int) : SI n (mvK n K a b) T := by
  unfold mvK
  by_cases e : mvE n K a b = 0
  · rw [if_pos e]
    unfold mvE at e
    by_cases c : isC n a ∧ isC n b
    · rw [if_pos c] at e
      by_cases d : a = b
      · rw [if_pos d] at e; omega
      · rw [if_neg d] at e
        by_cases f : K a.toNat = []
        · rw [if_pos f] at e; omega
        · have ha : a.toNat < n := by have := c.1; unfold isC at this; omega
          have hb : b.toNat < n := by have := c.2; unfold isC at this; omega
          have hab : a.toNat ≠ b.toNat := by have := c.1; have := c.2; unfold isC at *; omega
          obtain ⟨lin, _⟩ := lst_in (al.ok _ ha) f
          generalize hz : lst (K a.toNat) = z at *
          generalize hp : prP (K a.toNat) z = p at *
          refine ⟨?_, fun x hx => ?_⟩
          · have s1 := sum_up K b.toNat (K b.toNat ++ [(p, z)]) n
            have s2 := sum_up (up K b.toNat (K b.toNat ++ [(p, z)])) a.toNat (del (K a.toNat) z) n
            have s3 := h.sum
            have s4 := del_len (al.ok _ ha) lin
            rw [up_other _ hab] at s2
            simp only [ha, hb, if_true, List.length_append, List.length_cons, List.length_nil] at *
            omega
          · obtain ⟨k, hk, hm⟩ := h.mem x hx
            by_cases q : k = a.toNat
            · subst q
              by_cases y : x.2 = z
              · refine ⟨b.toNat, hb, ?_⟩
                rw [up_other _ (Ne.symm hab), up_same]
                refine List.mem_append.2 (Or.inr ?_)
                have hx1 : (x.1, z) ∈ K a.toNat := by rw [← y]; exact hm
                have := prP_hit (al.ok _ ha).nd hx1
                rw [hp] at this
                simp [this, ← y]
              · refine ⟨a.toNat, ha, ?_⟩
                rw [up_same]
                exact List.mem_filter.2 ⟨hm, by simpa using y⟩
            · refine ⟨k, hk, ?_⟩
              rw [up_other _ q]
              by_cases q2 : k = b.toNat
              · subst q2; rw [up_same]; exact List.mem_append.2 (Or.inl hm)
              · rw [up_other _ q2]; exact hm
    · rw [if_neg c] at e; omega
  · rw [if_neg e]; exact h
theorem si_prio {n : Nat} {K : Ks} {T : Its} (h : SI n K T) (al : Al n K) {p id : Int} (hm : (p, id) ∈ T) : rpN n K id = p ∧ whB n K id = true ∧ (Lit.int .i64 id).wf = true := by
  obtain ⟨c, hc, hx⟩ := h.mem _ hm
  have hi : id ∈ ids (K c) := (mem_ids _ _).2 ⟨p, hx⟩
  have e := onc_some al hc hi
  refine ⟨?_, ?_, al.wf c hc id hi⟩
  · unfold rpN; rw [e]; exact prP_hit (al.ok c hc).nd hx
  · unfold whB; rw [e]; rfl
theorem sum_le {K : Ks} {c n : Nat} (h : c ≤ n) : sumK K c ≤ sumK K n := by
  induction n with
  | zero => obtain rfl : c = 0 := by omega
            exact Nat.le_refl _
  | succ n ih =>
    by_cases e : c = n + 1
    · subst e; exact Nat.le_refl _
    · exact Nat.le_trans (ih (by omega)) (Nat.le_add_right _ _)

/-- The cells of the acts of which the indices are listed. -/
def r5 (X : Nat → Nat → Int) (i : Nat) : List Value := [.int .i64 (X i 0), .int .i64 (X i 1), .int .i64 (X i 2), .int .i64 (X i 3), .int .i64 (X i 4)]
def f5 (X : Nat → Nat → Int) : List Nat → List Value
  | [] => []
  | i :: r => r5 X i ++ f5 X r
def tt (X : Nat → Nat → Int) (I : List Nat) : Its := I.map fun i => (X i 3, X i 4)
theorem f5_app (X : Nat → Nat → Int) (I J : List Nat) : f5 X (I ++ J) = f5 X I ++ f5 X J := by
  induction I with
  | nil => rfl
  | cons i r ih => simp [f5, ih]
theorem f5_at (X : Nat → Nat → Int) (I : List Nat) (k : Nat) (h : k < I.length) : (f5 X I)[k * 5 + 3]? = some (.int .i64 (X (I.getD k 0) 3)) ∧ (f5 X I)[k * 5 + 4]? = some (.int .i64 (X (I.getD k 0) 4)) := by
  induction I generalizing k with
  | nil => simp at h
  | cons i r ih =>
    cases k with
    | zero => simp [f5, r5]
    | succ k =>
      have := ih k (by simpa using h)
      rw [show (k + 1) * 5 + 3 = 5 + (k * 5 + 3) by omega, show (k + 1) * 5 + 4 = 5 + (k * 5 + 4) by omega]
      unfold f5
      rw [List.getElem?_append_right (by simp [r5]), List.getElem?_append_right (by simp [r5])]
      simpa [r5] using this
theorem tt_mem (X : Nat → Nat → Int) (I : List Nat) (k : Nat) (h : k < I.length) : (X (I.getD k 0) 3, X (I.getD k 0) 4) ∈ tt X I := by
  unfold tt
  refine List.mem_map.2 ⟨I.getD k 0, ?_, rfl⟩
  simp [List.getD, h]

theorem owns5_keep {B : Nat} {S : List Nat} {w w' : World} {base : Nat} {t : TypeId} {v : Value} {n : Nat} {xs : List Value} (h : w.ownsRow base t 5 v n xs) (f : Fr B S w w') (hB : w.heap.size ≤ B) (hS : ∀ k ∈ S, k < base) : w'.ownsRow base t 5 v n xs := by
  refine ⟨h.1, ?_⟩
  rcases h.2 with hn | ⟨g, cap, cur, hv, hb, hg, rest⟩
  · exact Or.inl hn
  · refine Or.inr ⟨g, cap, cur, hv, hb, ?_, rest⟩
    rw [f.block g (by have := lt_of_block hg; omega) (fun e => by have := hS g e; omega)]
    exact hg
theorem own5_shape {w : World} {base : Nat} {t : TypeId} {v : Value} {n : Nat} {xs : List Value} (h : w.ownsRow base t 5 v n xs) : ∃ a cap, v = .slice a n cap := by
  rcases h.2 with ⟨rfl, rfl⟩ | ⟨g, cap, cur, rfl, _⟩
  · exact ⟨none, 0, rfl⟩
  · exact ⟨_, cap, rfl⟩
theorem own5_cell {w : World} {base : Nat} {t : TypeId} {a : Option Addr} {n cap : Nat} {X : Nat → Nat → Int} {I : List Nat} (h : w.ownsRow base t 5 (.slice a n cap) n (f5 X I)) (hI : I.length = n) {k : Nat} (hk : k < n) :
    ∃ b, a = some ⟨b, 0, none⟩ ∧ w.cell? ⟨b, k * 5 + 3, none⟩ = some (.int .i64 (X (I.getD k 0) 3)) ∧ w.cell? ⟨b, k * 5 + 4, none⟩ = some (.int .i64 (X (I.getD k 0) 4)) := by
  rcases h.2 with ⟨_, e⟩ | ⟨g, c2, cur, e, _⟩
  · omega
  · simp only [Value.slice.injEq] at e
    obtain ⟨rfl, _⟩ := e
    have f := f5_at X I k (by omega)
    exact ⟨g, rfl, by rw [h.cellAt _ (by omega)]; exact f.1, by rw [h.cellAt _ (by omega)]; exact f.2⟩
theorem RR.zone {w w' : World} {s n m : Nat} {K : Ks} (h : RR w s n m K) (f : Below (s + (3 + 17 * n)) w w') : RR w' s n m K :=
  ⟨h.rb.keep (Fr.of_below f) (Nat.le_refl _) (fun _ _ _ _ => by simp), h.mp.keep (Fr.of_below f) (by omega) (by simp), h.al⟩
theorem RR.more {w : World} {s n m m' : Nat} {K : Ks} (h : RR w s n m K) (hm : m ≤ m') : RR w s n m' K :=
  ⟨h.rb, by obtain ⟨D, o, k⟩ := h.mp; exact ⟨D, o.mono hm, k⟩, h.al⟩
theorem Try.infoAct : (Try.prog.info? 30).map (fun i => (i.zero, i.size, i.bytes)) = some (some (.agg #[.int .i64 0, .int .i64 0, .int .i64 0, .int .i64 0, .int .i64 0]), 5, 40) := by kernel_rfl
end Go.Proofs.Ytpmjojemcpgpiab
