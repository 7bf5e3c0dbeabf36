/- What TimerOnce's loops keep: which timers are left of those that were armed. No program in it. -/
import Derived.Test.YtadaghhgmflfdaaDoorZg
namespace Go.Proofs.YtadaghhgmflfdaaDoor
open Wm Zm Sl

/-- Each that is left was armed: the j-th that was armed has the number j + 1. -/
def Ar (A : List Int) (K : Ks) : Prop := ∀ c, c < 3 → ∀ x ∈ K c, 1 ≤ x.2 ∧ A[x.2.toNat - 1]? = some x.1
def tot (K : Ks) : Nat := (K 0).length + (K 1).length + (K 2).length

theorem tot_up (K : Ks) {c : Nat} (hc : c < 3) (X : List It) : tot (up K c X) + (K c).length = tot K + X.length := by
  unfold tot up
  rcases (show c = 0 ∨ c = 1 ∨ c = 2 by omega) with rfl | rfl | rfl
  · simp; omega
  · simp; omega
  · simp; omega

theorem ar_ff {A : List Int} {K : Ks} (h : Ar A K) (full : ∀ i, 1 ≤ i → i ≤ A.length → oc 3 K i = true) (hA : A.length < 48) : ff 48 (oc 3 K) = some A.length := by
  refine ff_some 48 (oc 3 K) A.length hA ?_ fun j hj => full (j + 1) (by omega) (by omega)
  unfold oc
  have : onc 3 K ((A.length + 1 : Nat) : Int) = none := onc_none.2 fun c hc => by
    cases e : has (K c) ((A.length + 1 : Nat) : Int) with
    | false => rfl
    | true =>
      obtain ⟨d, hd⟩ := has_mem e
      have := (h c hc _ hd).2
      rw [List.getElem?_eq_none (by simp)] at this
      cases this
  rw [this]
  rfl

theorem ar_arm {A : List Int} {K : Ks} (a : Al 3 K) (h : Ar A K) (full : ∀ i, 1 ≤ i → i ≤ A.length → oc 3 K i = true) (hA : A.length < 48) {c : Nat} (hc : c < 3) (d : Int) :
    Ar (A ++ [d]) (up K c (ins (d, ((A.length + 1 : Nat) : Int)) (K c))) ∧ (∀ i, 1 ≤ i → i ≤ (A ++ [d]).length → oc 3 (up K c (ins (d, ((A.length + 1 : Nat) : Int)) (K c))) i = true) ∧ tot (up K c (ins (d, ((A.length + 1 : Nat) : Int)) (K c))) = tot K + 1 := by
  have hf := (ff_spec (ar_ff h full hA)).2
  have hn : onc 3 K ((A.length + 1 : Nat) : Int) = none := by
    unfold oc at hf
    cases e : onc 3 K ((A.length + 1 : Nat) : Int) with
    | none => rfl
    | some z => rw [e] at hf; cases hf
  have nx : ((d, ((A.length + 1 : Nat) : Int)) : It) ∉ K c := fun hm => has_no (onc_none.1 hn c hc) _ hm rfl
  obtain ⟨_, e2⟩ := al_ins a hc d hn (by omega) (by omega)
  have old : ∀ e, e < 3 → ∀ x ∈ K e, 1 ≤ x.2 ∧ (A ++ [d])[x.2.toNat - 1]? = some x.1 := fun e he x hx => by
    obtain ⟨h1, h2⟩ := h e he x hx
    have hl : x.2.toNat - 1 < A.length := by
      rcases Nat.lt_or_ge (x.2.toNat - 1) A.length with q | q
      · exact q
      · rw [List.getElem?_eq_none q] at h2; cases h2
    exact ⟨h1, by rw [List.getElem?_append_left hl]; exact h2⟩
  refine ⟨fun e he x hx => ?_, fun i h1 h2 => ?_, ?_⟩
  · by_cases q : e = c
    · subst q
      rw [up_same] at hx
      rcases (mem_ins nx).1 hx with rfl | hm
      · refine ⟨by simp only; omega, ?_⟩
        have : ((A.length + 1 : Nat) : Int).toNat - 1 = A.length := by omega
        simp only [this]
        simp
      · exact old e he x hm
    · rw [up_other _ q] at hx
      exact old e he x hx
  · unfold oc
    rw [e2]
    by_cases q : (i : Int) = ((A.length + 1 : Nat) : Int)
    · rw [if_pos q]; rfl
    · rw [if_neg q]
      rw [List.length_append, List.length_singleton] at h2
      exact full i h1 (by omega)
  · have t := tot_up K hc (ins (d, ((A.length + 1 : Nat) : Int)) (K c))
    rw [ins_len (a.srt c hc) nx] at t
    omega

/-- One fires. -/
theorem ar_fire {A : List Int} {K : Ks} (a : Al 3 K) (h : Ar A K) {c : Nat} (hc : c < 3) {x : It} (hx : x ∈ K c) :
    Ar A (up K c (rid x.2 (K c))) ∧ tot (up K c (rid x.2 (K c))) + 1 = tot K := by
  refine ⟨fun e he y hy => ?_, ?_⟩
  · by_cases q : e = c
    · subst q
      rw [up_same] at hy
      exact h e he y (mem_rid.1 hy).1
    · rw [up_other _ q] at hy
      exact h e he y hy
  · have t := tot_up K hc (rid x.2 (K c))
    have := rid_len (a.srt c hc) (a.uni c hc) hx
    omega

/-- One moves. -/
theorem ar_mvK {A : List Int} {K : Ks} (a : Al 3 K) (h : Ar A K) {k j : Nat} (hk : k < 3) (hj : j < 3) (hn : k ≠ j) {x : It} (hx : x ∈ K k) :
    Ar A (mvK K k j x) ∧ tot (mvK K k j x) = tot K := by
  have hno : x ∉ K j := fun hm => hn (a.one k j hk hj x.2 (has_of hx) (has_of hm))
  refine ⟨fun e he y hy => ?_, ?_⟩
  · unfold mvK at hy
    by_cases q : e = k
    · subst q
      rw [up_same] at hy
      exact h e he y (mem_rid.1 hy).1
    · rw [up_other _ q] at hy
      by_cases q2 : e = j
      · subst q2
        rw [up_same] at hy
        rcases (mem_ins hno).1 hy with rfl | hm
        · exact h k hk y hx
        · exact h e he y hm
      · rw [up_other _ q2] at hy
        exact h e he y hy
  · have t1 := tot_up K hj (ins x (K j))
    have t2 := tot_up (up K j (ins x (K j))) hk (rid x.2 (K k))
    rw [up_other _ hn] at t2
    rw [ins_len (a.srt j hj) hno] at t1
    have := rid_len (a.srt k hk) (a.uni k hk) hx
    unfold mvK
    omega
theorem ar_move {A : List Int} {K : Ks} (a : Al 3 K) (h : Ar A K) (c d : Int) : Ar A (moK 3 K c d) ∧ tot (moK 3 K c d) = tot K := by
  unfold moK
  by_cases hc : isC 3 c ∧ isC 3 d
  · rw [if_pos hc]
    obtain ⟨k, rfl, hk⟩ := core_of hc.1
    obtain ⟨j, rfl, hj⟩ := core_of hc.2
    by_cases e : (k : Int) = j
    · rw [if_pos e]; exact ⟨h, rfl⟩
    · rw [if_neg e, Int.toNat_natCast, Int.toNat_natCast]
      cases hd : K k with
      | nil => exact ⟨h, rfl⟩
      | cons x R => exact ar_mvK a h hk hj (by omega) (by rw [hd]; simp)
  · rw [if_neg hc]; exact ⟨h, rfl⟩

/-- Nothing is left behind the last tick. -/
theorem ar_end {A : List Int} {K : Ks} (h : Ar A K) (hA : ∀ d ∈ A, d ≤ 100) (hK : ∀ c, c < 3 → ∀ x ∈ K c, 101 ≤ x.1) : tot K = 0 := by
  have key : ∀ c, c < 3 → (K c).length = 0 := fun c hc => by
    cases e : K c with
    | nil => rfl
    | cons x R =>
      have hx : x ∈ K c := by rw [e]; simp
      have h1 := (h c hc x hx).2
      have h2 := hK c hc x hx
      have := hA x.1 (List.mem_of_getElem? h1)
      omega
  unfold tot
  rw [key 0 (by omega), key 1 (by omega), key 2 (by omega)]
end Go.Proofs.YtadaghhgmflfdaaDoor
