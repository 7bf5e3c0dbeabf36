/- Readers of cores, and one who changes: what a gate answers and what it is then: plain facts; no program in it. -/
import Derived.Test.YtbmdfoohabipjaaPm
namespace Go.Proofs.Ytbmdfoohabipjaa.Em
open Pm

/-- How many readers each of 1 to 64 cores has: 1000 at most. -/
structure Rd (L : List Int) : Prop where
  n1 : 1 ≤ L.length
  n2 : L.length ≤ 64
  nn : ∀ x ∈ L, 0 ≤ x
  le : L.sum ≤ 1000

theorem sum_nn : ∀ {L : List Int}, (∀ x ∈ L, 0 ≤ x) → 0 ≤ L.sum
  | [], _ => by simp
  | a :: t, h => by
    have i := sum_nn (L := t) fun x hx => h x (by simp [hx])
    have j := h a (by simp)
    rw [List.sum_cons]
    omega
theorem mem_le : ∀ {L : List Int}, (∀ x ∈ L, 0 ≤ x) → ∀ x ∈ L, x ≤ L.sum
  | [], _, x, h => by simp at h
  | a :: t, h, x, hx => by
    have i := sum_nn (L := t) fun x hx => h x (by simp [hx])
    have j := h a (by simp)
    rw [List.sum_cons]
    rcases List.mem_cons.1 hx with e | e
    · omega
    · have := mem_le (L := t) (fun x hx => h x (by simp [hx])) x e
      omega
theorem Rd.pt {L : List Int} (h : Rd L) : Pt L := ⟨h.n1, h.n2, fun x hx => by have := h.nn x hx; have := mem_le h.nn x hx; have := h.le; unfold I64; omega⟩
theorem Rd.sum {L : List Int} (h : Rd L) : 0 ≤ L.sum ∧ L.sum ≤ 1000 := ⟨sum_nn h.nn, h.le⟩
theorem getD_mem (L : List Int) (i : Nat) (h : i < L.length) : L.getD i 0 ∈ L := by
  rw [List.getD_eq_getElem?_getD, List.getElem?_eq_getElem h]
  exact List.getElem_mem h
theorem Rd.at {L : List Int} (h : Rd L) (i : Nat) (hi : i < L.length) : 0 ≤ L.getD i 0 ∧ L.getD i 0 ≤ L.sum ∧ L.getD i 0 ≤ 1000 := by
  have a := getD_mem L i hi
  have b := mem_le h.nn _ a
  exact ⟨h.nn _ a, b, by have := h.le; omega⟩
theorem Rd.fit {L : List Int} (h : Rd L) : fe L.sum = 0 ∧ fv L.sum = L.sum := fe_ok (by have := h.sum; unfold I64; omega)
theorem sum_rep : ∀ m : Nat, (List.replicate m (0 : Int)).sum = 0
  | 0 => by simp
  | m + 1 => by rw [List.replicate_succ, List.sum_cons, sum_rep m]; omega
theorem rd_new (m : Nat) (h1 : 1 ≤ m) (h2 : m ≤ 64) : Rd (List.replicate m 0) :=
  ⟨by simpa using h1, by simpa using h2, fun x hx => by rw [List.eq_of_mem_replicate hx]; omega, by rw [sum_rep]; omega⟩
theorem rd_set {L : List Int} (h : Rd L) (i : Nat) (hi : i < L.length) (x : Int) (h0 : 0 ≤ x) (hs : L.sum + x - L.getD i 0 ≤ 1000) : Rd (L.set i x) := by
  refine ⟨by simpa using h.n1, by simpa using h.n2, fun y hy => ?_, by rw [sum_set L i x hi]; exact hs⟩
  rcases List.mem_or_eq_of_mem_set hy with g | g
  · exact h.nn y g
  · exact g ▸ h0

def enE (st : Int) (L : List Int) (c : Int) : Int := if ic L c = true then if st = 0 then if 1000 ≤ L.sum then 5 else 0 else 7 else 3
def enL (st : Int) (L : List Int) (c : Int) : List Int := if enE st L c = 0 then L.set c.toNat (at' L c + 1) else L
def leE (L : List Int) (c : Int) : Int := if ic L c = true then if at' L c = 0 then 12 else 0 else 3
def leL (L : List Int) (c : Int) : List Int := if leE L c = 0 then L.set c.toNat (at' L c - 1) else L
def waE (st : Int) : Int := if st = 0 then 0 else 7
def waS (st : Int) : Int := if st = 0 then 1 else st
def tkE (st : Int) (L : List Int) : Int := if st = 1 then if 0 < L.sum then 7 else 0 else 6
def tkS (st : Int) (L : List Int) : Int := if tkE st L = 0 then 2 else st
def frE (st : Int) : Int := if st = 0 then 6 else 0

theorem rd_en {st : Int} {L : List Int} (h : Rd L) (c : Int) : Rd (enL st L c) := by
  unfold enL enE
  cases i : ic L c
  · simpa using h
  · by_cases s : st = 0
    · by_cases q : 1000 ≤ L.sum
      · simpa [s, q] using h
      · obtain ⟨_, _, a⟩ := ic_lt i
        have := h.at c.toNat a
        simp only [if_true, s, if_neg q]
        exact rd_set h _ a _ (by unfold at'; omega) (by unfold at'; omega)
    · simpa [s] using h
theorem rd_le {L : List Int} (h : Rd L) (c : Int) : Rd (leL L c) := by
  unfold leL leE
  cases i : ic L c
  · simpa using h
  · by_cases s : at' L c = 0
    · simpa [s] using h
    · obtain ⟨_, _, a⟩ := ic_lt i
      have := h.at c.toNat a
      have e : at' L c = L.getD c.toNat 0 := rfl
      have hl := h.le
      simp only [if_true, if_neg s]
      exact rd_set h _ a _ (by omega) (by omega)
theorem en_len (st : Int) (L : List Int) (c : Int) : (enL st L c).length = L.length := by unfold enL; split <;> simp
theorem le_len (L : List Int) (c : Int) : (leL L c).length = L.length := by unfold leL; split <;> simp

/-- Open, wanted, or taken; no reader is there when it is taken. -/
def Rs (st : Int) (L : List Int) : Prop := st = 0 ∨ st = 1 ∨ (st = 2 ∧ L.sum = 0)
theorem rs_en {st : Int} {L : List Int} (h : Rs st L) (c : Int) : Rs st (enL st L c) := by
  rcases h with h | h | ⟨h, g⟩
  · exact Or.inl h
  · exact Or.inr (Or.inl h)
  · have : enL st L c = L := by
      unfold enL enE
      cases ic L c <;> simp [h]
    rw [this]
    exact Or.inr (Or.inr ⟨h, g⟩)
theorem rs_le {st : Int} {L : List Int} (hd : Rd L) (h : Rs st L) (c : Int) : Rs st (leL L c) := by
  rcases h with h | h | ⟨h, g⟩
  · exact Or.inl h
  · exact Or.inr (Or.inl h)
  · have : leL L c = L := by
      unfold leL leE
      cases i : ic L c
      · simp
      · obtain ⟨_, _, a⟩ := ic_lt i
        have := hd.at c.toNat a
        have e : at' L c = 0 := by show L.getD c.toNat 0 = 0; omega
        simp [e]
    rw [this]
    exact Or.inr (Or.inr ⟨h, g⟩)
theorem rs_wa {st : Int} {L : List Int} (h : Rs st L) : Rs (waS st) L := by
  unfold waS
  split
  · exact Or.inr (Or.inl rfl)
  · exact h
theorem rs_tk {st : Int} {L : List Int} (hd : Rd L) (h : Rs st L) : Rs (tkS st L) L := by
  have := hd.sum
  by_cases s : st = 1
  · by_cases q : 0 < L.sum
    · have : tkS st L = st := by simp [tkS, tkE, s, q]
      rw [this]
      exact h
    · have : tkS st L = 2 := by simp [tkS, tkE, s, q]
      rw [this]
      exact Or.inr (Or.inr ⟨rfl, by omega⟩)
  · have : tkS st L = st := by simp [tkS, tkE, s]
    rw [this]
    exact h
theorem rs_fr (L : List Int) : Rs 0 L := Or.inl rfl
end Go.Proofs.Ytbmdfoohabipjaa.Em
