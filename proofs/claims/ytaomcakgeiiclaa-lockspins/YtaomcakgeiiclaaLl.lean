/- A lock's line of cores, as a list: plain facts; no program in it. -/
import Derived.Test.YtaomcakgeiiclaaFm
namespace Go.Proofs.Ytaomcakgeiiclaa.Ll
open Fm

/-- Is it a core's number? -/
def ic (c : Int) : Bool := decide (0 ≤ c ∧ c < 64)
def tkE (L : List Int) (c : Int) : Int := if ic c = true then if c ∈ L then 6 else 0 else 3
def tkL (L : List Int) (c : Int) : List Int := if ic c = true then if c ∈ L then L else L ++ [c] else L
def owns (L : List Int) (c : Int) : Bool := decide (L ≠ [] ∧ L.headD 0 = c)
def lvE (L : List Int) (c : Int) : Int := if ic c = true then if owns L c = true then 0 else 17 else 3
def lvL (L : List Int) (c : Int) : List Int := if ic c = true then if owns L c = true then L.tail else L else L

/-- Each core stands in it once at most. -/
structure Ln (L : List Int) : Prop where
  nodup : L.Nodup
  range : ∀ x ∈ L, 0 ≤ x ∧ x < 64

theorem len_lt : ∀ (n : Nat) (L : List Int), L.Nodup → (∀ x ∈ L, 0 ≤ x ∧ x < (n : Int)) → L.length ≤ n
  | 0, L, _, h => by
    cases L with
    | nil => simp
    | cons a t => have := h a (by simp); omega
  | n + 1, L, hn, h => by
    by_cases c : (n : Int) ∈ L
    · have e := List.length_erase_of_mem c
      have := len_lt n (L.erase (n : Int)) (hn.erase _) fun x hx => by
        have hm := (hn.mem_erase_iff).1 hx
        have := h x hm.2
        have hne := hm.1
        omega
      omega
    · have := len_lt n L hn fun x hx => by
        have := h x hx
        have : x ≠ (n : Int) := fun e => c (e ▸ hx)
        omega
      omega

theorem Ln.len {L : List Int} (h : Ln L) : L.length ≤ 64 := len_lt 64 L h.nodup h.range

theorem ln_nil : Ln [] := ⟨List.nodup_nil, fun x hx => by simp at hx⟩

theorem ln_add {L : List Int} (h : Ln L) (c : Int) (hc : 0 ≤ c ∧ c < 64) (hm : c ∉ L) : Ln (L ++ [c]) := by
  refine ⟨?_, fun x hx => ?_⟩
  · rw [List.nodup_append]
    refine ⟨h.nodup, by simp, fun a ha b hb => ?_⟩
    simp at hb
    subst hb
    exact fun e => hm (e ▸ ha)
  · rcases List.mem_append.1 hx with g | g
    · exact h.range x g
    · simp at g
      subst g
      exact hc

theorem ln_tail {L : List Int} (h : Ln L) : Ln L.tail := by
  cases L with
  | nil => exact h
  | cons a t => exact ⟨(List.nodup_cons.1 h.nodup).2, fun x hx => h.range x (List.mem_cons_of_mem _ hx)⟩

theorem Ln.lt {L : List Int} (h : Ln L) (c : Int) (hc : 0 ≤ c ∧ c < 64) (hm : c ∉ L) : L.length < 64 := by
  have := (ln_add h c hc hm).len
  simp at this
  omega

theorem ln_tk {L : List Int} (h : Ln L) (c : Int) : Ln (tkL L c) := by
  unfold tkL
  by_cases i : ic c = true
  · rw [if_pos i]
    by_cases m : c ∈ L
    · rw [if_pos m]; exact h
    · rw [if_neg m]; exact ln_add h c (of_decide_eq_true i) m
  · rw [if_neg i]; exact h

theorem ln_lv {L : List Int} (h : Ln L) (c : Int) : Ln (lvL L c) := by
  unfold lvL
  by_cases i : ic c = true
  · rw [if_pos i]
    by_cases m : owns L c = true
    · rw [if_pos m]; exact ln_tail h
    · rw [if_neg m]; exact h
  · rw [if_neg i]; exact h

theorem ic_true {c : Int} (h : ic c = true) : 0 ≤ c ∧ c < 64 := of_decide_eq_true h
theorem ic_false {c : Int} (h : ic c = false) : c < 0 ∨ 64 ≤ c := by
  have := of_decide_eq_false h
  omega
end Go.Proofs.Ytaomcakgeiiclaa.Ll
