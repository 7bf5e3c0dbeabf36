/- What the loops of FifoOrder and FifoRound keep: lemmas outside the walks. -/
import Derived.Test.YtdkacamnelodaaaFk
namespace Go.Proofs.Ytdkacamnelodaaa
open Go.ChangeShapes Go.WideShapes Go.ChangeAt Go.RowKit
open Fm

theorem row_cell {w wr : World} {a : Option Addr} {len cap : Nat} {xs : List Int} (h : Row w (.slice a len cap) xs) (hl : xs.length = len) (hb : Below w.heap.size w wr) {k : Nat} (hk : (k : Int) < len) :
    ∃ b off, a = some ⟨b, off, none⟩ ∧ wr.cell? ⟨b, off + k, none⟩ = some (.int .i64 (xs.getD k 0)) := by
  rcases h with ⟨rfl, _⟩ | ⟨b, off, c, hv, hlt, hc⟩
  · simp at hl
    omega
  · simp only [Value.slice.injEq] at hv
    exact ⟨b, off, hv.1, (hb.cell (p := ⟨b, off + k, none⟩) hlt).trans (hc k (by omega))⟩

theorem own_cell {w : World} {base : Nat} {a : Option Addr} {n cap : Nat} {xs : List Int} (h : w.ownsRow base 3 1 (.slice a n cap) n (xs.map (Value.int .i64))) {k : Nat} (hk : (k : Int) < n) :
    ∃ b, a = some ⟨b, 0, none⟩ ∧ w.cell? ⟨b, k, none⟩ = some (.int .i64 (xs.getD k 0)) := by
  have hl : xs.length = n := by have := h.1; simpa using this
  subst hl
  rcases row_of_owns h with ⟨rfl, _⟩ | ⟨b, off, c, hv, hlt, hc⟩
  · simp at hk
    omega
  · rcases h.2 with ⟨_, e⟩ | ⟨g, c2, cur, e, _⟩
    · omega
    · simp only [Value.slice.injEq] at hv e
      have e2 := hv.1.symm.trans e.1
      simp only [Option.some.injEq, Addr.mk.injEq] at e2
      obtain ⟨rfl, rfl, _⟩ := e2
      have := hc k (by omega)
      rw [Nat.zero_add] at this
      exact ⟨b, hv.1, this⟩

/-- A list that has been turned so often. -/
def rot (k : Nat) (L : List Int) : List Int := L.drop k ++ L.take k

theorem rot_zero (L : List Int) : rot 0 L = L := by simp [rot]
theorem rot_all (L : List Int) : rot L.length L = L := by simp [rot]
theorem rot_step (k : Nat) (L : List Int) (h : k < L.length) : tL (rot k L) = rot (k + 1) L := by
  unfold tL rot
  rw [List.drop_eq_getElem_cons h]
  simp only [List.cons_append, List.tail_cons, List.take_succ_cons, List.take_zero, List.append_assoc]
  rw [List.take_succ_eq_append_getElem h]
theorem rot_ok (k : Nat) (L : List Int) (h : k < L.length) : fE (rot k L) = 0 := by
  unfold fE rot
  rw [if_neg]
  intro e
  have := congrArg List.length e
  rw [List.length_append, List.length_drop, List.length_nil] at this
  omega

theorem drop_head (k : Nat) (L : List Int) (h : k < L.length) : (L.drop k).headD 0 = L.getD k 0 := by
  rw [List.drop_eq_getElem_cons h]
  simp [List.getD, h]
theorem drop_ok (k : Nat) (L : List Int) (h : k < L.length) : fE (L.drop k) = 0 := by
  unfold fE
  rw [if_neg]
  intro e
  have := congrArg List.length e
  rw [List.length_drop, List.length_nil] at this
  omega

theorem pL_in (m : Nat) (L : List Int) (n : Int) (h : n ∈ L) : pL m L n = L ∧ pE m L n = 6 := ⟨if_pos h, if_pos h⟩
theorem pL_new (m : Nat) (L : List Int) (n : Int) (h : n ∉ L) (hm : L.length < m) : pL m L n = L ++ [n] ∧ pE m L n = 0 := by
  unfold pL pE
  rw [if_neg h, if_neg h, if_neg (by omega), if_neg (by omega)]
  exact ⟨rfl, rfl⟩
theorem pL_grows (m : Nat) (L : List Int) (n : Int) : (pL m L n).length ≤ L.length + 1 := by
  unfold pL
  split
  · omega
  · split
    · omega
    · simp
end Go.Proofs.Ytdkacamnelodaaa
