/- A wheel with the one thing 7 in it, that goes on. -/
import Derived.Test.YtadaghhgmflfdaaRows
import Derived.Test.YtadaghhgmflfdaaWq
import Derived.WalkKit
import Derived.ProofKit
namespace Go.Proofs.Ytadaghhgmflfdaa
open Go.ChangeShapes Go.WideShapes Go.ChangeAt Go.RowKit
open Wm

/-- A wheel at block s of the tick now, with the thing 7 that is due at d. -/
def DI (w wr : World) (s : Nat) (now d : Int) : Prop := ∃ F, WW wr s now [(d, 7)] F ∧ (∀ g ∈ F, w.heap.size ≤ g) ∧ Below w.heap.size w wr
theorem DI.bel {w wr : World} {s : Nat} {now d : Int} (h : DI w wr s now d) : Below w.heap.size w wr := by
  obtain ⟨F, _, _, b⟩ := h
  exact b
theorem DI.below {w wr w' : World} {s : Nat} {now d : Int} (h : DI w wr s now d) (f : Below wr.heap.size wr w') : DI w w' s now d := by
  obtain ⟨F, h1, h2, b⟩ := h
  exact ⟨F, h1.below f, h2, b.trans (f.mono b.size)⟩
theorem di_go {w wr : World} {s : Nat} {now d : Int} (n : Int) (h : DI w wr s now d) (h1 : now ≤ n) (h2 : n ≤ 1152921504606846976) : Calls Try.prog 13 #[.pointer (some ⟨s, 0, none⟩), .int .i64 n] wr fun e w' => e = .returned (.int .i64 0) ∧ DI w w' s n d := by
  obtain ⟨F, h3, h4, b⟩ := h
  refine (go_any n h3 (by simp)).mono ?_
  rintro e w' ⟨rfl, F', h5, m⟩
  have c : ¬ (n < now ∨ 1152921504606846976 < n) := by omega
  obtain ⟨q1, q2, _⟩ := mv_below b m b.size h4
  unfold goE goN at *
  rw [if_neg c] at h5 ⊢
  exact ⟨rfl, F', h5, q2, q1⟩
/-- What is due of it. -/
theorem di_due {w wr : World} {s : Nat} {now d : Int} (h : DI w wr s now d) : Calls Try.prog 23 #[.pointer (some ⟨s, 0, none⟩)] wr fun e w' => ∃ v, e = .returned v ∧ Gt wr w' v (if d ≤ now then [7] else []) ∧ DI w w' s now d := by
  have h0 := h
  obtain ⟨F, h3, h4, b⟩ := h
  refine (due_any h3 (by simp)).mono ?_
  rintro e w' ⟨v, rfl, g⟩
  refine ⟨v, rfl, ?_, h0.below g.bel⟩
  have e1 : ids (duL now [(d, 7)]) = if d ≤ now then [7] else [] := by
    unfold ids duL
    by_cases c : d ≤ now
    · rw [if_pos c, List.filter_cons_of_pos (by simpa using c)]; rfl
    · rw [if_neg c, List.filter_cons_of_neg (by simpa using c)]; rfl
  rw [← e1]
  exact g
theorem di_new {w u1 : World} {now d : Int} (q : WW u1 w.heap.size now [] [w.heap.size]) (b : Below w.heap.size w u1) (hd : isT d) : Calls Try.prog 9 #[.pointer (some ⟨w.heap.size, 0, none⟩), .int .i64 7, .int .i64 d] u1 fun e w' => e = .returned (.int .i64 0) ∧ DI w w' w.heap.size now d := by
  refine (add_any 7 d (by decide) q (by decide)).mono ?_
  rintro e w' ⟨rfl, F', h5, m⟩
  obtain ⟨q1, q2, _⟩ := mv_below b m b.size (by simp)
  unfold adE adL at *
  rw [if_pos hd, if_neg (by simp [wn])] at h5 ⊢
  exact ⟨rfl, F', h5, q2, q1⟩
end Go.Proofs.Ytadaghhgmflfdaa
