/- What the loops of SlotPlays and SlotOnce keep: lemmas outside the walks. -/
import Derived.Test.YtdkacamnelodaaaDoorRows
import Derived.Test.YtdkacamnelodaaaDoorSk
import Derived.Test.YtdkacamnelodaaaDoorSd
import Derived.Test.YtdkacamnelodaaaDoorFo
import Derived.WalkKit
import Derived.ProofKit
import Derived.OpenShut
namespace Go.Proofs.YtdkacamnelodaaaDoor
open Go.ChangeShapes Go.WideShapes Go.ChangeAt Go.RowKit
open Mm Sl

/-- Both tables hold the set. -/
structure PS (w wr : World) (s br base m : Nat) (O : Nat → Bool) : Prop where
  t : ∃ W, T wr (s + 1) s m W O
  r : ∃ g cap, RT wr br g base m cap O
  bel : Below s w wr

theorem PS.sm {w w1 w2 : World} {s br base m : Nat} {O : Nat → Bool} (h : PS w w1 s br base m O) (e : Sm w2 w1) : PS w w2 s br base m O := by
  obtain ⟨W, t⟩ := h.t
  obtain ⟨g, c, k⟩ := h.r
  exact ⟨⟨W, t.heap e.1⟩, ⟨g, c, k.heap e.1⟩, e.below h.bel⟩

/-- Behind new blocks alone. -/
theorem PS.new {w w1 w2 : World} {s br base m : Nat} {O : Nat → Bool} (h : PS w w1 s br base m O) (b : Below w1.heap.size w1 w2) (hs : s ≤ w1.heap.size) : PS w w2 s br base m O := by
  obtain ⟨W, t⟩ := h.t
  obtain ⟨g, c, k⟩ := h.r
  exact ⟨⟨W, t.keep (Fr.of_below b) ⟨t.sb.lt, t.sg.lt⟩ ⟨by simp, by simp⟩⟩, ⟨g, c, k.keep (Fr.of_below b) (Nat.le_refl _) (by simp) (by simp)⟩, h.bel.trans (b.mono hs)⟩

/-- An act on both. -/
theorem PS.act {w w1 w2 w3 : World} {s br base m : Nat} {O O2 : Nat → Bool} (h : PS w w1 s br base m O) (hb : s + 1 < br ∧ br < base ∧ s ≤ w1.heap.size)
    {W2 : List Nat} {g c : Nat} (t2 : T w2 (s + 1) s m W2 O2) (f12 : Fr w1.heap.size [s + 1, s] w1 w2)
    (r3 : RT w3 br g base m c O2) (f23 : Fr base [] w2 w3) : PS w w3 s br base m O2 := by
  refine ⟨⟨W2, t2.keep f23 ⟨by omega, by omega⟩ ⟨by simp, by simp⟩⟩, ⟨g, c, r3⟩, ?_⟩
  exact (h.bel.trans ((f12.less hb.2.2).below (by simp))).trans ((f23.less (by omega)).below (by simp))

/-- The document's table behind a call of the other one. -/
theorem PS.other {w1 w2 : World} {s br g base m c : Nat} {O : Nat → Bool} (k : RT w1 br g base m c O) (hb : s + 1 < br) (f12 : Fr w1.heap.size [s + 1, s] w1 w2) : RT w2 br g base m c O :=
  k.keep f12 (Nat.le_refl _) (by have := k.lt; simp; omega) (by simp; omega)

theorem act_give {w wr : World} {s br base m : Nat} {O : Nat → Bool} (p : PS w wr s br base m O) (y : Int) (w1 : World) (h : Sm w1 wr) :
    Calls Tryd.prog 10 #[.pointer (some ⟨s + 1, 0, none⟩), .int .i64 y] w1 fun e w' => e = .returned (.int .i64 (gE m O y)) ∧ (∃ W, T w' (s + 1) s m W (gO m O y)) ∧ Fr wr.heap.size [s + 1, s] wr w' := by
  obtain ⟨W, t⟩ := p.t
  refine (give_any y w1 (t.heap h.1)).mono ?_
  rintro e w2 ⟨rfl, ⟨W2, t2⟩, f2⟩
  rw [h.1] at f2
  exact ⟨rfl, ⟨_, t2⟩, h.fr f2⟩

theorem act_rgive {w wr : World} {s br base m : Nat} {O : Nat → Bool} (p : PS w wr s br base m O) (hb : s + 1 < br) (y : Int) (v1 w1 : World) (f : Fr wr.heap.size [s + 1, s] wr v1) (h : Sm w1 v1) :
    Calls Tryd.prog 11 #[.pointer (some ⟨br, 0, none⟩), .int .i64 y] w1 fun e w' => e = .returned (.int .i64 (gE m O y)) ∧ (∃ g c, RT w' br g base m c (gO m O y)) ∧ Fr base [] v1 w' := by
  obtain ⟨g, c, k⟩ := p.r
  refine (rgive_any y w1 ((PS.other k hb f).heap h.1)).mono ?_
  rintro e w2 ⟨rfl, k2, f2⟩
  exact ⟨rfl, ⟨_, _, k2⟩, h.fr f2⟩

theorem ff_cases (m : Nat) (O : Nat → Bool) : (ff m O = none ∧ (li m O).length = m) ∨ ∃ i, ff m O = some i ∧ (li m O).length < m ∧ ∀ x ∈ li m O, x ≠ (i : Int) + 1 := by
  have hl : (li m O).length = ((List.range m).filter fun i => O (i + 1)).length := by unfold li; rw [List.length_map]
  cases h : ff m O with
  | none =>
    refine Or.inl ⟨rfl, ?_⟩
    unfold ff at h
    rw [List.find?_eq_none] at h
    rw [hl, List.filter_eq_self.2]
    · simp
    · intro a ha
      have := h a ha
      simpa using this
  | some i =>
    refine Or.inr ⟨i, rfl, ?_, ?_⟩
    · unfold ff at h
      have h1 := List.find?_some h
      have h2 := List.mem_of_find?_eq_some h
      rw [hl]
      have : ((List.range m).filter fun i => O (i + 1)).length < (List.range m).length := by
        rw [List.length_filter_lt_length_iff_exists]
        exact ⟨i, h2, by simpa using h1⟩
      simpa using this
    · intro x hx e
      unfold ff at h
      have h1 := List.find?_some h
      unfold li at hx
      obtain ⟨j, hj, rfl⟩ := List.mem_map.1 hx
      obtain rfl : j = i := by omega
      have := (List.mem_filter.1 hj).2
      simp [this] at h1
end Go.Proofs.YtdkacamnelodaaaDoor
