/- A model's next states that a statement asks for; what must come of fixed calls (law 29). -/
import Derived.Test.YtaebebgoijgolaaGreatRows
import Derived.Test.YtaebebgoijgolaaGreatMdl
import Derived.WalkKit
import Derived.ProofKit
import Derived.OpenShut
import Derived.BigQuiet
import Derived.Laws.EntriesVeiled
import Derived.WalkSmall
namespace Go.Proofs.YtaebebgoijgolaaGreat
open Go.ChangeShapes Go.WideShapes Go.ChangeAt Go.RowKit
set_option linter.unusedVariables false
set_option linter.unusedSimpArgs false
set_option maxRecDepth 100000

theorem fo_or {w V V' : World} {m : Nat} {c on : Int} {k0 k r : Value} {xs ys : List Int} (h : FO w V m c on k0 k r xs ys) {S : List Nat} (f : Fr V.heap.size S V V') (hS : ∀ g, r.ownBlock = some g → g ∉ S) : OL (w.heap.size + 4) V' r ys := by
  refine Or.inr ⟨h.or.1, ?_⟩
  rcases h.or.2 with hn | ⟨g, cap, cur, hv, hb, hg, rest⟩
  · exact Or.inl hn
  · exact Or.inr ⟨g, cap, cur, hv, hb, (f.block g (lt_of_block hg) (hS g (by rw [hv]; rfl))).trans hg, rest⟩
theorem fo_rm {w V : World} {m : Nat} {c on : Int} {k0 k r : Value} {xs ys : List Int} (h : FO w V m c on k0 k r xs ys) : ∀ g, r.ownBlock = some g → g ≠ m := fun g e q => by
  subst q
  exact owng_ne h.or h.blk (by decide) e rfl
theorem fo_fr {w V V' : World} {m : Nat} {c on : Int} {k0 k r : Value} {xs ys : List Int} (h : FO w V m c on k0 k r xs ys) {S : List Nat} (f : Fr V.heap.size S V V') (hS : ∀ g ∈ S, w.heap.size + 4 ≤ g) : Fr (w.heap.size + 4) [] V V' :=
  f.mono (by have := h.blk.lt; have := h.hm; omega) (fun k hk _ hs => by have := hS k hs; omega)

theorem next_empty (w : World) (c : Int) (n : Nat) (r : Value) (e0 e1 e2 e3 e4 : Int) (hn : n ≤ 100) (hr : SL w r (List.replicate n 0)) :
    Calls Tryz.prog 5 #[.agg (sc c 1 (.slice none 0 0) r).toArray, .agg (ev e0 e1 e2 e3 e4).toArray, .slice none 0 0] w fun e w' => Below w.heap.size w w' ∧
      (((c < 1 ∨ 64 < c ∨ (n : Int) ≠ c) ∧ e = .returned (.tuple #[.agg z13.toArray, .int .i64 2])) ∨ (¬ (c < 1 ∨ 64 < c ∨ (n : Int) ≠ c) ∧ (e = .returned (.tuple #[.agg z13.toArray, .int .i64 6]) ∨ ∃ a2 n2 c2 a3 n3 c3, e = .returned (.tuple #[.agg (sc c 1 (.slice a2 n2 c2) (.slice a3 n3 c3)).toArray, .int .i64 0])))) := by
  by_cases h : c < 1 ∨ 64 < c ∨ (n : Int) ≠ c
  · obtain ⟨a, cap, rfl⟩ := hr.shape
    refine (next_arg w c 1 _ _ _ cap a e0 e1 e2 e3 e4 (by simpa using h)).mono ?_
    rintro e w' ⟨rfl, b⟩
    exact ⟨b, Or.inl ⟨h, rfl⟩⟩
  · have h1 : 1 ≤ c := by omega
    have h2 : c ≤ 64 := by omega
    have h3 : ((List.replicate n (0 : Int)).length : Int) = c := by simp; omega
    by_cases q : e0 = 1 ∧ 0 ≤ e1 ∧ e1 < c
    · obtain ⟨rfl, q1, q2⟩ := q
      refine (next_ret w c 1 (.slice none 0 0) r [] (List.replicate n 0) [] (sl_nil w) hr (by simp) (by simp; omega) h1 h2 h3 1 e1 e2 e3 e4 (.slice none 0 0) ?_).mono ?_
      · intro V m k' r' fo
        refine (follow_still V m _ c e1 e2 e3 e4 fo.blk rfl q1 q2).mono ?_
        rintro e w' ⟨rfl, b⟩
        have f : Fr V.heap.size [] V w' := Fr.of_below b
        exact ⟨rfl, k', r', 0, 0, 0, 0, 0, fo.blk.below b, fo_fr fo f (by simp), Or.inr (owns_below fo.ok b), fo_or fo f (by simp)⟩
      · rintro e w' ⟨k2, r2, rfl, b, s1, s2⟩
        obtain ⟨a2, c2, rfl⟩ := s1.shape
        obtain ⟨a3, c3, rfl⟩ := s2.shape
        exact ⟨b, Or.inr ⟨h, Or.inr ⟨_, _, _, _, _, _, rfl⟩⟩⟩
    · refine (next_pan w c 1 (.slice none 0 0) r [] (List.replicate n 0) (sl_nil w) hr (by simp) (by simp; omega) h1 h2 h3 e0 e1 e2 e3 e4 (.slice none 0 0) ?_).mono ?_
      · intro V m k' r' fo
        refine (follow_bad V m _ c e0 e1 e2 e3 e4 fo.blk rfl q).mono ?_
        rintro e w' ⟨rfl, b⟩
        exact ⟨rfl, fo_fr fo (Fr.of_below b) (by simp)⟩
      · rintro e w' ⟨rfl, b⟩
        exact ⟨b, Or.inr ⟨h, Or.inl rfl⟩⟩

theorem next_queue (w : World) (lb : Nat) (r : Value) (hr : SL w r [0, 0]) (hl : Blk w lb (rc 1 0 1 0 0) 40) :
    Calls Tryz.prog 5 #[.agg (sc 2 3 (.slice none 0 0) r).toArray, .agg (ev 18 0 0 0 0).toArray, .slice (some ⟨lb, 0, none⟩) 1 1] w fun e w' => ∃ k2 r2, e = .returned (.tuple #[.agg (sc 2 3 k2 r2).toArray, .int .i64 0]) ∧ Below w.heap.size w w' ∧ SL w' k2 [1] ∧ SL w' r2 [0, 0] := by
  refine next_ret w 2 3 (.slice none 0 0) r [] [0, 0] [1] (sl_nil w) hr (by simp) (by simp) (by decide) (by decide) (by simp) 18 0 0 0 0 (.slice (some ⟨lb, 0, none⟩) 1 1) ?_
  intro V m k' r' fo
  obtain rfl := fo.nn rfl
  refine (follow_queue V m lb r' fo.blk ((fo.be.block lb hl.lt).trans hl)).mono ?_
  rintro e w' ⟨rfl, u, q⟩
  exact ⟨rfl, u, r', 1, 0, 1, 0, 0, q.blk, fo_fr fo q.fr (by simpa using fo.hm), Or.inr (own_base q.own (by have := fo.blk.lt; have := fo.hm; omega)), fo_or fo q.fr (by simpa using fo_rm fo)⟩

theorem next_work (w : World) (lb : Nat) (k r : Value) (hk : SL w k [1]) (hr : SL w r [0, 0]) (hl : Blk w lb (rc 5 0 1 0 0) 40) :
    Calls Tryz.prog 5 #[.agg (sc 2 3 k r).toArray, .agg (ev 1 0 0 0 0).toArray, .slice (some ⟨lb, 0, none⟩) 1 1] w fun e w' => ∃ k2 r2, e = .returned (.tuple #[.agg (sc 2 3 k2 r2).toArray, .int .i64 0]) ∧ Below w.heap.size w w' ∧ SL w' k2 [] ∧ SL w' r2 [0, 0] := by
  refine next_ret w 2 3 k r [1] [0, 0] [] hk hr (by simp) (by simp) (by decide) (by decide) (by simp) 1 0 0 0 0 (.slice (some ⟨lb, 0, none⟩) 1 1) ?_
  intro V m k' r' fo
  rcases fo.ok.2 with ⟨_, hn⟩ | ⟨g, cap, cur, hv, hb, hg, hn, hc, hz, ht⟩
  · simp at hn
  obtain ⟨x, l, hcur⟩ : ∃ x l, cur.toList = x :: l := by
    match hq : cur.toList with
    | [] => rw [hq] at ht; simp at ht
    | x :: l => exact ⟨x, l, rfl⟩
  have hx : x = .int .i64 1 := by rw [hcur] at ht; simpa using ht
  subst hx
  subst hv
  have gb : Blk V g (.int .i64 1 :: l) 3 := by
    show V.heap[g]? = _
    rw [hg, ← hcur]
  have hcl : cap = l.length + 1 := by
    have : cur.toList.length = cap := by simpa using hz
    rw [hcur] at this
    simpa using this.symm
  refine (follow_work V m lb r' g cap l fo.blk gb hcl hc ((fo.be.block lb hl.lt).trans hl)).mono ?_
  rintro e w' ⟨rfl, q1, q2⟩
  refine ⟨rfl, _, r', 5, 0, 1, 0, 0, q1, fo_fr fo q2 (by simp; exact ⟨fo.hm, hb⟩), Or.inl ⟨_, _, rfl, rfl, fun h => by cases h⟩, fo_or fo q2 (fun j e => ?_)⟩
  have h1 := fo_rm fo j e
  have h2 := fo.ap g rfl j e
  simp
  exact ⟨h1, fun q => h2 q.symm⟩

theorem next_gone (w : World) (lb : Nat) (k r : Value) (hk : SL w k []) (hr : SL w r [0, 0]) (hl : Blk w lb (rc 5 0 1 0 0) 40) :
    Calls Tryz.prog 5 #[.agg (sc 2 3 k r).toArray, .agg (ev 1 0 0 0 0).toArray, .slice (some ⟨lb, 0, none⟩) 1 1] w fun e w' => e = .returned (.tuple #[.agg z13.toArray, .int .i64 6]) ∧ Below w.heap.size w w' := by
  refine next_pan w 2 3 k r [] [0, 0] hk hr (by simp) (by simp) (by decide) (by decide) (by simp) 1 0 0 0 0 (.slice (some ⟨lb, 0, none⟩) 1 1) ?_
  intro V m k' r' fo
  obtain ⟨a, cap, rfl⟩ := own_shape fo.ok
  refine (follow_gone V m lb r' a cap fo.blk ((fo.be.block lb hl.lt).trans hl)).mono ?_
  rintro e w' ⟨rfl, q⟩
  exact ⟨rfl, fo_fr fo q (by simpa using fo.hm)⟩
end Go.Proofs.YtaebebgoijgolaaGreat
