/- Small words for WirePuts: events that came in, and calls at a world that differs by draws. -/
import Derived.Test.YtmelbbojanomiaaRows
import Derived.Test.YtmelbbojanomiaaWr4
import Derived.Test.YtmelbbojanomiaaFt
import Derived.WalkKit
import Derived.ProofKit
import Derived.OpenShut
namespace Go.Proofs.Ytmelbbojanomiaa
open Go.ChangeShapes Go.WideShapes Go.ChangeAt Go.RowKit
open Wi0

def evOf (X : Nat → Nat → Int) (i : Nat) : Ev := ⟨X i 0, X i 1, X i 2, X i 3, X i 4⟩
theorem lrow_of_trow {w : World} {v : Value} {n : Nat} {X : Nat → Nat → Int} (h : TRow w v n [1, 1, 1, 2, 1] X) : LRow evy w v ((List.range n).map (evOf X)) := by
  rcases h with ⟨rfl, a, cap, rfl⟩ | ⟨b, off, cap, hv, hlt, hc⟩
  · exact Or.inl ⟨rfl, a, cap, rfl⟩
  · refine Or.inr ⟨b, off, cap, by rw [hv]; simp, hlt, fun i hi j hj => ?_⟩
    have hi' : i < n := by simpa using hi
    have e : ((List.range n).map (evOf X)).getD i evy.z = evOf X i := by simp [List.getD, hi']
    rw [e]
    have hj5 : j < 5 := hj
    have c := hc i hi' j hj
    have : j = 0 ∨ j = 1 ∨ j = 2 ∨ j = 3 ∨ j = 4 := by omega
    rcases this with rfl | rfl | rfl | rfl | rfl <;> exact c
theorem ok_of_trow {n : Nat} {X : Nat → Nat → Int} (h : ∀ i, i < n → ∀ j, j < [1, 1, 1, 2, 1].length → kwf ([1, 1, 1, 2, 1].getD j 1) (X i j)) : ∀ e ∈ (List.range n).map (evOf X), Eok e := by
  intro e he
  obtain ⟨i, hi, rfl⟩ := List.mem_map.1 he
  have hi' : i < n := by simpa using hi
  have k0 := h i hi' 0 (by decide)
  have k1 := h i hi' 1 (by decide)
  have k2 := h i hi' 2 (by decide)
  have k3 := h i hi' 3 (by decide)
  have k4 := h i hi' 4 (by decide)
  simp [kwf, Lit.wf, IntKind.min, IntKind.max, IntKind.bits, IntKind.signed] at k0 k1 k2 k3 k4
  exact ⟨⟨by show _ ≤ X i 0; omega, by show X i 0 < _; omega⟩, ⟨by show _ ≤ X i 1; omega, by show X i 1 < _; omega⟩, ⟨by show _ ≤ X i 2; omega, by show X i 2 < _; omega⟩, by show 0 ≤ X i 3; omega, by show X i 3 < _; omega, ⟨by show _ ≤ X i 4; omega, by show X i 4 < _; omega⟩⟩
theorem bg_smr {t u w' : World} {v : Value} {xs : List Nat} (s : Sm t u) (g : BG t w' v xs) : BG u w' v xs := by
  have e : t.heap.size = u.heap.size := by rw [s.1]
  refine ⟨by rw [← e]; exact g.own, ?_⟩
  rw [← e]
  exact s.from g.bel
theorem put_smr (u t : World) (ev : Ev) (ok : Eok ev) (s : Sm t u) : Calls Try.prog 38 #[.agg #[.int .i64 ev.kind, .int .i64 ev.cpu, .int .i64 ev.id, .int .u64 ev.mask, .int .i64 ev.n]] t fun r w' => ∃ v, r = .returned v ∧ BG u w' v (putE ev) :=
  (put_any t ev ok).mono fun _ _ ⟨v, e, g⟩ => ⟨v, e, bg_smr s g⟩
/-- Both slices hold the bytes. -/
structure TwoB (u w' : World) (v1 v2 : Value) (xs : List Nat) : Prop where
  r1 : ORow by8 w' v1 xs
  r2 : ORow by8 w' v2 xs
  bel : Below u.heap.size u w'
theorem rput_smr (u w1 t : World) (v1 : Value) (ev : Ev) (ok : Eok ev) (g : BG u w1 v1 (putE ev)) (s : Sm t w1) : Calls Try.prog 39 #[.agg #[.int .i64 ev.kind, .int .i64 ev.cpu, .int .i64 ev.id, .int .u64 ev.mask, .int .i64 ev.n]] t fun r w' => ∃ v, r = .returned v ∧ TwoB u w' v1 v (putE ev) :=
  (rput_any t ev ok).mono fun _ _ ⟨v, e, g2⟩ => by
    have g3 := bg_smr s g2
    exact ⟨v, e, ⟨g.row.below g3.bel, g3.row, g.bel.trans (g3.bel.mono g.bel.size)⟩⟩
theorem bytes_smr (u w2 t : World) (v1 v2 : Value) (xs : List Nat) (h : TwoB u w2 v1 v2 xs) (s : Sm t w2) : Calls Try.prog 37 #[v1, v2] t fun e w'' => e = .returned (.bool true) ∧ Below u.heap.size u w'' :=
  (bytes_yes t v1 v2 xs (h.r1.heap s.1) (h.r2.heap s.1)).mono fun _ _ ⟨e, k⟩ => ⟨e, by rw [k]; exact s.below h.bel⟩
end Go.Proofs.Ytmelbbojanomiaa
