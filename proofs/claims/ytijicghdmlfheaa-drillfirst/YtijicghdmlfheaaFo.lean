/- A slice that came in, of whole numbers or of pairs of them, as a plain row. -/
import Derived.Test.YtijicghdmlfheaaFw
namespace Go.Proofs.Ytijicghdmlfheaa
open Go.ChangeShapes Go.WideShapes Go.ChangeAt Go.RowKit

theorem row_of_cells {w : World} {a : Option Addr} {len cap : Nat} {zs : List Int}
    (h : (a = none ∧ len = 0 ∧ cap = 0 ∧ zs = []) ∨ ∃ x, a = some x ∧ len ≤ cap ∧ zs.length = cap ∧ (∀ i, i < zs.length → w.cell? (x.add i) = some (.int .i64 (zs.getD i 0)))) :
    ∃ xs : List Int, Row w (.slice a len cap) xs ∧ xs.length = len ∧ ∀ n ∈ xs, n ∈ zs := by
  rcases h with ⟨rfl, rfl, rfl, rfl⟩ | ⟨x, rfl, l1, l3, hc⟩
  · exact ⟨[], Or.inl ⟨rfl, none, 0, rfl⟩, rfl, fun n hn => by simp at hn⟩
  · by_cases h0 : len = 0
    · subst h0
      exact ⟨[], Or.inl ⟨rfl, _, _, rfl⟩, rfl, fun n hn => by simp at hn⟩
    · obtain ⟨b, off, spot⟩ := x
      have hc0 := hc 0 (by omega)
      have hspot : spot = none := by simpa [Addr.add] using World.cell?_spot hc0
      subst hspot
      have e : (zs.take len).length = len := by rw [List.length_take]; omega
      have hb : b < w.heap.size := World.block_lt_of_cell? w _ (by simpa [Addr.add] using hc0)
      refine ⟨zs.take len, Or.inr ⟨b, off, cap, by rw [e], hb, fun i hi => ?_⟩, e, fun n hn => List.mem_of_mem_take hn⟩
      have := hc i (by omega)
      rw [e] at hi
      have g : (zs.take len).getD i 0 = zs.getD i 0 := by
        rw [List.getD_eq_getElem?_getD, List.getD_eq_getElem?_getD, List.getElem?_take, if_pos hi]
      rw [g]
      by_cases i0 : i = 0
      · subst i0
        simpa [Addr.add] using this
      · simpa [Addr.add, i0] using this

/-- A slice of pairs of whole numbers, as they lie in memory. -/
def PRow (w : World) (v : Value) (n : Nat) (X Y : Nat → Int) : Prop :=
  (n = 0 ∧ ∃ a cap, v = .slice a 0 cap) ∨ ∃ b off cap, v = .slice (some ⟨b, off, none⟩) n cap ∧ b < w.heap.size ∧ ∀ i, i < n → w.cell? ⟨b, off + i * 2, none⟩ = some (.int .i64 (X i)) ∧ w.cell? ⟨b, off + i * 2 + 1, none⟩ = some (.int .i64 (Y i))

theorem prow_of_cells {w : World} {a : Option Addr} {len cap : Nat} {X Y : Nat → Int}
    (h : (a = none ∧ len = 0 ∧ cap = 0) ∨ ∃ x, a = some x ∧ len ≤ cap ∧ (∀ i, i < len → w.cell? (x.add (i * 2)) = some (.int .i64 (X i)) ∧ w.cell? (x.add (i * 2 + 1)) = some (.int .i64 (Y i)))) :
    PRow w (.slice a len cap) len X Y := by
  rcases h with ⟨rfl, rfl, rfl⟩ | ⟨x, rfl, l1, hc⟩
  · exact Or.inl ⟨rfl, none, 0, rfl⟩
  · by_cases h0 : len = 0
    · subst h0
      exact Or.inl ⟨rfl, _, _, rfl⟩
    · obtain ⟨b, off, spot⟩ := x
      have hc0 := (hc 0 (by omega)).1
      have hspot : spot = none := by simpa [Addr.add] using World.cell?_spot hc0
      subst hspot
      have hb : b < w.heap.size := World.block_lt_of_cell? w _ (by simpa [Addr.add] using hc0)
      refine Or.inr ⟨b, off, cap, rfl, hb, fun i hi => ?_⟩
      have := hc i hi
      rwa [Addr.add_lit, Addr.add_lit, ← Nat.add_assoc] at this

theorem exists_int_fn {V : Nat → Value} {n : Nat} (h : ∀ i, i < n → ∃ x : Int, V i = .int .i64 x ∧ (Lit.int .i64 x).wf = true) : ∃ X : Nat → Int, ∀ i, i < n → V i = .int .i64 (X i) ∧ (Lit.int .i64 (X i)).wf = true := by
  refine ⟨fun i => match V i with | .int _ x => x | _ => 0, fun i hi => ?_⟩
  obtain ⟨x, e, k⟩ := h i hi
  simp [e, k]
end Go.Proofs.Ytijicghdmlfheaa
