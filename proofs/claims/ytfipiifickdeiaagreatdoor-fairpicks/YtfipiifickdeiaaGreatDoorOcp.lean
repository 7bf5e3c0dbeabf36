/- The room of a slice that came in. No program in it. -/
import Derived.Test.YtfipiifickdeiaaGreatDoorXa
import Derived.Deep.Slices
namespace Go.Proofs.YtfipiifickdeiaaGreatDoor
open Go.ChangeShapes Go.WideShapes Go.ChangeAt Go.RowKit Go.Deep

theorem row_of_cells {w : World} {a : Option Addr} {len cap : Nat} {zs : List Int}
    (h : (a = none ∧ len = 0 ∧ cap = 0 ∧ zs = []) ∨ ∃ x, a = some x ∧ len ≤ cap ∧ zs.length = cap ∧ (∀ i, i < zs.length → w.cell? (x.add i) = some (.int .i64 (zs.getD i 0)))) :
    ∃ xs : List Int, Row w (.slice a len cap) xs ∧ xs.length = len ∧ ∀ n ∈ xs, n ∈ zs := by
  rcases h with ⟨rfl, rfl, rfl, rfl⟩ | ⟨x, rfl, l1, l3, hc⟩
  · exact ⟨[], Or.inl ⟨rfl, none, 0, rfl⟩, rfl, fun n hn => by simp at hn⟩
  · by_cases h0 : len = 0
    · subst h0
      exact ⟨[], Or.inl ⟨rfl, _, _, rfl⟩, rfl, fun n hn => by simp at hn⟩
    · obtain ⟨b, off, spot⟩ := x
      have hc0 := hc 0 (by omega)
      have hspot : spot = none := by simpa [Addr.add] using World.cell?_spot hc0
      subst hspot
      have e : (zs.take len).length = len := by rw [List.length_take]; omega
      have hb : b < w.heap.size := World.block_lt_of_cell? w _ (by simpa [Addr.add] using hc0)
      refine ⟨zs.take len, Or.inr ⟨b, off, cap, by rw [e], hb, fun i hi => ?_⟩, e, fun n hn => List.mem_of_mem_take hn⟩
      have := hc i (by omega)
      rw [e] at hi
      have g : (zs.take len).getD i 0 = zs.getD i 0 := by
        rw [List.getD_eq_getElem?_getD, List.getD_eq_getElem?_getD, List.getElem?_take, if_pos hi]
      rw [g]
      by_cases i0 : i = 0
      · subst i0
        simpa [Addr.add] using this
      · simpa [Addr.add, i0] using this

theorem open_cap {H : Type} {enc : TypeId × Value → H} {P : Program} {w : World} {base : Nat} {spare : Nat → Bool} {held : Bool} {t e : TypeId} {fuel : Nat} {a : Option Addr} {len cap : Nat} {x : DataW H × List MemPlace}
    (ht : P.underlying t = some (.slice e)) (h : DataW.trod enc P w base spare held fuel t [.slice a len cap] = some x) : len ≤ cap ∧ (a = none → cap = 0) := by
  rcases open_slice ht h with ⟨hcs, _⟩ | ⟨x, l, c', m, n, D, Pl, hcs, _, hl, _, hmm, _, hall⟩
  · simp at hcs
    obtain ⟨rfl, rfl, rfl⟩ := hcs
    exact ⟨Nat.le_refl _, fun _ => rfl⟩
  · simp at hcs
    obtain ⟨rfl, rfl, rfl⟩ := hcs
    exact ⟨hl, fun h => by cases h⟩
end Go.Proofs.YtfipiifickdeiaaGreatDoor
