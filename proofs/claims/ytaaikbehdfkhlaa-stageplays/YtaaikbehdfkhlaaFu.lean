/- A slice of truths that came in, as a plain row. -/
import Derived.Test.YtaaikbehdfkhlaaFw
import Derived.Deep.Slices
import Derived.Lib.SmallJoins
namespace Go.Proofs.Ytaaikbehdfkhlaa
open Go.ChangeShapes Go.WideShapes Go.ChangeAt Go.RowKit Go.Deep

/-- A slice of truths, as they lie in memory. -/
def BRow (w : World) (v : Value) (n : Nat) (X : Nat → Bool) : Prop :=
  (n = 0 ∧ ∃ a cap, v = .slice a 0 cap) ∨ ∃ b off cap, v = .slice (some ⟨b, off, none⟩) n cap ∧ b < w.heap.size ∧ ∀ i, i < n → w.cell? ⟨b, off + i, none⟩ = some (.bool (X i))

theorem brow_cell {w wr : World} {a : Option Addr} {len cap : Nat} {X : Nat → Bool} (h : BRow w (.slice a len cap) len X) (hb : Below w.heap.size w wr) {k : Nat} (hk : (k : Int) < len) :
    ∃ b off, a = some ⟨b, off, none⟩ ∧ wr.cell? ⟨b, off + k, none⟩ = some (.bool (X k)) := by
  rcases h with ⟨rfl, _⟩ | ⟨b, off, c, hv, hlt, hc⟩
  · simp at hk
    omega
  · simp only [Value.slice.injEq] at hv
    exact ⟨b, off, hv.1, (hb.cell (p := ⟨b, off + k, none⟩) hlt).trans (hc k (by omega))⟩

theorem open_bools {H : Type} {enc : TypeId × Value → H} {P : Program} {w : World} {base : Nat} {spare : Nat → Bool} {held : Bool} {t e : TypeId} {fuel : Nat} {a : Option Addr} {len cap : Nat} {x : DataW H × List MemPlace}
    (ht : P.underlying t = some (.slice e)) (he : P.underlying e = some .bool) (ce : P.cellsOf e = 1)
    (h : DataW.trod enc P w base spare held fuel t [.slice a len cap] = some x) :
    ∃ X : Nat → Bool, BRow w (.slice a len cap) len X := by
  rcases open_slice ht h with ⟨hcs, _⟩ | ⟨x, l, c, m, n, D, Pl, hcs, _, hl, _, hmm, _, hall⟩
  · simp at hcs
    obtain ⟨rfl, rfl, rfl⟩ := hcs
    exact ⟨fun _ => false, Or.inl ⟨rfl, none, 0, rfl⟩⟩
  · simp at hcs
    obtain ⟨rfl, rfl, rfl⟩ := hcs
    have hlm : len ≤ m := by rw [hmm]; split <;> omega
    have each : ∀ i, i < len → ∃ g : Bool, w.cell? (x.add i) = some (.bool g) := by
      intro i hi
      obtain ⟨cs', h1, h2⟩ := hall i (by omega)
      rw [ce] at h1
      obtain ⟨_, hlen, hcell⟩ := World.cells?_some h1
      have c1 := hcell 0 (by omega)
      rw [add_add] at c1
      match cs', hlen, h2, c1 with
      | [u], _, h2, c1 =>
        obtain ⟨z, ez, _⟩ := DataW.trod_bool he h2
        simp at ez
        refine ⟨z, ?_⟩
        rw [Nat.mul_one, Nat.add_zero] at c1
        rw [c1, ez]
        rfl
    obtain ⟨X, hX⟩ := choose_lt each
    refine ⟨X, ?_⟩
    by_cases h0 : len = 0
    · exact Or.inl ⟨h0, some x, cap, by rw [h0]⟩
    · obtain ⟨b, off, spot⟩ := x
      have hc0 := hX 0 (by omega)
      have hspot : spot = none := by simpa [Addr.add] using World.cell?_spot hc0
      subst hspot
      have hb : b < w.heap.size := World.block_lt_of_cell? w _ (by simpa [Addr.add] using hc0)
      refine Or.inr ⟨b, off, cap, rfl, hb, fun i hi => ?_⟩
      have := hX i hi
      rwa [Addr.add_lit] at this
end Go.Proofs.Ytaaikbehdfkhlaa
