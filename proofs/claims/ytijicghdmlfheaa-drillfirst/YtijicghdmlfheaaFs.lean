/- A slice of structs of numbers and truths that came in, as a plain table. -/
import Derived.Test.YtijicghdmlfheaaFw
import Derived.Deep.Slices
namespace Go.Proofs.Ytijicghdmlfheaa
open Go.ChangeShapes Go.WideShapes Go.ChangeAt Go.RowKit Go.Deep

/-- What a field of one cell holds: a whole number, or a truth. -/
def fval (k : Bool) (x : Int) : Value := if k = true then .int .i64 x else .bool (x != 0)

/-- A slice of structs of such fields, as they lie in memory. -/
def SRow (w : World) (v : Value) (n : Nat) (ks : List Bool) (X : Nat → Nat → Int) : Prop :=
  (n = 0 ∧ ∃ a cap, v = .slice a 0 cap) ∨ ∃ b off cap, v = .slice (some ⟨b, off, none⟩) n cap ∧ b < w.heap.size ∧ ∀ i, i < n → ∀ j, j < ks.length → w.cell? ⟨b, off + i * ks.length + j, none⟩ = some (fval (ks.getD j true) (X i j))

theorem srow_cell {w wr : World} {a : Option Addr} {len cap : Nat} {ks : List Bool} {X : Nat → Nat → Int} (h : SRow w (.slice a len cap) len ks X) (hb : Below w.heap.size w wr) {k : Nat} (hk : (k : Int) < len) :
    ∃ b off, a = some ⟨b, off, none⟩ ∧ ∀ j, j < ks.length → wr.cell? ⟨b, off + k * ks.length + j, none⟩ = some (fval (ks.getD j true) (X k j)) := by
  rcases h with ⟨rfl, _⟩ | ⟨b, off, c, hv, hlt, hc⟩
  · simp at hk
    omega
  · simp only [Value.slice.injEq] at hv
    exact ⟨b, off, hv.1, fun j hj => (hb.cell (p := ⟨b, off + k * ks.length + j, none⟩) hlt).trans (hc k (by omega) j hj)⟩

theorem open_recs {H : Type} {enc : TypeId × Value → H} {P : Program} {w : World} {base : Nat} {spare : Nat → Bool} {held : Bool} {t e : TypeId} {fs : Array Field} {fuel : Nat} {a : Option Addr} {len cap : Nat} {x : DataW H × List MemPlace} (ks : List Bool)
    (ht : P.underlying t = some (.slice e)) (he : P.underlying e = some (.struct fs)) (ce : P.cellsOf e = ks.length) (hs : fs.size = ks.length) (hpos : 0 < ks.length)
    (hk : ∀ j, j < ks.length → ∃ f, fs[j]? = some f ∧ f.offset = j ∧ P.cellsOf f.type = 1 ∧ P.underlying f.type = some (if ks.getD j true = true then .int .i64 else .bool))
    (h : DataW.trod enc P w base spare held fuel t [.slice a len cap] = some x) :
    ∃ X : Nat → Nat → Int, SRow w (.slice a len cap) len ks X ∧ ∀ i, i < len → ∀ j, j < ks.length → ks.getD j true = true → (Lit.int .i64 (X i j)).wf = true := by
  rcases open_slice ht h with ⟨hcs, _⟩ | ⟨x, l, c, m, n, D, Pl, hcs, _, hl, _, hmm, _, hall⟩
  · simp at hcs
    obtain ⟨rfl, rfl, rfl⟩ := hcs
    exact ⟨fun _ _ => 0, Or.inl ⟨rfl, none, 0, rfl⟩, fun i hi => by omega⟩
  · simp at hcs
    obtain ⟨rfl, rfl, rfl⟩ := hcs
    have hlm : len ≤ m := by rw [hmm]; split <;> omega
    have each : ∀ i, i < len → ∃ g : Nat → Int, ∀ j, j < ks.length → w.cell? (x.add (i * ks.length + j)) = some (fval (ks.getD j true) (g j)) ∧ (ks.getD j true = true → (Lit.int .i64 (g j)).wf = true) := by
      intro i hi
      obtain ⟨cs', h1, h2⟩ := hall i (by omega)
      rw [ce] at h1
      obtain ⟨_, hlen, hcell⟩ := World.cells?_some h1
      obtain ⟨xs, n', _, _, _, hxl, hf⟩ := DataW.trod_struct he h2
      have one : ∀ j, j < ks.length → ∃ z : Int, w.cell? (x.add (i * ks.length + j)) = some (fval (ks.getD j true) z) ∧ (ks.getD j true = true → (Lit.int .i64 z).wf = true) := by
        intro j hj
        obtain ⟨f, e1, e2, e3, e4⟩ := hk j hj
        have g := hf j f e1
        have c1 := hcell j hj
        rw [add_add] at c1
        have hjl : j < cs'.length := by omega
        rw [e2, e3] at g
        have e5 : (cs'.drop j).take 1 = [cs'[j]] := by
          rw [List.drop_eq_getElem_cons hjl]
          rfl
        rw [e5, List.getElem?_eq_getElem (by omega)] at g
        rw [List.getElem?_eq_getElem hjl] at c1
        cases hb : ks.getD j true with
        | true =>
          rw [hb, if_pos rfl] at e4
          obtain ⟨z, ez, _, wf⟩ := DataW.trod_int e4 g
          simp at ez
          exact ⟨z, by rw [c1, ez]; rfl, fun _ => wf⟩
        | false =>
          rw [hb, if_neg (by simp)] at e4
          obtain ⟨z, ez, _⟩ := DataW.trod_bool e4 g
          simp at ez
          refine ⟨if z = true then 1 else 0, ?_, fun q => by cases q⟩
          rw [c1, ez]
          cases z <;> rfl
      obtain ⟨g, hg⟩ := choose_lt one
      exact ⟨g, hg⟩
    obtain ⟨X, hX⟩ := choose_lt each
    refine ⟨X, ?_, fun i hi j hj => (hX i hi j hj).2⟩
    by_cases h0 : len = 0
    · exact Or.inl ⟨h0, some x, cap, by rw [h0]⟩
    · obtain ⟨b, off, spot⟩ := x
      have hc0 := (hX 0 (by omega) 0 hpos).1
      have hspot : spot = none := by simpa [Addr.add] using World.cell?_spot hc0
      subst hspot
      have hb : b < w.heap.size := World.block_lt_of_cell? w _ (by simpa [Addr.add] using hc0)
      refine Or.inr ⟨b, off, cap, rfl, hb, fun i hi j hj => ?_⟩
      have := (hX i hi j hj).1
      rwa [Addr.add_lit, ← Nat.add_assoc] at this
end Go.Proofs.Ytijicghdmlfheaa
