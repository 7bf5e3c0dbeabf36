/- A slice of structs of numbers (of either kind) and truths that came in, as a plain table; such a struct by itself. -/
import Derived.Test.YtfdmcbcomknebaaGreatDoorXa
import Derived.Deep.Slices
import Derived.Lib.SmallJoins
namespace Go.Proofs.YtfdmcbcomknebaaGreatDoor
open Go.ChangeShapes Go.WideShapes Go.ChangeAt Go.RowKit Go.Deep

/-- What a field of one cell holds: a truth (0), a whole number (1), one without sign (2). -/
def kval (k : Nat) (x : Int) : Value := if k = 0 then .bool (x != 0) else if k = 1 then .int .i64 x else .int .u64 x
def kund (k : Nat) : TypeDesc := if k = 0 then .bool else if k = 1 then .int .i64 else .int .u64
def kwf (k : Nat) (x : Int) : Prop := if k = 0 then True else if k = 1 then (Lit.int .i64 x).wf = true else (Lit.int .u64 x).wf = true

/-- A slice of structs of such fields, as they lie in memory. -/
def TRow (w : World) (v : Value) (n : Nat) (ks : List Nat) (X : Nat → Nat → Int) : Prop :=
  (n = 0 ∧ ∃ a cap, v = .slice a 0 cap) ∨ ∃ b off cap, v = .slice (some ⟨b, off, none⟩) n cap ∧ b < w.heap.size ∧ ∀ i, i < n → ∀ j, j < ks.length → w.cell? ⟨b, off + i * ks.length + j, none⟩ = some (kval (ks.getD j 1) (X i j))

theorem trow_cell {w wr : World} {a : Option Addr} {len cap : Nat} {ks : List Nat} {X : Nat → Nat → Int} (h : TRow w (.slice a len cap) len ks X) (hb : Below w.heap.size w wr) {k : Nat} (hk : (k : Int) < len) :
    ∃ b off, a = some ⟨b, off, none⟩ ∧ ∀ j, j < ks.length → wr.cell? ⟨b, off + k * ks.length + j, none⟩ = some (kval (ks.getD j 1) (X k j)) := by
  rcases h with ⟨rfl, _⟩ | ⟨b, off, c, hv, hlt, hc⟩
  · simp at hk
    omega
  · simp only [Value.slice.injEq] at hv
    exact ⟨b, off, hv.1, fun j hj => (hb.cell (p := ⟨b, off + k * ks.length + j, none⟩) hlt).trans (hc k (by omega) j hj)⟩

/-- One field. -/
theorem open_field {H : Type} {enc : TypeId × Value → H} {P : Program} {w : World} {base : Nat} {spare : Nat → Bool} {held : Bool} {t : TypeId} {fuel : Nat} {u : Value} {x : DataW H × List MemPlace} (k : Nat) (ht : P.underlying t = some (kund k)) (h : DataW.trod enc P w base spare held fuel t [u] = some x) : ∃ z : Int, u = kval k z ∧ kwf k z := by
  unfold kund at ht
  unfold kval kwf
  by_cases k0 : k = 0
  · rw [if_pos k0] at ht
    obtain ⟨z, ez, _⟩ := DataW.trod_bool ht h
    simp at ez
    refine ⟨if z = true then 1 else 0, ?_, ?_⟩
    · rw [if_pos k0, ez]
      cases z <;> rfl
    · rw [if_pos k0]
      trivial
  · rw [if_neg k0] at ht
    by_cases k1 : k = 1
    · rw [if_pos k1] at ht
      obtain ⟨z, ez, _, wf⟩ := DataW.trod_int ht h
      simp at ez
      exact ⟨z, by rw [if_neg k0, if_pos k1, ez], by rw [if_neg k0, if_pos k1]; exact wf⟩
    · rw [if_neg k1] at ht
      obtain ⟨z, ez, _, wf⟩ := DataW.trod_int ht h
      simp at ez
      exact ⟨z, by rw [if_neg k0, if_neg k1, ez], by rw [if_neg k0, if_neg k1]; exact wf⟩

theorem open_cells {H : Type} {enc : TypeId × Value → H} {P : Program} {w : World} {base : Nat} {spare : Nat → Bool} {held : Bool} {e : TypeId} {fs : Array Field} {fuel : Nat} {cs : List Value} {x : DataW H × List MemPlace} (ks : List Nat)
    (he : P.underlying e = some (.struct fs)) (hs : fs.size = ks.length) (hl : cs.length = ks.length)
    (hk : ∀ j, j < ks.length → ∃ f, fs[j]? = some f ∧ f.offset = j ∧ P.cellsOf f.type = 1 ∧ P.underlying f.type = some (kund (ks.getD j 1)))
    (h : DataW.trod enc P w base spare held fuel e cs = some x) : ∃ g : Nat → Int, ∀ j, j < ks.length → cs[j]? = some (kval (ks.getD j 1) (g j)) ∧ kwf (ks.getD j 1) (g j) := by
  obtain ⟨xs, n', _, _, _, hxl, hf⟩ := DataW.trod_struct he h
  have one : ∀ j, j < ks.length → ∃ z : Int, cs[j]? = some (kval (ks.getD j 1) z) ∧ kwf (ks.getD j 1) z := by
    intro j hj
    obtain ⟨f, e1, e2, e3, e4⟩ := hk j hj
    have g := hf j f e1
    have hjl : j < cs.length := by omega
    rw [e2, e3] at g
    have e5 : (cs.drop j).take 1 = [cs[j]] := by
      rw [List.drop_eq_getElem_cons hjl]
      rfl
    rw [e5, List.getElem?_eq_getElem (by omega)] at g
    obtain ⟨z, ez, wf⟩ := open_field _ e4 g
    exact ⟨z, by rw [List.getElem?_eq_getElem hjl, ez], wf⟩
  obtain ⟨g, hg⟩ := choose_lt one
  exact ⟨g, hg⟩

theorem open_recx {H : Type} {enc : TypeId × Value → H} {P : Program} {w : World} {base : Nat} {spare : Nat → Bool} {held : Bool} {t e : TypeId} {fs : Array Field} {fuel : Nat} {a : Option Addr} {len cap : Nat} {x : DataW H × List MemPlace} (ks : List Nat)
    (ht : P.underlying t = some (.slice e)) (he : P.underlying e = some (.struct fs)) (ce : P.cellsOf e = ks.length) (hs : fs.size = ks.length) (hpos : 0 < ks.length)
    (hk : ∀ j, j < ks.length → ∃ f, fs[j]? = some f ∧ f.offset = j ∧ P.cellsOf f.type = 1 ∧ P.underlying f.type = some (kund (ks.getD j 1)))
    (h : DataW.trod enc P w base spare held fuel t [.slice a len cap] = some x) :
    ∃ X : Nat → Nat → Int, TRow w (.slice a len cap) len ks X ∧ ∀ i, i < len → ∀ j, j < ks.length → kwf (ks.getD j 1) (X i j) := by
  rcases open_slice ht h with ⟨hcs, _⟩ | ⟨x, l, c, m, n, D, Pl, hcs, _, hl, _, hmm, _, hall⟩
  · simp at hcs
    obtain ⟨rfl, rfl, rfl⟩ := hcs
    exact ⟨fun _ _ => 0, Or.inl ⟨rfl, none, 0, rfl⟩, fun i hi => by omega⟩
  · simp at hcs
    obtain ⟨rfl, rfl, rfl⟩ := hcs
    have hlm : len ≤ m := by rw [hmm]; split <;> omega
    have each : ∀ i, i < len → ∃ g : Nat → Int, ∀ j, j < ks.length → w.cell? (x.add (i * ks.length + j)) = some (kval (ks.getD j 1) (g j)) ∧ kwf (ks.getD j 1) (g j) := by
      intro i hi
      obtain ⟨cs', h1, h2⟩ := hall i (by omega)
      rw [ce] at h1
      obtain ⟨_, hlen, hcell⟩ := World.cells?_some h1
      obtain ⟨g, hg⟩ := open_cells ks he hs (by omega) hk h2
      refine ⟨g, fun j hj => ⟨?_, (hg j hj).2⟩⟩
      have c1 := hcell j hj
      rw [add_add] at c1
      rw [c1]
      exact (hg j hj).1
    obtain ⟨X, hX⟩ := choose_lt each
    refine ⟨X, ?_, fun i hi j hj => (hX i hi j hj).2⟩
    by_cases h0 : len = 0
    · exact Or.inl ⟨h0, some x, cap, by rw [h0]⟩
    · obtain ⟨b, off, spot⟩ := x
      have hc0 := (hX 0 (by omega) 0 hpos).1
      have hspot : spot = none := by simpa [Addr.add] using World.cell?_spot hc0
      subst hspot
      have hb : b < w.heap.size := World.block_lt_of_cell? w _ (by simpa [Addr.add] using hc0)
      refine Or.inr ⟨b, off, cap, rfl, hb, fun i hi j hj => ?_⟩
      have := (hX i hi j hj).1
      rwa [Addr.add_lit, ← Nat.add_assoc] at this

theorem open_rec {H : Type} {enc : TypeId × Value → H} {P : Program} {w : World} {base : Nat} {spare : Nat → Bool} {held : Bool} {r : Reach} {b0 : Nat} {t : TypeId} {fs : Array Field} {v : Value} {d : DataW H} {p : List MemPlace} (ks : List Nat)
    (he : P.underlying t = some (.struct fs)) (ce : P.cellsOf t = ks.length) (hs : fs.size = ks.length)
    (hk : ∀ j, j < ks.length → ∃ f, fs[j]? = some f ∧ f.offset = j ∧ P.cellsOf f.type = 1 ∧ P.underlying f.type = some (kund (ks.getD j 1)))
    (hv : Value.okWide P w r b0 t v) (h : DataW.Trod enc P w base spare held t v d p) :
    ∃ g : Nat → Int, v = .agg ((List.range ks.length).map fun j => kval (ks.getD j 1) (g j)).toArray ∧ ∀ j, j < ks.length → kwf (ks.getD j 1) (g j) := by
  obtain ⟨cs, rfl, hsz⟩ := okWide_struct he hv
  obtain ⟨fuel, hf⟩ := h
  have hl : cs.toList.length = ks.length := by rw [Array.length_toList]; exact hsz.trans ce
  obtain ⟨g, hg⟩ := open_cells (cs := cs.toList) ks he hs hl hk (by simpa [Value.cells] using hf)
  refine ⟨g, ?_, fun j hj => (hg j hj).2⟩
  congr 1
  apply Array.toList_inj.1
  apply List.ext_getElem?
  intro j
  by_cases hj : j < ks.length
  · rw [(hg j hj).1, List.getElem?_map, List.getElem?_range hj]
    rfl
  · rw [List.getElem?_eq_none (by omega), List.getElem?_eq_none (by simp; omega)]
end Go.Proofs.YtfdmcbcomknebaaGreatDoor
