/- Slices whose elements are one cell each (floats, bytes), as plain lists: as they lie in memory, as they come in, as parts of others, and as they are gathered by append. No program in it. -/
import Derived.Test.YtnmbacegcbjfaaaDoorLw
import Derived.Laws.OwnMore
import Derived.Deep.Slices
import Derived.Lib.SmallJoins
namespace Go.Proofs.YtnmbacegcbjfaaaDoor
open Go.ChangeShapes Go.WideShapes Go.ChangeAt Go.RowKit Go.Deep

section
variable {α : Type} {c : α → Value}

/-- A slice's elements, one cell each, as they lie in memory. -/
def ORow (c : α → Value) (w : World) (v : Value) (xs : List α) : Prop :=
  (xs = [] ∧ ∃ a cap, v = .slice a 0 cap) ∨ ∃ b off cap, v = .slice (some ⟨b, off, none⟩) xs.length cap ∧ b < w.heap.size ∧ ∀ i, i < xs.length → w.cell? ⟨b, off + i, none⟩ = (xs[i]?).map c

theorem ORow.shape {w : World} {v : Value} {xs : List α} (h : ORow c w v xs) : ∃ a cap, v = .slice a xs.length cap := by
  rcases h with ⟨rfl, a, cap, rfl⟩ | ⟨b, off, cap, rfl, _⟩
  · exact ⟨a, cap, rfl⟩
  · exact ⟨_, cap, rfl⟩
theorem ORow.below {w w' : World} {v : Value} {xs : List α} (h : ORow c w v xs) (f : Below w.heap.size w w') : ORow c w' v xs := by
  rcases h with h | ⟨b, off, cap, hv, hb, hc⟩
  · exact Or.inl h
  · exact Or.inr ⟨b, off, cap, hv, Nat.lt_of_lt_of_le hb f.size, fun i hi => (f.cell (p := ⟨b, off + i, none⟩) hb).trans (hc i hi)⟩
theorem ORow.heap {w w1 : World} {v : Value} {xs : List α} (h : ORow c w v xs) (e : w1.heap = w.heap) : ORow c w1 v xs := by
  rcases h with h | ⟨b, off, cap, hv, hb, hc⟩
  · exact Or.inl h
  · exact Or.inr ⟨b, off, cap, hv, by rw [e]; exact hb, fun i hi => (World.cell?_of_block (w := w) (by rw [e])).trans (hc i hi)⟩
theorem orow_cell {w : World} {a : Option Addr} {n cap : Nat} {xs : List α} (h : ORow c w (.slice a n cap) xs) {k : Nat} {x : α} (hk : xs[k]? = some x) :
    ∃ b off, a = some ⟨b, off, none⟩ ∧ b < w.heap.size ∧ w.cell? ⟨b, off + k, none⟩ = some (c x) := by
  have hl : k < xs.length := by
    rcases Nat.lt_or_ge k xs.length with h | h
    · exact h
    · rw [List.getElem?_eq_none h] at hk; cases hk
  rcases h with ⟨rfl, _⟩ | ⟨b, off, c', hv, hlt, hc⟩
  · simp at hl
  · simp only [Value.slice.injEq] at hv
    exact ⟨b, off, hv.1, hlt, by rw [hc k hl, hk]; rfl⟩
theorem orow_len {w : World} {a : Option Addr} {n cap : Nat} {xs : List α} (h : ORow c w (.slice a n cap) xs) : n = xs.length := by
  obtain ⟨a', c', e⟩ := h.shape
  simp only [Value.slice.injEq] at e
  exact e.2.1
theorem orow_new (w : World) (xs : List α) (t : TypeId) (n cap : Nat) (hn : n = xs.length) : ORow c (w.alloc (.cells (xs.map c).toArray t)) (.slice (some ⟨w.heap.size, 0, none⟩) n cap) xs := by
  subst hn
  refine Or.inr ⟨_, 0, cap, rfl, (Blk.new w (xs.map c) t).lt, fun i hi => ?_⟩
  rw [Nat.zero_add, (Blk.new w (xs.map c) t).cell, List.getElem?_map]
/-- What is behind the first k of them. -/
theorem orow_drop {w : World} {b off n cap k : Nat} {xs : List α} (h : ORow c w (.slice (some ⟨b, off, none⟩) n cap) xs) (m cap' : Nat) (hm : m = xs.length - k) (hk : k ≤ xs.length) : ORow c w (.slice (some ⟨b, off + k, none⟩) m cap') (xs.drop k) := by
  rcases h with ⟨rfl, a, cap, hv⟩ | ⟨b', off', c', hv, hlt, hc⟩
  · simp at hm
    exact Or.inl ⟨by simp, _, cap', by rw [hm]⟩
  · simp only [Value.slice.injEq, Option.some.injEq, Addr.mk.injEq, and_true] at hv
    obtain ⟨⟨rfl, rfl⟩, _, _⟩ := hv
    refine Or.inr ⟨b, off + k, cap', by rw [List.length_drop, hm], hlt, fun i hi => ?_⟩
    rw [List.length_drop] at hi
    rw [List.getElem?_drop, ← hc (k + i) (by omega), Nat.add_assoc]
/-- The first k of them. -/
theorem orow_take {w : World} {a : Option Addr} {n cap k : Nat} {xs : List α} (h : ORow c w (.slice a n cap) xs) (cap' : Nat) (hk : k ≤ xs.length) : ORow c w (.slice a k cap') (xs.take k) := by
  rcases h with ⟨rfl, a', cap, hv⟩ | ⟨b', off', c', hv, hlt, hc⟩
  · simp at hk
    exact Or.inl ⟨by simp, a, cap', by rw [hk]⟩
  · simp only [Value.slice.injEq] at hv
    rw [hv.1]
    refine Or.inr ⟨b', off', cap', by rw [List.length_take, Nat.min_eq_left hk], hlt, fun i hi => ?_⟩
    rw [List.length_take] at hi
    rw [List.getElem?_take, if_pos (by omega), ← hc i (by omega)]

/-- What has been gathered so far: v owns it; nothing that was there has turned. -/
structure OG (c : α → Value) (t : TypeId) (w wr : World) (v : Value) (xs : List α) : Prop where
  own : wr.ownsRow w.heap.size t 1 v xs.length (xs.map c)
  bel : Below w.heap.size w wr

theorem og_start (c : α → Value) (t : TypeId) (w : World) : OG c t w w (.slice none 0 0) [] := ⟨World.ownsRow_nil _ _ _ _, Below.refl _ _⟩
theorem OG.row {t : TypeId} {w wr : World} {v : Value} {xs : List α} (g : OG c t w wr v xs) : ORow c wr v xs := by
  rcases g.own.2 with ⟨hv, hn⟩ | ⟨b, cap, cur, hv, hb, hh, hn, hc, hz, ht⟩
  · exact Or.inl ⟨List.eq_nil_of_length_eq_zero hn, none, 0, hv⟩
  · have o := g.own
    rw [hv] at o
    refine Or.inr ⟨b, 0, cap, hv, lt_of_block hh, fun i hi => ?_⟩
    rw [Nat.zero_add, o.cellAt _ (by omega), List.getElem?_map]
theorem OG.keep {t : TypeId} {w wr wb : World} {v : Value} {xs : List α} (g : OG c t w wr v xs) (e : Below wr.heap.size wr wb) : OG c t w wb v xs :=
  ⟨owng_keep g.own (Fr.of_below e) fun k q => ⟨owng_lt g.own q, by simp⟩, g.bel.trans (e.mono g.bel.size)⟩
theorem OG.heap {t : TypeId} {w wr wb : World} {v : Value} {xs : List α} (g : OG c t w wr v xs) (e : Sm wb wr) : OG c t w wb v xs := g.keep (e.below (Below.refl _ _))
theorem OG.shape {t : TypeId} {w wr : World} {v : Value} {xs : List α} (g : OG c t w wr v xs) : ∃ a cap, v = .slice a xs.length cap := g.row.shape

/-- As many more behind it as another slice has. -/
theorem og_app {P : Program} (t ts ty : TypeId) (i0 : TypeInfo) (z : Value) (bytes : Nat) (ht : P.underlying ts = some (.slice t)) (hi : P.info? t = some i0) (hz0 : i0.zero = some z) (hz1 : i0.size = 1) (hz2 : i0.bytes = bytes) (hzs : z.cells.size = 1) (h1 : ∀ x, (c x).oneCell' = true)
    {w wr wb : World} {v u : Value} {xs ys : List α} (g : OG c t w wr v xs) (e : Below wr.heap.size wr wb) (r : ORow c wb u ys) (hu : ∀ a cap, u = .slice a 0 cap → a = none → cap = 0) (hl : xs.length + ys.length ≤ maxLen) (hr : (xs.length + ys.length) * bytes ≤ 140737488355328) :
    ∃ v' w2, (Builtin.append_ #[ts, ts] ty #[v, u]).run P wb = .ok v' w2 ∧ OG c t w w2 v' (xs ++ ys) := by
  have g1 := g.keep e
  have hs := g1.bel.size
  have many : ∀ (p : Addr) (m cap : Nat), m = ys.length → (∀ j y, (ys.map c)[j]? = some y → wb.cell? (p.add j) = some y) → ∃ v' w2, (Builtin.append_ #[ts, ts] ty #[v, .slice (some p) m cap]).run P wb = .ok v' w2 ∧ OG c t w w2 v' (xs ++ ys) := by
    intro p m cap hm hc
    subst hm
    obtain ⟨v', w2, hrun, r1, r2, _⟩ := run_append_own (P := P) wb w.heap.size ts ty t i0 z 1 bytes ht hi hz0 hz1 hz2 hzs (by omega) v xs.length (xs.map c) g1.own p ys.length cap (ys.map c) (by simp) hc (fun q hq => by
      obtain ⟨x, _, rfl⟩ := List.mem_map.1 hq
      exact h1 x) hl hr hs
    refine ⟨v', w2, hrun, ?_, g1.bel.grown r2 hs (fun j hj => ?_)⟩
    · rw [List.map_append, List.length_append]; exact r1
    · rcases g1.own.2 with ⟨q, _⟩ | ⟨g', cap, cur, q, hb, _⟩
      · rw [q] at hj; cases hj
      · rw [q] at hj
        simp [Value.ownBlock] at hj
        omega
  rcases r with ⟨rfl, a, cap, rfl⟩ | ⟨b, off, cap, rfl, hlt, hc⟩
  · cases a with
    | some p => exact many p 0 cap rfl (fun j y hj => by simp at hj)
    | none =>
      obtain rfl := hu none cap rfl rfl
      refine ⟨v, wb, run_append_owned_none wb w.heap.size ts ty t i0 1 ht hi v xs.length (xs.map c) g1.own, ?_⟩
      rw [List.append_nil]
      exact g1
  · refine many ⟨b, off, none⟩ ys.length cap rfl fun j y hj => ?_
    rw [Addr.add_lit]
    have hj' : j < ys.length := by
      rcases Nat.lt_or_ge j ys.length with h | h
      · exact h
      · rw [List.getElem?_eq_none (by simpa using h)] at hj; cases hj
    rw [hc j hj', ← List.getElem?_map]
    exact hj

/-- A slice that came in, whose elements are one cell each. -/
theorem open_ones {H : Type} {enc : TypeId × Value → H} {P : Program} {w : World} {base : Nat} {spare : Nat → Bool} {held : Bool} {t e : TypeId} {fuel : Nat} {a : Option Addr} {len cap : Nat} {x : DataW H × List MemPlace} (good : α → Prop)
    (ht : P.underlying t = some (.slice e)) (ce : P.cellsOf e = 1) (he : ∀ (fuel : Nat) (cs : List Value) (x : DataW H × List MemPlace), DataW.trod enc P w base spare held fuel e cs = some x → ∃ y, cs = [c y] ∧ good y)
    (h : DataW.trod enc P w base spare held fuel t [.slice a len cap] = some x) :
    ∃ xs : List α, ORow c w (.slice a len cap) xs ∧ xs.length = len ∧ ∀ y ∈ xs, good y := by
  rcases open_slice ht h with ⟨hcs, _⟩ | ⟨x, l, c', m, n, D, Pl, hcs, _, hl, _, hmm, _, hall⟩
  · simp at hcs
    obtain ⟨rfl, rfl, rfl⟩ := hcs
    exact ⟨[], Or.inl ⟨rfl, none, 0, rfl⟩, rfl, fun y hy => by simp at hy⟩
  · simp at hcs
    obtain ⟨rfl, rfl, rfl⟩ := hcs
    have hlm : len ≤ m := by rw [hmm]; split <;> omega
    have each : ∀ i, i < len → ∃ y : α, w.cell? (x.add i) = some (c y) ∧ good y := by
      intro i hi
      obtain ⟨cs', h1, h2⟩ := hall i (by omega)
      rw [ce] at h1
      obtain ⟨_, hlen, hcell⟩ := World.cells?_some h1
      have c1 := hcell 0 (by omega)
      rw [add_add] at c1
      obtain ⟨y, rfl, gy⟩ := he _ _ _ h2
      refine ⟨y, ?_, gy⟩
      rw [Nat.mul_one, Nat.add_zero] at c1
      simpa using c1
    have pick : ∀ n, n ≤ len → ∃ xs : List α, xs.length = n ∧ (∀ i, i < n → w.cell? (x.add i) = (xs[i]?).map c) ∧ ∀ y ∈ xs, good y := by
      intro n
      induction n with
      | zero => exact fun _ => ⟨[], rfl, fun i hi => by omega, fun y hy => by simp at hy⟩
      | succ n ih =>
        intro hn
        obtain ⟨xs, e1, e2, e3⟩ := ih (by omega)
        obtain ⟨y, e4, e5⟩ := each n (by omega)
        refine ⟨xs ++ [y], by simp [e1], fun i hi => ?_, fun q hq => ?_⟩
        · by_cases hin : i = n
          · subst hin
            rw [e4, List.getElem?_append_right (by omega), e1, Nat.sub_self]; rfl
          · rw [List.getElem?_append_left (by omega)]; exact e2 i (by omega)
        · rcases List.mem_append.1 hq with h | h
          · exact e3 q h
          · simp at h; rw [h]; exact e5
    obtain ⟨xs, e1, e2, e3⟩ := pick len (Nat.le_refl _)
    refine ⟨xs, ?_, e1, e3⟩
    by_cases h0 : len = 0
    · exact Or.inl ⟨List.eq_nil_of_length_eq_zero (by omega), some x, cap, by rw [h0]⟩
    · obtain ⟨b, off, spot⟩ := x
      obtain ⟨y, hy, _⟩ := each 0 (by omega)
      have hspot : spot = none := by simpa [Addr.add] using World.cell?_spot hy
      subst hspot
      have hb : b < w.heap.size := World.block_lt_of_cell? w _ (by simpa [Addr.add] using hy)
      refine Or.inr ⟨b, off, cap, by rw [e1], hb, fun i hi => ?_⟩
      have := e2 i (by omega)
      rwa [Addr.add_lit] at this
end

def fl (x : Nat) : Value := .float .f64 x
def by8 (x : Nat) : Value := .int .u8 (x : Nat)

theorem trod_fl {H : Type} {enc : TypeId × Value → H} {P : Program} {w : World} {base : Nat} {spare : Nat → Bool} {held : Bool} {e : TypeId} (he : P.underlying e = some (.float .f64)) (fuel : Nat) (cs : List Value) (x : DataW H × List MemPlace) (h : DataW.trod enc P w base spare held fuel e cs = some x) :
    ∃ y, cs = [fl y] ∧ y < 18446744073709551616 := by
  cases fuel with
  | zero => simp [DataW.trod] at h
  | succ n =>
    unfold DataW.trod at h
    rw [he] at h
    have q : ∃ b, cs = [.float .f64 b] ∧ (Lit.float .f64 b).wf = true := by
      split at h <;> simp_all
    obtain ⟨b, rfl, wf⟩ := q
    exact ⟨b, rfl, by simpa [Lit.wf] using wf⟩
theorem trod_by8 {H : Type} {enc : TypeId × Value → H} {P : Program} {w : World} {base : Nat} {spare : Nat → Bool} {held : Bool} {e : TypeId} (he : P.underlying e = some (.int .u8)) (fuel : Nat) (cs : List Value) (x : DataW H × List MemPlace) (h : DataW.trod enc P w base spare held fuel e cs = some x) :
    ∃ y, cs = [by8 y] ∧ y < 256 := by
  obtain ⟨n, rfl, _, wf⟩ := DataW.trod_int he h
  simp [Lit.wf, IntKind.min, IntKind.max, IntKind.bits, IntKind.signed] at wf
  refine ⟨n.toNat, ?_, by omega⟩
  unfold by8
  rw [Int.toNat_of_nonneg wf.1]
theorem one_fl (x : Nat) : (fl x).oneCell' = true := rfl
theorem one_by8 (x : Nat) : (by8 x).oneCell' = true := rfl
end Go.Proofs.YtnmbacegcbjfaaaDoor
