/- Things with masks and cores as plain records, as cells in memory, and which of them are not where they are to be. -/
import Derived.Test.YtghnpmkibnggeaaDoorRows
import Derived.Test.YtghnpmkibnggeaaDoorFw
import Derived.Test.YtghnpmkibnggeaaDoorFg
import Derived.Test.YtghnpmkibnggeaaDoorFz
import Derived.Test.YtghnpmkibnggeaaDoorFt
import Derived.Test.YtghnpmkibnggeaaDoorAa
namespace Go.Proofs.YtghnpmkibnggeaaDoor
open Go.ChangeShapes Go.WideShapes Go.ChangeAt Go.RowKit
open Mm

structure It where
  id : Int
  mask : Nat
  cpu : Int
  forced : Bool

def zi : It := ⟨0, 0, 0, false⟩
def i4 (x : It) : List Value := [.int .i64 x.id, .int .u64 (x.mask : Int), .int .i64 x.cpu, .bool x.forced]
def fi (Y : List It) : List Value := Y.flatMap i4
theorem fi_cons (x : It) (Y : List It) : fi (x :: Y) = i4 x ++ fi Y := rfl
theorem fi_app (X Y : List It) : fi (X ++ Y) = fi X ++ fi Y := by unfold fi; rw [List.flatMap_append]
theorem fi_at (Y : List It) (k j : Nat) (h : k < Y.length) (hj : j < 4) : (fi Y)[k * 4 + j]? = (i4 (Y.getD k zi))[j]? := by
  induction Y generalizing k with
  | nil => simp at h
  | cons x r ih =>
    rw [fi_cons]
    cases k with
    | zero => rw [List.getElem?_append_left (by show 0 * 4 + j < 4; omega), Nat.zero_mul, Nat.zero_add]; rfl
    | succ k =>
      rw [List.getElem?_append_right (by show 4 ≤ (k + 1) * 4 + j; omega), show (k + 1) * 4 + j - (i4 x).length = k * 4 + j by show (k + 1) * 4 + j - 4 = _; omega, ih k (by simpa using h)]
      rfl
theorem i4_one (x : It) : ∀ u ∈ i4 x, u.oneCell' = true := by
  intro u hu
  simp only [i4, List.mem_cons, List.not_mem_nil, or_false] at hu
  rcases hu with rfl | rfl | rfl | rfl <;> rfl

/-- A slice of such things, as they lie in memory. -/
def IRow (w : World) (v : Value) (Y : List It) : Prop :=
  (Y = [] ∧ ∃ a cap, v = .slice a 0 cap) ∨ ∃ b off cap, v = .slice (some ⟨b, off, none⟩) Y.length cap ∧ b < w.heap.size ∧ ∀ i, i < Y.length → ∀ j, j < 4 → w.cell? ⟨b, off + i * 4 + j, none⟩ = (i4 (Y.getD i zi))[j]?

theorem IRow.shape {w : World} {v : Value} {Y : List It} (h : IRow w v Y) : ∃ a cap, v = .slice a Y.length cap := by
  rcases h with ⟨rfl, a, cap, rfl⟩ | ⟨b, off, cap, rfl, _⟩
  · exact ⟨a, cap, rfl⟩
  · exact ⟨_, cap, rfl⟩
theorem IRow.below {w w' : World} {v : Value} {Y : List It} (h : IRow w v Y) (f : Below w.heap.size w w') : IRow w' v Y := by
  rcases h with h | ⟨b, off, cap, hv, hb, hc⟩
  · exact Or.inl h
  · exact Or.inr ⟨b, off, cap, hv, Nat.lt_of_lt_of_le hb f.size, fun i hi j hj => (f.cell (p := ⟨b, off + i * 4 + j, none⟩) hb).trans (hc i hi j hj)⟩
theorem IRow.heap {w w1 : World} {v : Value} {Y : List It} (h : IRow w v Y) (e : w1.heap = w.heap) : IRow w1 v Y := by
  rcases h with h | ⟨b, off, cap, hv, hb, hc⟩
  · exact Or.inl h
  · exact Or.inr ⟨b, off, cap, hv, by rw [e]; exact hb, fun i hi j hj => (World.cell?_of_block (w := w) (by rw [e])).trans (hc i hi j hj)⟩
/-- The cells of the k-th. -/
theorem irow_cell {w : World} {a : Option Addr} {n cap : Nat} {Y : List It} (h : IRow w (.slice a n cap) Y) {k : Nat} (hk : k < Y.length) :
    ∃ b off, a = some ⟨b, off, none⟩ ∧ b < w.heap.size ∧ w.cell? ⟨b, off + k * 4, none⟩ = some (.int .i64 (Y.getD k zi).id) ∧ w.cell? ⟨b, off + k * 4 + 1, none⟩ = some (.int .u64 ((Y.getD k zi).mask : Int)) ∧ w.cell? ⟨b, off + k * 4 + 2, none⟩ = some (.int .i64 (Y.getD k zi).cpu) ∧ w.cell? ⟨b, off + k * 4 + 3, none⟩ = some (.bool (Y.getD k zi).forced) := by
  rcases h with ⟨rfl, _⟩ | ⟨b, off, c, hv, hlt, hc⟩
  · simp at hk
  · simp only [Value.slice.injEq] at hv
    exact ⟨b, off, hv.1, hlt, hc k hk 0 (by omega), hc k hk 1 (by omega), hc k hk 2 (by omega), hc k hk 3 (by omega)⟩

/-- What has been gathered so far: v owns it; nothing that was there has turned. -/
structure IG (t : TypeId) (w wr : World) (v : Value) (Y : List It) : Prop where
  own : wr.ownsRow w.heap.size t 4 v Y.length (fi Y)
  bel : Below w.heap.size w wr

theorem ig_start (t : TypeId) (w : World) : IG t w w (.slice none 0 0) [] := ⟨World.ownsRow_nil _ _ _ _, Below.refl _ _⟩
theorem IG.row {t : TypeId} {w wr : World} {v : Value} {Y : List It} (g : IG t w wr v Y) : IRow wr v Y := by
  rcases g.own.2 with ⟨hv, hn⟩ | ⟨b, cap, cur, hv, hb, hh, hn, hc, hz, ht⟩
  · exact Or.inl ⟨List.eq_nil_of_length_eq_zero hn, none, 0, hv⟩
  · have o := g.own
    rw [hv] at o
    exact Or.inr ⟨b, 0, cap, hv, lt_of_block hh, fun i hi j hj => by rw [Nat.zero_add, o.cellAt _ (by omega), fi_at Y i j hi hj]⟩

/-- One more: what a new block and an append make of it. -/
theorem ig_app {P : Program} (t ts ty : TypeId) (i0 : TypeInfo) (z : Value) (ht : P.underlying ts = some (.slice t)) (hi : P.info? t = some i0) (hz0 : i0.zero = some z) (hz1 : i0.size = 4) (hz2 : i0.bytes = 32) (hzs : z.cells.size = 4)
    {w wr w1 wb : World} {v : Value} {Y : List It} (x : It) (g : IG t w wr v Y) (e : Below wr.heap.size wr w1) (hb : Sm wb (w1.alloc (.cells #[.int .i64 x.id, .int .u64 (x.mask : Int), .int .i64 x.cpu, .bool x.forced] t))) (hl : Y.length ≤ 1000) :
    ∃ v' w2, (Builtin.append_ #[ts, ts] ty #[v, .slice (some ⟨w1.heap.size, 0, none⟩) 1 1]).run P wb = .ok v' w2 ∧ IG t w w2 v' (Y ++ [x]) := by
  have hs := g.bel.size
  have he := e.size
  have nb : Blk wb w1.heap.size (i4 x) t := (Blk.new w1 _ _).heap hb.1
  have bel : Below w.heap.size w wb := hb.below ((g.bel.trans (e.mono hs)).alloc (by omega) _)
  have o0 : (w1.alloc (.cells #[.int .i64 x.id, .int .u64 (x.mask : Int), .int .i64 x.cpu, .bool x.forced] t)).ownsRow w.heap.size t 4 v Y.length (fi Y) := (owng_keep g.own (Fr.of_below e) fun k q => ⟨owng_lt g.own q, by simp⟩).alloc _
  have o1 : wb.ownsRow w.heap.size t 4 v Y.length (fi Y) := ⟨o0.1, by rw [hb.1]; exact o0.2⟩
  have hsz : wb.heap.size = w1.heap.size + 1 := by rw [hb.1]; simp
  obtain ⟨v', w2, hrun, r1, r2, _⟩ := run_append_own (P := P) wb w.heap.size ts ty t i0 z 4 32 ht hi hz0 hz1 hz2 hzs (by decide) v Y.length (fi Y) o1 ⟨w1.heap.size, 0, none⟩ 1 1 (i4 x) rfl (fun j u hj => by
    rw [Addr.add_lit, Nat.zero_add, nb.cell]
    exact hj) (i4_one x) (by unfold maxLen; omega) (by omega) (by omega)
  refine ⟨v', w2, hrun, ?_, bel.grown r2 (by omega) (fun j hj => ?_)⟩
  · rw [fi_app, List.length_append]
    simpa [fi] using r1
  · rcases g.own.2 with ⟨q, _⟩ | ⟨g', cap, cur, q, hb, _⟩
    · rw [q] at hj; cases hj
    · rw [q] at hj
      simp [Value.ownBlock] at hj
      omega

/- What the document says of them. -/
def wrg (b : Nat) (x : It) : Bool := !(tb b x.cpu) || (!(tb x.mask x.cpu) && decide (x.mask &&& b ≠ 0)) || (x.forced == tb x.mask x.cpu)
def rpr (b : Nat) (x : It) : It := ⟨x.id, x.mask, cN x.mask b x.cpu, cF x.mask b⟩
def mend (b : Nat) (Y : List It) : List It := if b = 0 then [] else (Y.filter (wrg b)).map (rpr b)
/-- All numbers are such as a machine can hold. -/
def Fine (Y : List It) : Prop := ∀ x ∈ Y, x.mask < 18446744073709551616 ∧ -9223372036854775808 ≤ x.cpu

theorem rpr_right {b : Nat} (x : It) (hb : b < 18446744073709551616) (h : b ≠ 0) : wrg b (rpr b x) = false := by
  have hr := cN_right (a := x.mask) (c := x.cpu) hb h
  unfold wrg rpr
  simp only
  rw [hr.1, hr.2, show cF x.mask b = decide (x.mask &&& b = 0) from if_neg h]
  by_cases e : x.mask &&& b = 0 <;> simp [e]
theorem mend_mend {b : Nat} (Y : List It) (hb : b < 18446744073709551616) : mend b (mend b Y) = [] := by
  unfold mend
  by_cases h : b = 0
  · rw [if_pos h]
  · rw [if_neg h, if_neg h]
    have : ((Y.filter (wrg b)).map (rpr b)).filter (wrg b) = [] := by
      rw [List.filter_eq_nil_iff]
      intro y hy
      obtain ⟨x, _, rfl⟩ := List.mem_map.1 hy
      rw [rpr_right x hb h]
      simp
    rw [this]
    rfl
theorem mend_len (b : Nat) (Y : List It) : (mend b Y).length ≤ Y.length := by
  unfold mend
  split
  · simp
  · rw [List.length_map]
    exact List.length_filter_le _ _
theorem mend_fine {b : Nat} {Y : List It} (h : Fine Y) : Fine (mend b Y) := by
  unfold mend
  split
  · intro x hx; simp at hx
  · rename_i hb
    intro y hy
    obtain ⟨x, hx, rfl⟩ := List.mem_map.1 hy
    obtain ⟨h1, h2⟩ := h x (List.mem_filter.1 hx).1
    refine ⟨h1, ?_⟩
    show -9223372036854775808 ≤ cN x.mask b x.cpu
    unfold cN
    rw [if_neg hb]
    split
    · exact h2
    · omega
theorem take_one (Y : List It) {k : Nat} (h : k < Y.length) : Y.take (k + 1) = Y.take k ++ [Y.getD k zi] := by
  rw [List.take_succ_eq_append_getElem h, List.getD_eq_getElem?_getD, List.getElem?_eq_getElem h]
  rfl
theorem get_mem (Y : List It) {k : Nat} (h : k < Y.length) : Y.getD k zi ∈ Y := by
  rw [List.getD_eq_getElem?_getD, List.getElem?_eq_getElem h]
  exact List.getElem_mem _
/-- What comes of the first k. -/
theorem mend_miss {b : Nat} (Y : List It) {k : Nat} (h : k < Y.length) (e : wrg b (Y.getD k zi) = false) : mend b (Y.take (k + 1)) = mend b (Y.take k) := by
  unfold mend
  rw [take_one Y h]
  generalize Y.getD k zi = y at *
  rw [List.filter_append, List.filter_cons, e]
  simp
theorem mend_hit {b : Nat} (Y : List It) {k : Nat} (hb : b ≠ 0) (h : k < Y.length) (e : wrg b (Y.getD k zi) = true) : mend b (Y.take (k + 1)) = mend b (Y.take k) ++ [rpr b (Y.getD k zi)] := by
  unfold mend
  rw [if_neg hb, if_neg hb, take_one Y h]
  generalize Y.getD k zi = y at *
  rw [List.filter_append, List.filter_cons, e, List.map_append]
  simp

/-- Things that came in. -/
def cam (len : Nat) (X : Nat → Nat → Int) : List It := (List.range len).map fun i => ⟨X i 0, (X i 1).toNat, X i 2, X i 3 != 0⟩
theorem cam_len (len : Nat) (X : Nat → Nat → Int) : (cam len X).length = len := by simp [cam]
theorem cam_get {len : Nat} {X : Nat → Nat → Int} {k : Nat} (h : k < len) : (cam len X).getD k zi = ⟨X k 0, (X k 1).toNat, X k 2, X k 3 != 0⟩ := by
  unfold cam
  rw [List.getD_eq_getElem?_getD, List.getElem?_map, List.getElem?_range h]
  rfl
theorem cam_row {w : World} {v : Value} {len : Nat} {X : Nat → Nat → Int} (h : TRow w v len [1, 2, 1, 0] X) (hz : ∀ i, i < len → ∀ j, j < [1, 2, 1, 0].length → kwf ([1, 2, 1, 0].getD j 1) (X i j)) : IRow w v (cam len X) ∧ Fine (cam len X) := by
  refine ⟨?_, ?_⟩
  · rcases h with ⟨h0, a, cap, hv⟩ | ⟨b, off, cap, hv, hb, hc⟩
    · subst h0
      exact Or.inl ⟨rfl, a, cap, hv⟩
    · refine Or.inr ⟨b, off, cap, by rw [cam_len]; exact hv, hb, fun i hi j hj => ?_⟩
      rw [cam_len] at hi
      have q := hc i hi j hj
      have hw : (Lit.int .u64 (X i 1)).wf = true := hz i hi 1 (by decide)
      have h0 := (bounds_u64 hw).1
      rw [cam_get hi]
      match j, hj with
      | 0, _ => exact q
      | 1, _ => refine q.trans ?_; show some (Value.int .u64 (X i 1)) = some (Value.int .u64 (((X i 1).toNat : Nat) : Int)); rw [Int.toNat_of_nonneg h0]
      | 2, _ => exact q
      | 3, _ => exact q
  · intro x hx
    obtain ⟨i, hi, rfl⟩ := List.mem_map.1 hx
    have hi2 : i < len := by simpa using hi
    have hw : (Lit.int .u64 (X i 1)).wf = true := hz i hi2 1 (by decide)
    have hv : (Lit.int .i64 (X i 2)).wf = true := hz i hi2 2 (by decide)
    have a1 := bounds_u64 hw
    have a2 := bounds_i64 hv
    exact ⟨by show (X i 1).toNat < _; omega, a2.1⟩
end Go.Proofs.YtghnpmkibnggeaaDoor
