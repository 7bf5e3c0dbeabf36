/- Slices of structs that have a fixed number of cells, as lists of plain records: as they lie in memory, and as a loop gathers them by append. No program in it. -/
import Derived.Test.YtijicghdmlfheaaFg
import Derived.Test.YtijicghdmlfheaaFz
import Derived.Test.YtijicghdmlfheaaFs
namespace Go.Proofs.Ytijicghdmlfheaa
open Go.ChangeShapes Go.WideShapes Go.ChangeAt Go.RowKit

/-- How records lie in memory: each as n cells of one value each. -/
structure Lay (α : Type) where
  n : Nat
  f : α → List Value
  z : α
  len : ∀ x, (f x).length = n
  one : ∀ x, ∀ u ∈ f x, u.oneCell' = true
  pos : 0 < n

section
variable {α : Type} {L : Lay α}
def Lay.all (L : Lay α) (Y : List α) : List Value := Y.flatMap L.f
theorem lay_cons (x : α) (Y : List α) : L.all (x :: Y) = L.f x ++ L.all Y := rfl
theorem lay_app (X Y : List α) : L.all (X ++ Y) = L.all X ++ L.all Y := by unfold Lay.all; rw [List.flatMap_append]
theorem lay_one (x : α) : L.all [x] = L.f x := by simp [Lay.all]
theorem lay_at (Y : List α) (k j : Nat) (h : k < Y.length) (hj : j < L.n) : (L.all Y)[k * L.n + j]? = (L.f (Y.getD k L.z))[j]? := by
  induction Y generalizing k with
  | nil => simp at h
  | cons x r ih =>
    have hx := L.len x
    rw [lay_cons]
    cases k with
    | zero => rw [List.getElem?_append_left (by omega), Nat.zero_mul, Nat.zero_add]; rfl
    | succ k =>
      have e : (k + 1) * L.n = k * L.n + L.n := Nat.succ_mul k L.n
      rw [List.getElem?_append_right (by omega), show (k + 1) * L.n + j - (L.f x).length = k * L.n + j by omega, ih k (by simpa using h)]
      rfl

/-- A slice of such records, as they lie in memory. -/
def LRow (L : Lay α) (w : World) (v : Value) (Y : List α) : Prop :=
  (Y = [] ∧ ∃ a cap, v = .slice a 0 cap) ∨ ∃ b off cap, v = .slice (some ⟨b, off, none⟩) Y.length cap ∧ b < w.heap.size ∧ ∀ i, i < Y.length → ∀ j, j < L.n → w.cell? ⟨b, off + i * L.n + j, none⟩ = (L.f (Y.getD i L.z))[j]?

theorem LRow.shape {w : World} {v : Value} {Y : List α} (h : LRow L w v Y) : ∃ a cap, v = .slice a Y.length cap := by
  rcases h with ⟨rfl, a, cap, rfl⟩ | ⟨b, off, cap, rfl, _⟩
  · exact ⟨a, cap, rfl⟩
  · exact ⟨_, cap, rfl⟩
theorem LRow.below {w w' : World} {v : Value} {Y : List α} (h : LRow L w v Y) (f : Below w.heap.size w w') : LRow L w' v Y := by
  rcases h with h | ⟨b, off, cap, hv, hb, hc⟩
  · exact Or.inl h
  · exact Or.inr ⟨b, off, cap, hv, Nat.lt_of_lt_of_le hb f.size, fun i hi j hj => (f.cell (p := ⟨b, off + i * L.n + j, none⟩) hb).trans (hc i hi j hj)⟩
theorem LRow.heap {w w1 : World} {v : Value} {Y : List α} (h : LRow L w v Y) (e : w1.heap = w.heap) : LRow L w1 v Y := by
  rcases h with h | ⟨b, off, cap, hv, hb, hc⟩
  · exact Or.inl h
  · exact Or.inr ⟨b, off, cap, hv, by rw [e]; exact hb, fun i hi j hj => (World.cell?_of_block (w := w) (by rw [e])).trans (hc i hi j hj)⟩
/-- The cells of the k-th. -/
theorem lrow_cell {w : World} {a : Option Addr} {n cap : Nat} {Y : List α} (h : LRow L w (.slice a n cap) Y) {k : Nat} (hk : k < Y.length) :
    ∃ b off, a = some ⟨b, off, none⟩ ∧ b < w.heap.size ∧ ∀ j, j < L.n → w.cell? ⟨b, off + k * L.n + j, none⟩ = (L.f (Y.getD k L.z))[j]? := by
  rcases h with ⟨rfl, _⟩ | ⟨b, off, c, hv, hlt, hc⟩
  · simp at hk
  · simp only [Value.slice.injEq] at hv
    exact ⟨b, off, hv.1, hlt, fun j hj => hc k hk j hj⟩
/-- Where the slice's place is known: the cells of the k-th in any world that has them. -/
theorem lrow_at {w : World} {b off n cap : Nat} {Y : List α} (h : LRow L w (.slice (some ⟨b, off, none⟩) n cap) Y) {k : Nat} (hk : k < Y.length) : ∀ j, j < L.n → w.cell? ⟨b, off + k * L.n + j, none⟩ = (L.f (Y.getD k L.z))[j]? := by
  obtain ⟨b', off', e, _, d⟩ := lrow_cell h hk
  simp only [Option.some.injEq, Addr.mk.injEq, and_true] at e
  obtain ⟨rfl, rfl⟩ := e
  exact d
theorem lrow_new (w : World) (Y : List α) (t : TypeId) (n cap : Nat) (hn : n = Y.length) : LRow L (w.alloc (.cells (L.all Y).toArray t)) (.slice (some ⟨w.heap.size, 0, none⟩) n cap) Y := by
  subst hn
  exact Or.inr ⟨_, 0, cap, rfl, (Blk.new w (L.all Y) t).lt, fun i hi j hj => by rw [Nat.zero_add, (Blk.new w (L.all Y) t).cell, lay_at Y i j hi hj]⟩

/-- What has been gathered so far: v owns it; nothing that was there has turned. -/
structure LG (L : Lay α) (t : TypeId) (w wr : World) (v : Value) (Y : List α) : Prop where
  own : wr.ownsRow w.heap.size t L.n v Y.length (L.all Y)
  bel : Below w.heap.size w wr

theorem lg_start (L : Lay α) (t : TypeId) (w : World) : LG L t w w (.slice none 0 0) [] := ⟨World.ownsRow_nil _ _ _ _, Below.refl _ _⟩
theorem LG.row {t : TypeId} {w wr : World} {v : Value} {Y : List α} (g : LG L t w wr v Y) : LRow L wr v Y := by
  rcases g.own.2 with ⟨hv, hn⟩ | ⟨b, cap, cur, hv, hb, hh, hn, hc, hz, ht⟩
  · exact Or.inl ⟨List.eq_nil_of_length_eq_zero hn, none, 0, hv⟩
  · have o := g.own
    rw [hv] at o
    refine Or.inr ⟨b, 0, cap, hv, lt_of_block hh, fun i hi j hj => ?_⟩
    have e : (i + 1) * L.n ≤ Y.length * L.n := Nat.mul_le_mul_right _ hi
    rw [Nat.succ_mul] at e
    rw [Nat.zero_add, o.cellAt _ (by omega), lay_at Y i j hi hj]

/-- One more: what a new block and an append make of it. -/
theorem lg_app {P : Program} (t ts ty : TypeId) (i0 : TypeInfo) (z : Value) (bytes : Nat) (ht : P.underlying ts = some (.slice t)) (hi : P.info? t = some i0) (hz0 : i0.zero = some z) (hz1 : i0.size = L.n) (hz2 : i0.bytes = bytes) (hzs : z.cells.size = L.n)
    {w wr w1 wb : World} {v : Value} {Y : List α} (x : α) (g : LG L t w wr v Y) (e : Below wr.heap.size wr w1) (hb : Sm wb (w1.alloc (.cells (L.f x).toArray t))) (hl : Y.length + 1 ≤ maxLen) (hr : (Y.length + 1) * bytes ≤ 140737488355328) :
    ∃ v' w2, (Builtin.append_ #[ts, ts] ty #[v, .slice (some ⟨w1.heap.size, 0, none⟩) 1 1]).run P wb = .ok v' w2 ∧ LG L t w w2 v' (Y ++ [x]) := by
  have hs := g.bel.size
  have he := e.size
  have nb : Blk wb w1.heap.size (L.f x) t := (Blk.new w1 _ _).heap hb.1
  have bel : Below w.heap.size w wb := hb.below ((g.bel.trans (e.mono hs)).alloc (by omega) _)
  have o0 : (w1.alloc (.cells (L.f x).toArray t)).ownsRow w.heap.size t L.n v Y.length (L.all Y) := (owng_keep g.own (Fr.of_below e) fun k q => ⟨owng_lt g.own q, by simp⟩).alloc _
  have o1 : wb.ownsRow w.heap.size t L.n v Y.length (L.all Y) := ⟨o0.1, by rw [hb.1]; exact o0.2⟩
  have hsz : wb.heap.size = w1.heap.size + 1 := by rw [hb.1]; simp
  obtain ⟨v', w2, hrun, r1, r2, _⟩ := run_append_own (P := P) wb w.heap.size ts ty t i0 z L.n bytes ht hi hz0 hz1 hz2 hzs L.pos v Y.length (L.all Y) o1 ⟨w1.heap.size, 0, none⟩ 1 1 (L.f x) (by rw [L.len, Nat.one_mul]) (fun j u hj => by
    rw [Addr.add_lit, Nat.zero_add, nb.cell]
    exact hj) (L.one x) hl hr (by omega)
  refine ⟨v', w2, hrun, ?_, bel.grown r2 (by omega) (fun j hj => ?_)⟩
  · rw [lay_app, lay_one, List.length_append]
    exact r1
  · rcases g.own.2 with ⟨q, _⟩ | ⟨g', cap, cur, q, hb, _⟩
    · rw [q] at hj; cases hj
    · rw [q] at hj
      simp [Value.ownBlock] at hj
      omega

theorem take_one' (Y : List α) (z : α) {k : Nat} (h : k < Y.length) : Y.take (k + 1) = Y.take k ++ [Y.getD k z] := by
  rw [List.take_succ_eq_append_getElem h]
  simp [List.getD, h]

/-- A list of one's own in a field: the cells of the k-th. -/
theorem lown_cell {w : World} {t : TypeId} {a : Option Addr} {n cap : Nat} {Y : List α} (h : w.ownsRow 0 t L.n (.slice a n cap) Y.length (L.all Y)) {k : Nat} (hk : k < Y.length) :
    ∃ g, a = some ⟨g, 0, none⟩ ∧ n = Y.length ∧ ∀ j, j < L.n → w.cell? ⟨g, k * L.n + j, none⟩ = (L.f (Y.getD k L.z))[j]? := by
  rcases h.2 with ⟨e, e2⟩ | ⟨g, cap', cur, e, _, _, hc, _⟩
  · omega
  · simp only [Value.slice.injEq] at e
    obtain ⟨rfl, rfl, rfl⟩ := e
    refine ⟨g, rfl, rfl, fun j hj => ?_⟩
    have e : (k + 1) * L.n ≤ Y.length * L.n := Nat.mul_le_mul_right _ hk
    rw [Nat.succ_mul] at e
    rw [h.cellAt _ (by omega), lay_at Y k j hk hj]
/-- One more behind it. -/
theorem lown_app {P : Program} (w : World) (t ts ty : TypeId) (i0 : TypeInfo) (z : Value) (bytes : Nat) (ht : P.underlying ts = some (.slice t)) (hi : P.info? t = some i0) (hz0 : i0.zero = some z) (hz1 : i0.size = L.n) (hz2 : i0.bytes = bytes) (hzs : z.cells.size = L.n) (hby : bytes ≤ 1000)
    {v : Value} {Y : List α} (x : α) (o1 : w.ownsRow 0 t L.n v Y.length (L.all Y)) (hl : Y.length + 1 ≤ 3000) :
    ∃ a2 c2 w2, (Builtin.append_ #[ts, ts] ty #[v, .slice (some ⟨w.heap.size, 0, none⟩) 1 1]).run P (w.alloc (.cells (L.f x).toArray t)) = .ok (.slice a2 (Y.length + 1) c2) w2 ∧
      w2.ownsRow 0 t L.n (.slice a2 (Y.length + 1) c2) (Y ++ [x]).length (L.all (Y ++ [x])) ∧ Fr w.heap.size v.ownBlock.toList w w2 ∧ ∀ g, (Value.slice a2 (Y.length + 1) c2).ownBlock = some g → v.ownBlock = some g ∨ w.heap.size ≤ g := by
  have hb := (Below.refl w.heap.size w).alloc (Nat.le_refl _) (.cells (L.f x).toArray t)
  have nb : Blk (w.alloc (.cells (L.f x).toArray t)) w.heap.size (L.f x) t := Blk.new w _ _
  have o2 := owng_keep o1 (Fr.of_below hb) fun g e => ⟨owng_lt o1 e, by simp⟩
  obtain ⟨v', w2, hrun, r1, r2, r3⟩ := run_appg (P := P) _ ts ty t i0 z L.n bytes ht hi hz0 hz1 hz2 hzs L.pos hby o2 ⟨w.heap.size, 0, none⟩ 1 1 (L.f x) (by rw [L.len, Nat.one_mul]) (fun j u hj => by
    rw [Addr.add_lit, Nat.zero_add, nb.cell]
    exact hj) (L.one x) hl
  obtain ⟨a2, c2, rfl⟩ := owng_shape r1
  refine ⟨a2, c2, w2, hrun, ?_, ((Fr.of_below hb).mono (Nat.le_refl _) (fun _ _ _ => by simp)).grown r2 (by simp) (fun k e => Or.inr (by simp [e])), fun g hg => (r3 g hg).imp id (fun q => by simp at q; omega)⟩
  rw [lay_app, lay_one, List.length_append]
  exact r1
/-- What a call of an object at block b leaves: all but it and its list; its list lies where it lay, or in a new block. -/
structure DL (w w' : World) (b : Nat) (v v' : Value) : Prop where
  fr : Fr w.heap.size (b :: v.ownBlock.toList) w w'
  nw : ∀ g, v'.ownBlock = some g → v.ownBlock = some g ∨ w.heap.size ≤ g
theorem DL.refl (w : World) (b : Nat) (v : Value) : DL w w b v v := ⟨Fr.refl _ _ _, fun _ h => Or.inl h⟩
theorem DL.of_fr {w w' : World} {b : Nat} {v : Value} (h : Fr w.heap.size [b] w w') : DL w w' b v v := ⟨h.mono (Nat.le_refl _) (fun _ _ h e => h (by simp at e; simp [e])), fun _ h => Or.inl h⟩

/-- A slice of structs that came in, as such records. -/
theorem lrow_of_srow {w : World} {v : Value} {n : Nat} {ks : List Bool} {X : Nat → Nat → Int} (g : Nat → α) (h : SRow w v n ks X) (hn : L.n = ks.length) (hf : ∀ i, i < n → ∀ j, j < ks.length → (L.f (g i))[j]? = some (fval (ks.getD j true) (X i j))) :
    LRow L w v ((List.range n).map g) := by
  rcases h with ⟨rfl, a, cap, rfl⟩ | ⟨b, off, cap, hv, hlt, hc⟩
  · exact Or.inl ⟨rfl, a, cap, rfl⟩
  · refine Or.inr ⟨b, off, cap, by rw [hv]; simp, hlt, fun i hi j hj => ?_⟩
    have hi' : i < n := by simpa using hi
    rw [hn] at hj ⊢
    rw [hc i hi' j hj, ← hf i hi' j hj]
    simp [List.getD, hi']

/-- An append whose outcome is known, as one step of a region that draws its order. -/
theorem step_rung {P : Program} {ops : Array Oper} {o : Oper} {a : Act} {w : World} {K : Act → World → Prop} {Q : Exit → Act → World → Prop} {E : Prop} {v u : Value} {R : Value → World → Prop}
    (hg : o.guard = none) (s x : Operand) (t : TypeId) (hop : o.op = Op.call { callee := Callee.builtin Builtin.append, args := #[s, x], argTypes := #[t, t] }) (hs : a.eval s = v) (hx : a.eval x = u)
    (hrun : ∃ v' w', (Builtin.append_ #[t, t] o.type #[v, u]).run P w = .ok v' w' ∧ R v' w') (hK : ∀ v' w', R v' w' → K (a.put o.dst v') w') :
    if Region.wanted o (yielded ops a.tmps) = true then Oper.wp P o a w K Q else E := by
  have hw : Region.wanted o (yielded ops a.tmps) = true := by simp [Region.wanted, hg]
  rw [if_pos hw]
  obtain ⟨v', w', hr, h⟩ := hrun
  unfold Oper.wp
  simp [execOp, hop, resolve, invoke, builtin, hs, hx, hr, Result.andThen]
  exact hK v' w' h

/-- An append whose outcome is known, where the order is the text's. -/
theorem wpList_rung {P : Program} {w w' : World} {ops : Array Oper} {rest : List Oper} {o : Oper} {a : Act} {Q : Exit → Act → World → Prop} {v u v' : Value}
    (hg : o.guard = none) (s x : Operand) (t : TypeId) (hop : o.op = Op.call { callee := Callee.builtin Builtin.append, args := #[s, x], argTypes := #[t, t] }) (hs : a.eval s = v) (hx : a.eval x = u)
    (hrun : (Builtin.append_ #[t, t] o.type #[v, u]).run P w = .ok v' w') (hK : wpList P ops Q rest (a.put o.dst v') w') : wpList P ops Q (o :: rest) a w := by
  refine wpList_plain hg fun K hK' => ?_
  unfold Oper.wp
  simp [execOp, hop, resolve, invoke, builtin, hs, hx, hrun, Result.andThen]
  exact hK' _ _ hK
end
end Go.Proofs.Ytijicghdmlfheaa
