/- More words for memory: lists that a loop gathers by append, cells of rows, worlds that differ by draws alone. No program in it. -/
import Derived.Test.YtijicghdmlfheaaFw
namespace Go.Proofs.Ytijicghdmlfheaa
open Go.ChangeShapes Go.WideShapes Go.ChangeAt Go.RowKit

theorem Row.shape {w : World} {v : Value} {xs : List Int} (h : Row w v xs) : ∃ a cap, v = .slice a xs.length cap := by
  rcases h with ⟨rfl, a, cap, rfl⟩ | ⟨b, off, cap, rfl, _⟩
  · exact ⟨a, cap, rfl⟩
  · exact ⟨_, cap, rfl⟩

/-- What has been gathered so far: v owns it; nothing that was there has turned. -/
structure Gt (w wr : World) (v : Value) (G : List Int) : Prop where
  own : wr.ownsRow w.heap.size 3 1 v G.length (G.map (Value.int .i64))
  bel : Below w.heap.size w wr

theorem gt_start (w : World) : Gt w w (.slice none 0 0) [] := ⟨World.ownsRow_nil _ _ _ _, Below.refl _ _⟩

theorem gt_app {w wr w1 : World} {v v' : Value} {G : List Int} {x : Int} {o : Obj} (g : Gt w wr v G)
    (hown' : w1.ownsRow w.heap.size 3 1 v' (G.length + 1) (G.map (Value.int .i64) ++ [.int .i64 x])) (hgrow : (wr.alloc o).grownBy w1 v.ownBlock) : Gt w w1 v' (G ++ [x]) := by
  have hs := g.bel.size
  refine ⟨?_, (g.bel.alloc hs o).grown hgrow (by simp; omega) (fun j hj => (g.own.lt j hj).1)⟩
  simpa using hown'

theorem own_shape {w : World} {base : Nat} {t : TypeId} {v : Value} {n : Nat} {xs : List Value} (h : w.ownsRow base t 1 v n xs) : ∃ a cap, v = .slice a n cap := by
  rcases h.2 with ⟨rfl, rfl⟩ | ⟨g, cap, cur, rfl, _⟩
  · exact ⟨none, 0, rfl⟩
  · exact ⟨_, cap, rfl⟩

theorem own_base {w : World} {base base' : Nat} {t : TypeId} {v : Value} {n : Nat} {xs : List Value} (h : w.ownsRow base t 1 v n xs) (hb : base' ≤ base) : w.ownsRow base' t 1 v n xs := by
  refine ⟨h.1, ?_⟩
  rcases h.2 with hn | ⟨g, cap, cur, hv, hg, rest⟩
  · exact Or.inl hn
  · exact Or.inr ⟨g, cap, cur, hv, Nat.le_trans hb hg, rest⟩

theorem take_snoc (xs : List Int) (k : Nat) (h : k < xs.length) : xs.take (k + 1) = xs.take k ++ [xs.getD k 0] := by
  rw [List.take_succ_eq_append_getElem h]
  simp [List.getD, h]

theorem row_new (w : World) (xs : List Int) (t : TypeId) (n cap : Nat) (hn : n = xs.length) : Row (w.alloc (.cells (xs.map (Value.int .i64)).toArray t)) (.slice (some ⟨w.heap.size, 0, none⟩) n cap) xs := by
  subst hn
  exact row_of_blk (Blk.new w _ t) cap

theorem fr_own {B : Nat} {S : List Nat} {w0 w w' : World} (h : Below B w0 w) (f : Fr w.heap.size S w w') (hB : B ≤ w.heap.size) (hS : ∀ k ∈ S, B ≤ k) : Below B w0 w' := h.trans ((f.less hB).below hS)

theorem row_cell {w wr : World} {a : Option Addr} {len cap : Nat} {xs : List Int} (h : Row w (.slice a len cap) xs) (hl : xs.length = len) (hb : Below w.heap.size w wr) {k : Nat} (hk : (k : Int) < len) :
    ∃ b off, a = some ⟨b, off, none⟩ ∧ wr.cell? ⟨b, off + k, none⟩ = some (.int .i64 (xs.getD k 0)) := by
  rcases h with ⟨rfl, _⟩ | ⟨b, off, c, hv, hlt, hc⟩
  · simp at hl
    omega
  · simp only [Value.slice.injEq] at hv
    exact ⟨b, off, hv.1, (hb.cell (p := ⟨b, off + k, none⟩) hlt).trans (hc k (by omega))⟩

theorem own_cell {w : World} {base : Nat} {a : Option Addr} {n cap : Nat} {xs : List Int} (h : w.ownsRow base 3 1 (.slice a n cap) n (xs.map (Value.int .i64))) {k : Nat} (hk : (k : Int) < n) :
    ∃ b, a = some ⟨b, 0, none⟩ ∧ w.cell? ⟨b, k, none⟩ = some (.int .i64 (xs.getD k 0)) := by
  have hl : xs.length = n := by have := h.1; simpa using this
  subst hl
  rcases row_of_owns h with ⟨rfl, _⟩ | ⟨b, off, c, hv, hlt, hc⟩
  · simp at hk
    omega
  · rcases h.2 with ⟨_, e⟩ | ⟨g, c2, cur, e, _⟩
    · omega
    · simp only [Value.slice.injEq] at hv e
      have e2 := hv.1.symm.trans e.1
      simp only [Option.some.injEq, Addr.mk.injEq] at e2
      obtain ⟨rfl, rfl, _⟩ := e2
      have := hc k (by omega)
      rw [Nat.zero_add] at this
      exact ⟨b, hv.1, this⟩

/-- One world but for draws. -/
def Sm (w1 w : World) : Prop := w1.heap = w.heap ∧ w1.os = w.os ∧ w1.tape = w.tape ∧ w1.output = w.output

theorem Sm.below {B : Nat} {w w1 w2 : World} (h : Sm w2 w1) (b : Below B w w1) : Below B w w2 := by
  obtain ⟨e1, e2, e3, e4⟩ := h
  exact ⟨e2.trans b.os, e3.trans b.tape, e4.trans b.output, by rw [e1]; exact b.size, fun k hk => by rw [e1]; exact b.block k hk⟩
theorem Sm.from {B : Nat} {w w1 w2 : World} (h : Sm w1 w) (b : Below B w1 w2) : Below B w w2 := by
  obtain ⟨e1, e2, e3, e4⟩ := h
  exact ⟨b.os.trans e2, b.tape.trans e3, b.output.trans e4, by rw [← e1]; exact b.size, fun k hk => by rw [← e1]; exact b.block k hk⟩

theorem Sm.fr {B : Nat} {S : List Nat} {w w1 w2 : World} (h : Sm w1 w) (b : Fr B S w1 w2) : Fr B S w w2 := by
  obtain ⟨e1, e2, e3, e4⟩ := h
  exact ⟨b.os.trans e2, b.tape.trans e3, b.output.trans e4, by rw [← e1]; exact b.size, fun k hk hs => by rw [← e1]; exact b.block k hk hs⟩
theorem Fr.st {B : Nat} {S : List Nat} {a w : World} (h : Fr B S a w) (g i : Nat) (u : Value) (hg : g ∈ S) : Fr B S a (w.setCell ⟨g, i, none⟩ u) := h.setCell (p := ⟨g, i, none⟩) (Or.inr hg) u
end Go.Proofs.Ytijicghdmlfheaa
