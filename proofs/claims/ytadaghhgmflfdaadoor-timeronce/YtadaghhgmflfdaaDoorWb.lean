/- Lists of things of two cells each, in memory of their own: what they hold, what copies, clears and stores do to them. No program in it. -/
import Derived.Test.YtadaghhgmflfdaaDoorFg
import Derived.Test.YtadaghhgmflfdaaDoorFz
import Derived.Test.YtadaghhgmflfdaaDoorWm
import Derived.Lib.AppendZerosOnto
import Derived.Lib.Overlaps
import Derived.Laws.CopyRow
import Derived.WalkKit
import Derived.ProofKit
namespace Go.Proofs.YtadaghhgmflfdaaDoor
open Go.ChangeShapes Go.WideShapes Go.ChangeAt Go.RowKit
open Wm

def cel (x : It) : List Value := [.int .i64 x.2, .int .i64 x.1]
def cls (L : List It) : List Value := L.flatMap cel
theorem cls_cons (x : It) (L : List It) : cls (x :: L) = .int .i64 x.2 :: .int .i64 x.1 :: cls L := rfl
theorem cls_len (L : List It) : (cls L).length = L.length * 2 := by
  induction L with
  | nil => rfl
  | cons x L ih => rw [cls_cons, List.length_cons, List.length_cons, List.length_cons, ih]; omega
theorem cls_app (A B : List It) : cls (A ++ B) = cls A ++ cls B := List.flatMap_append
theorem cls_get : ∀ (L : List It) (i : Nat) (x : It), L[i]? = some x → (cls L)[i * 2]? = some (.int .i64 x.2) ∧ (cls L)[i * 2 + 1]? = some (.int .i64 x.1)
  | [], i, x, h => by simp at h
  | y :: L, 0, x, h => by
    simp at h
    subst h
    exact ⟨rfl, rfl⟩
  | y :: L, i + 1, x, h => by
    have := cls_get L i x (by simpa using h)
    rw [cls_cons, show (i + 1) * 2 = i * 2 + 1 + 1 by omega]
    simpa using this
theorem cls_take : ∀ (L : List It) (k : Nat), (cls L).take (k * 2) = cls (L.take k)
  | [], k => by simp [cls]
  | y :: L, 0 => by simp [cls]
  | y :: L, k + 1 => by
    rw [cls_cons, show (k + 1) * 2 = k * 2 + 1 + 1 by omega, List.take_succ_cons, List.take_succ_cons, List.take_succ_cons, cls_cons, cls_take L k]
theorem cls_drop : ∀ (L : List It) (k : Nat), (cls L).drop (k * 2) = cls (L.drop k)
  | [], k => by simp [cls]
  | y :: L, 0 => by simp
  | y :: L, k + 1 => by
    rw [cls_cons, show (k + 1) * 2 = k * 2 + 1 + 1 by omega, List.drop_succ_cons, List.drop_succ_cons, List.drop_succ_cons, cls_drop L k]
theorem cls_one (L : List It) : ∀ v ∈ cls L, v.oneCell' = true := by
  intro v hv
  obtain ⟨x, _, hx⟩ := List.mem_flatMap.1 hv
  unfold cel at hx
  simp at hx
  rcases hx with rfl | rfl <;> rfl
theorem cls_nil (L : List It) (h : cls L = []) : L = [] := by
  have := cls_len L
  rw [h] at this
  exact List.eq_nil_of_length_eq_zero (by simp at this; omega)

/-- v is a slice of one's own that holds L. -/
def Own (t : TypeId) (w : World) (v : Value) (L : List It) : Prop := w.ownsRow 0 t 2 v L.length (cls L)

theorem own_nil (t : TypeId) (w : World) : Own t w (.slice none 0 0) [] := World.ownsRow_nil w 0 t 2
theorem Own.cases {t : TypeId} {w : World} {v : Value} {L : List It} (h : Own t w v L) : (v = .slice none 0 0 ∧ L = []) ∨ ∃ (g cap : Nat) (cur : List Value), v = .slice (some ⟨g, 0, none⟩) L.length cap ∧ Blk w g cur t ∧ L.length ≤ cap ∧ cap ≤ maxLen ∧ cur.length = cap * 2 ∧ cur.take (L.length * 2) = cls L := by
  rcases h.2 with ⟨h1, h2⟩ | ⟨g, cap, cur, h1, _, h2, h3, h4, h5, h6⟩
  · exact Or.inl ⟨h1, List.eq_nil_of_length_eq_zero h2⟩
  · exact Or.inr ⟨g, cap, cur.toList, h1, by unfold Blk; rw [Array.toArray_toList]; exact h2, h3, h4, by rw [Array.length_toList]; exact h5, h6⟩
theorem own_mk {t : TypeId} {w : World} {g n cap : Nat} {cur : List Value} {L : List It} (h : Blk w g cur t) (hn : n = L.length) (h1 : L.length ≤ cap) (h2 : cap ≤ maxLen) (h3 : cur.length = cap * 2) (h4 : cur.take (L.length * 2) = cls L) : Own t w (.slice (some ⟨g, 0, none⟩) n cap) L := by
  subst hn
  exact ⟨cls_len L, Or.inr ⟨g, cap, cur.toArray, rfl, Nat.zero_le _, h, h1, h2, by simpa using h3, by simpa using h4⟩⟩
theorem Own.shape {t : TypeId} {w : World} {v : Value} {L : List It} (h : Own t w v L) : ∃ a cap, v = .slice a L.length cap := owng_shape h
theorem Own.keep {B : Nat} {S : List Nat} {t : TypeId} {w w' : World} {v : Value} {L : List It} (h : Own t w v L) (f : Fr B S w w') (hg : ∀ g, v.ownBlock = some g → g < B ∧ g ∉ S) : Own t w' v L := owng_keep h f hg
theorem Own.lt {t : TypeId} {w : World} {v : Value} {L : List It} (h : Own t w v L) {g : Nat} (e : v.ownBlock = some g) : g < w.heap.size := owng_lt h e
theorem Own.heap {t : TypeId} {w w1 : World} {v : Value} {L : List It} (h : Own t w v L) (e : w1.heap = w.heap) : Own t w1 v L := by
  rcases h.cases with ⟨rfl, rfl⟩ | ⟨g, cap, cur, rfl, hb, h1, h2, h3, h4⟩
  · exact own_nil t w1
  · exact own_mk (hb.heap e) rfl h1 h2 h3 h4
theorem Own.ne {t u : TypeId} {w : World} {v : Value} {L : List It} {b : Nat} {cs : List Value} (h : Own t w v L) (k : Blk w b cs u) (ne : t ≠ u) {g : Nat} (e : v.ownBlock = some g) : b ≠ g := owng_ne h k ne e
/-- What cells of it hold. -/
theorem Own.cell {t : TypeId} {w : World} {a : Option Addr} {n cap : Nat} {L : List It} (h : Own t w (.slice a n cap) L) {i : Nat} (hi : i < L.length) : ∃ g, a = some ⟨g, 0, none⟩ ∧ ∀ x, L[i]? = some x → w.cell? ⟨g, i * 2, none⟩ = some (.int .i64 x.2) ∧ w.cell? ⟨g, i * 2 + 1, none⟩ = some (.int .i64 x.1) := by
  rcases h.cases with ⟨_, rfl⟩ | ⟨g, c, cur, e, hb, h1, h2, h3, h4⟩
  · simp at hi
  · simp only [Value.slice.injEq] at e
    refine ⟨g, e.1, fun x hx => ?_⟩
    obtain ⟨c1, c2⟩ := cls_get L i x hx
    rw [← h4, List.getElem?_take] at c1 c2
    rw [if_pos (by omega)] at c1 c2
    rw [hb.cell, hb.cell]
    exact ⟨c1, c2⟩
theorem Own.cells {t : TypeId} {w : World} {g n cap : Nat} {L : List It} (h : Own t w (.slice (some ⟨g, 0, none⟩) n cap) L) (k : Nat) : ∀ j v, (cls (L.drop k))[j]? = some v → w.cell? ⟨g, k * 2 + j, none⟩ = some v := by
  intro j v hj
  rcases h.cases with ⟨e, _⟩ | ⟨g2, c, cur, e, hb, h1, h2, h3, h4⟩
  · simp at e
  · simp only [Value.slice.injEq, Option.some.injEq, Addr.mk.injEq] at e
    obtain ⟨⟨rfl, _⟩, _⟩ := e
    have hl := (List.getElem?_eq_some_iff.1 hj).1
    rw [cls_len, List.length_drop] at hl
    rw [← cls_drop, List.getElem?_drop, ← h4, List.getElem?_take, if_pos (by omega)] at hj
    rw [hb.cell]
    exact hj

/- Stores of a row of cells. -/
theorem blk_setCells (g : Nat) (t : TypeId) : ∀ (vs : List Value) (o : Nat) (cur : List Value) (w : World), Blk w g cur t → o + vs.length ≤ cur.length → Blk (w.setCells g o vs) g (cur.take o ++ vs ++ cur.drop (o + vs.length)) t
  | [], o, cur, w, h, _ => by
    show Blk w g _ t
    simpa using h
  | v :: r, o, cur, w, h, hl => by
    have := blk_setCells g t r (o + 1) (cur.set o v) (w.setCell ⟨g, o, none⟩ v) (h.set o v) (by simp at hl ⊢; omega)
    rw [list_seg_step cur o v r (by simpa using hl)] at this
    exact this
theorem fr_setCells {B : Nat} {S : List Nat} {a : World} (g : Nat) (hg : B ≤ g ∨ g ∈ S) : ∀ (vs : List Value) (o : Nat) (w : World), Fr B S a w → Fr B S a (w.setCells g o vs)
  | [], _, _, h => h
  | v :: r, o, _, h => fr_setCells g hg r (o + 1) _ (h.setCell hg v)
theorem heap_setCells (g : Nat) : ∀ (vs : List Value) (o : Nat) (w w1 : World), w1.heap = w.heap → (w1.setCells g o vs).heap = (w.setCells g o vs).heap
  | [], _, _, _, h => h
  | v :: r, o, w, w1, h => heap_setCells g r (o + 1) _ _ (by simp [World.setCell, h])
theorem sp_get {α : Type} (cur vs : List α) (o : Nat) (h : o + vs.length ≤ cur.length) (k : Nat) : (cur.take o ++ vs ++ cur.drop (o + vs.length))[k]? = if o ≤ k ∧ k < o + vs.length then vs[k - o]? else cur[k]? := by
  have lt : (cur.take o).length = o := by simp; omega
  rw [List.append_assoc, List.getElem?_append, lt]
  by_cases c1 : k < o
  · rw [if_pos c1, if_neg (by omega), List.getElem?_take, if_pos c1]
  · rw [if_neg c1, List.getElem?_append]
    by_cases c2 : k - o < vs.length
    · rw [if_pos c2, if_pos (by omega)]
    · rw [if_neg c2, if_neg (by omega), List.getElem?_drop]
      congr 1
      omega
theorem sp_len {α : Type} (cur vs : List α) (o : Nat) (h : o + vs.length ≤ cur.length) : (cur.take o ++ vs ++ cur.drop (o + vs.length)).length = cur.length := by simp; omega

theorem take_is {α : Type} {l m : List α} {k : Nat} (hk : m.length = k) (h : ∀ j, j < k → l[j]? = m[j]?) : l.take k = m := by
  apply List.ext_getElem?
  intro j
  rw [List.getElem?_take]
  by_cases c : j < k
  · rw [if_pos c]
    exact h j c
  · rw [if_neg c, List.getElem?_eq_none (by omega)]

section
variable {P : Program}
/-- copy, where an element has whatever number of cells. -/
theorem run_copy_k (w : World) (dT sT ty elem : TypeId) (size b o dLen dCap : Nat) (a : Addr) (sLen sCap m : Nat) (cs : List Value)
    (hu : P.underlying dT = some (.slice elem)) (hs : (P.info? elem).map (·.size) = some size) (hm : m = Nat.min sLen dLen) (hn : cs.length = m * size)
    (hsrc : ∀ j v, cs[j]? = some v → w.cell? (a.add j) = some v) (hc : ∀ j, j < cs.length → (w.cell? ⟨b, o + j, none⟩).isSome = true) (hf : ∀ j, j < cs.length → w.frozen? ⟨b, o + j, none⟩ = false) (h1 : ∀ v ∈ cs, v.oneCell' = true) :
    (Builtin.copy_ #[dT, sT] ty #[.slice (some ⟨b, o, none⟩) dLen dCap, .slice (some a) sLen sCap]).run P w = .ok (goInt m) (w.setCells b o cs) := by
  have hfc := run_firstCells_some (P := P) w size m a sLen sCap cs hn hsrc
  have hst := run_storeCells_cells (P := P) b o cs 0 w (by simpa using hc) (by simpa using hf) h1
  simp only [Nat.add_zero] at hst
  cases hq : P.info? elem with
  | none => simp [hq] at hs
  | some i =>
    have hi : i.size = size := by simpa [hq] using hs
    simp [Builtin.copy_, run_underlying hu, Builtin.lenOf, sizeOf, typeInfo, hq, hi, ← hm, hfc, hst]
/-- clear, of one element of two cells. -/
theorem run_clear_one (w : World) (t e ty : TypeId) (ht : P.underlying t = some (.slice e)) (hv : ∀ w, (zeroValue e).run P w = .ok (.agg #[.int .i64 0, .int .i64 0]) w) (b o c : Nat)
    (hc : ∀ j, j < 2 → (w.cell? ⟨b, o + j, none⟩).isSome = true) (hf : ∀ j, j < 2 → w.frozen? ⟨b, o + j, none⟩ = false) :
    (Builtin.clear_ #[t] ty #[.slice (some ⟨b, o, none⟩) 1 c]).run P w = .ok (.tuple #[]) (w.setCells b o [.int .i64 0, .int .i64 0]) := by
  have hzc : (Builtin.zeroCells (Value.agg #[.int .i64 0, .int .i64 0]).cells 1).toList = [.int .i64 0, .int .i64 0] := by kernel_rfl
  have hst := run_storeCells_cells (P := P) b o [.int .i64 0, .int .i64 0] 0 w (by simpa using hc) (by simpa using hf) (by intro v hv'; simp at hv'; subst hv'; rfl)
  simp only [Nat.add_zero] at hst
  simp [Builtin.clear_, run_underlying ht, hv, hzc, hst]
end
end Go.Proofs.YtadaghhgmflfdaaDoor
