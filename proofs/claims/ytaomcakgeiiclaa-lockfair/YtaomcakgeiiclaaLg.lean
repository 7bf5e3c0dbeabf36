/- A lock's line, gone through in order. -/
import Derived.Test.YtaomcakgeiiclaaRows
import Derived.Test.YtaomcakgeiiclaaLc
import Derived.Test.YtaomcakgeiiclaaFo
namespace Go.Proofs.Ytaomcakgeiiclaa
open Go.ChangeShapes Go.WideShapes Go.ChangeAt Go.RowKit
open Fm Ll

theorem tk_cases (L : List Int) (y : Int) : (tkE L y = 0 ∧ tkL L y = L ++ [y]) ∨ ((tkE L y == 0) = false ∧ tkL L y = L) := by
  unfold tkE tkL
  cases i : ic y
  · exact Or.inr ⟨by simp, by simp⟩
  · by_cases m : y ∈ L
    · exact Or.inr ⟨by simp [m], by simp [m]⟩
    · exact Or.inl ⟨by simp [m], by simp [m]⟩

theorem drop_hd (L : List Int) (i : Nat) (h : i < L.length) : (L.drop i).headD 0 = L.getD i 0 ∧ decide (L.drop i ≠ []) = true ∧ (L.drop i).tail = L.drop (i + 1) := by
  have e := List.drop_eq_getElem_cons h
  refine ⟨?_, decide_eq_true (by rw [e]; exact List.cons_ne_nil _ _), ?_⟩
  · rw [e, getD_of L i h]
    rfl
  · rw [e]
    rfl

theorem ic_at {L : List Int} (h : Ln L) (i : Nat) (hi : i < L.length) : ic (L.getD i 0) = true := by
  refine decide_eq_true (h.range _ ?_)
  rw [getD_of L i hi]
  exact List.getElem_mem hi

theorem lv_head {L : List Int} (h : Ln L) (i : Nat) (hi : i < L.length) : lvE (L.drop i) (L.getD i 0) = 0 ∧ lvL (L.drop i) (L.getD i 0) = L.drop (i + 1) := by
  obtain ⟨e1, e2, e3⟩ := drop_hd L i hi
  have o : owns (L.drop i) (L.getD i 0) = true := decide_eq_true ⟨of_decide_eq_true e2, e1⟩
  have c := ic_at h i hi
  exact ⟨by unfold lvE; rw [if_pos c, if_pos o], by unfold lvL; rw [if_pos c, if_pos o, e3]⟩

theorem lv_other {L : List Int} (h : Ln L) (i k : Nat) (hi : i < k) (hk : k < L.length) : lvE (L.drop i) (L.getD k 0) = 17 ∧ lvL (L.drop i) (L.getD k 0) = L.drop i := by
  obtain ⟨e1, _, _⟩ := drop_hd L i (by omega)
  have ne : L.getD i 0 ≠ L.getD k 0 := by
    rw [getD_of L i (by omega), getD_of L k hk]
    exact List.pairwise_iff_getElem.1 h.nodup i k (by omega) hk hi
  have o : ¬ owns (L.drop i) (L.getD k 0) = true := fun q => by
    have := (of_decide_eq_true q).2
    rw [e1] at this
    exact ne this
  have c := ic_at h k hk
  exact ⟨by unfold lvE; rw [if_pos c, if_neg o], by unfold lvL; rw [if_pos c, if_neg o]⟩

/-- A lock at block s, and the row of what was taken. -/
structure LF (w wr : World) (s : Nat) (L M : List Int) (v : Value) : Prop where
  sp : ∃ A, SP wr s A L
  own : wr.ownsRow (s + 1) 3 1 v M.length (M.map (Value.int .i64))
  bel : Below s w wr

theorem LF.lt {w wr : World} {s : Nat} {L M : List Int} {v : Value} (h : LF w wr s L M v) : s < wr.heap.size := by
  obtain ⟨A, k⟩ := h.sp
  exact k.sb.lt
theorem LF.act {w w1 w2 : World} {s : Nat} {L L2 A2 M : List Int} {v : Value} (h : LF w w1 s L M v) (k : SP w2 s A2 L2) (f : Fr w1.heap.size [s] w1 w2) : LF w w2 s L2 M v := by
  have := h.lt
  exact ⟨⟨A2, k⟩, owns_keep h.own f (Nat.le_refl _) (by simp), h.bel.trans ((f.less (by omega)).below (by simp))⟩
theorem LF.grow {w w1 w2 : World} {s : Nat} {L M : List Int} {v v2 : Value} {x : Int} {o : Obj} (h : LF w w1 s L M v) (hown : w2.ownsRow (s + 1) 3 1 v2 (M.length + 1) (M.map (Value.int .i64) ++ [.int .i64 x])) (hg : (w1.alloc o).grownBy w2 v.ownBlock) : LF w w2 s L (M ++ [x]) v2 := by
  have l := h.lt
  obtain ⟨A, k⟩ := h.sp
  have f : Fr (s + 1) [] w1 w2 := ((Fr.refl (s + 1) [] w1).alloc (by omega) o).grown hg (by simp; omega) fun k hk => Or.inl (h.own.lt k hk).1
  exact ⟨⟨A, k.keep f (by omega) (by simp)⟩, by simpa using hown, h.bel.trans ((f.less (by omega)).below (by simp))⟩
end Go.Proofs.Ytaomcakgeiiclaa
