/- Where an event's fields are: what the program's each answers; and how results that lie in memory are handed back. -/
import Derived.Test.YtmelbbojanomiabRows
import Derived.Test.YtmelbbojanomiabWi2
import Derived.WalkKit
import Derived.ProofKit
import Derived.OpenShut
import Derived.BigQuiet
import Derived.Laws.ResultCell
import Derived.Shelf.RegionOpenPlain
namespace Go.Proofs.Ytmelbbojanomiab
open Go.ChangeShapes Go.WideShapes Go.ChangeAt Go.RowKit
open Wi0

theorem results_cell1 {fn : Func} {p : Tmp} {ty : TypeId} (h : fn.results = #[.cell p ty]) (tmps : Array Value) (P : Program) (w : World) :
    (results fn tmps).run P w = ((asAddr (tmps.getD p undef)).run P w).andThen fun a w₁ => ((loadVar ty a).run P w₁).andThen fun v w₂ => .ok v w₂ := by
  simp only [results, h]
  simp [Sem.run_bind, Result.andThen]
  cases Sem.run P (asAddr (tmps[p]?.getD undef)) w with
  | ok a w => simp only []; cases Sem.run P (loadVar ty a) w <;> rfl
  | halt h w => rfl
theorem results_cell3 {fn : Func} {p u v : Tmp} {ty : TypeId} (h : fn.results = #[.cell p ty, .tmp u, .tmp v]) (tmps : Array Value) (P : Program) (w : World) :
    (results fn tmps).run P w = ((asAddr (tmps.getD p undef)).run P w).andThen fun a w₁ => ((loadVar ty a).run P w₁).andThen fun x w₂ => .ok (.tuple #[x, tmps.getD u undef, tmps.getD v undef]) w₂ := by
  simp only [results, h]
  simp [Sem.run_bind, Result.andThen]

def four (v : Nat) : List Value := [.pointer (some ⟨v, 0, none⟩), .pointer (some ⟨v, 1, none⟩), .pointer (some ⟨v, 2, none⟩), .pointer (some ⟨v, 3, none⟩)]
set_option maxRecDepth 100000 in
theorem each_ret {w : World} {z v : Nat} {tmps : Array Value} (h : Blk w z (four v) 44) (h2 : tmps.getD 2 undef = .pointer (some ⟨z, 0, none⟩)) :
    (results Try.f16 tmps).run Try.prog w = .ok (.agg (four v).toArray) w := by
  have q0 : w.cell? ⟨z, 0, none⟩ = some (.pointer (some ⟨v, 0, none⟩)) := h.cell 0
  have q1 : w.cell? ⟨z, 1, none⟩ = some (.pointer (some ⟨v, 1, none⟩)) := h.cell 1
  have q2 : w.cell? ⟨z, 2, none⟩ = some (.pointer (some ⟨v, 2, none⟩)) := h.cell 2
  have q3 : w.cell? ⟨z, 3, none⟩ = some (.pointer (some ⟨v, 3, none⟩)) := h.cell 3
  rw [results_cell1 (p := 2) (ty := 44) rfl, h2]
  simp [go_sem, q0, q1, q2, q3, four]

set_option maxRecDepth 100000 in
set_option maxHeartbeats 1000000 in
theorem each_any (w : World) (v : Nat) :
    Calls Try.prog 16 #[.pointer (some ⟨v, 0, none⟩)] w fun e w' => e = .returned (.agg (four v).toArray) ∧ Below w.heap.size w w' := by
  have B : Hid (Below w.heap.size w (w.alloc (.cells (four v).toArray 44))) := (Below.refl _ _).alloc (Nat.le_refl _) _
  go_enter Try.func16, Try.ntmps16
  go_wp2_with fail
  go_region
  all_goals (
    go_wp2
    exact bodyPost_ret (each_ret (v := v) ((Blk.new w (four v) 44).heap rfl) rfl) rfl ⟨rfl, ⟨B.out.os, B.out.tape, B.out.output, B.out.size, B.out.block⟩⟩)

/-- An event as a value. -/
def evL (e : Ev) : List Value := [.int .i64 e.kind, .int .i64 e.cpu, .int .i64 e.id, .int .u64 e.mask, .int .i64 e.n]
def evV (e : Ev) : Value := .agg (evL e).toArray
def geV : Except Int (Ev × Nat) → Value
  | .ok (e, p) => .tuple #[evV e, .int .i64 (p : Nat), .int .i64 0]
  | .error c => .tuple #[evV z5, .int .i64 0, .int .i64 c]

theorem blk5 {w : World} {z : Nat} {x0 x1 x2 x3 x4 : Value} {t : TypeId} (h : Blk w z [x0, x1, x2, x3, x4] t) (y0 y1 y2 y3 y4 : Value) : Blk (((((w.setCell ⟨z, 0, none⟩ y0).setCell ⟨z, 1, none⟩ y1).setCell ⟨z, 2, none⟩ y2).setCell ⟨z, 3, none⟩ y3).setCell ⟨z, 4, none⟩ y4) z [y0, y1, y2, y3, y4] t :=
  ((((h.set 0 y0).set 1 y1).set 2 y2).set 3 y3).set 4 y4
theorem bel5 {w0 w : World} {B z : Nat} (h : Below B w0 w) (hz : B ≤ z) (y0 y1 y2 y3 y4 : Value) : Below B w0 (((((w.setCell ⟨z, 0, none⟩ y0).setCell ⟨z, 1, none⟩ y1).setCell ⟨z, 2, none⟩ y2).setCell ⟨z, 3, none⟩ y3).setCell ⟨z, 4, none⟩ y4) := by
  have f : Fr B [z] w0 w := (Fr.of_below h).mono (Nat.le_refl _) (fun _ _ _ => by simp)
  have g := ((((f.setCell (p := ⟨z, 0, none⟩) (Or.inl hz) y0).setCell (p := ⟨z, 1, none⟩) (Or.inl hz) y1).setCell (p := ⟨z, 2, none⟩) (Or.inl hz) y2).setCell (p := ⟨z, 3, none⟩) (Or.inl hz) y3).setCell (p := ⟨z, 4, none⟩) (Or.inl hz) y4
  exact g.below (by simpa using hz)

set_option maxRecDepth 100000 in
theorem get_ret {w : World} {z : Nat} {e : Ev} {p c : Int} {tmps : Array Value} (h : Blk w z (evL e) 26) (h2 : tmps.getD 2 undef = .pointer (some ⟨z, 0, none⟩)) (h3 : tmps.getD 3 undef = .int .i64 p) (h4 : tmps.getD 4 undef = .int .i64 c) :
    (results Try.f7 tmps).run Try.prog w = .ok (.tuple #[evV e, .int .i64 p, .int .i64 c]) w := by
  have q0 : w.cell? ⟨z, 0, none⟩ = some (.int .i64 e.kind) := h.cell 0
  have q1 : w.cell? ⟨z, 1, none⟩ = some (.int .i64 e.cpu) := h.cell 1
  have q2 : w.cell? ⟨z, 2, none⟩ = some (.int .i64 e.id) := h.cell 2
  have q3 : w.cell? ⟨z, 3, none⟩ = some (.int .u64 e.mask) := h.cell 3
  have q4 : w.cell? ⟨z, 4, none⟩ = some (.int .i64 e.n) := h.cell 4
  rw [results_cell3 (p := 2) (u := 3) (v := 4) (ty := 26) rfl, h2, h3, h4]
  simp [go_sem, q0, q1, q2, q3, q4, evV, evL]

/-- The numbers of the fields so far, as cells. -/
def vb (l : List Int) : List Value := [.int .i64 (l.getD 0 0), .int .i64 (l.getD 1 0), .int .i64 (l.getD 2 0), .int .i64 (l.getD 3 0)]
theorem vb_zero (l : List Int) : vb (l ++ [0]) = vb l := by
  have : ∀ j, (l ++ [0]).getD j 0 = l.getD j 0 := fun j => by
    rw [List.getD_eq_getElem?_getD, List.getD_eq_getElem?_getD, List.getElem?_append]
    split
    · rfl
    · rename_i h
      rw [List.getElem?_eq_none (by omega : l.length ≤ j)]
      cases q : ([0] : List Int)[j - l.length]? with
      | none => rfl
      | some x =>
        have : j - l.length = 0 ∨ ¬ j - l.length = 0 := by omega
        rcases this with e | e
        · rw [e] at q; simp at q; rw [← q]; rfl
        · rw [List.getElem?_eq_none (by simp; omega)] at q; cases q
  unfold vb
  rw [this, this, this, this]
theorem vb_set (l : List Int) (x : Int) (i : Nat) (hl : l.length = i) (hi : i < 4) : (vb l).set i (.int .i64 x) = vb (l ++ [x]) := by
  have : i = 0 ∨ i = 1 ∨ i = 2 ∨ i = 3 := by omega
  rcases this with rfl | rfl | rfl | rfl
  · obtain rfl := List.eq_nil_of_length_eq_zero hl; rfl
  · match l, hl with
    | [a], _ => rfl
  · match l, hl with
    | [a, b], _ => rfl
  · match l, hl with
    | [a, b, c], _ => rfl

/-- What Get keeps while it goes on. -/
structure GI (w wr : World) (z v : Nat) (l : List Int) : Prop where
  ev : Blk wr z (evL z5) 26
  va : Blk wr v (vb l) 42
  bel : Below w.heap.size w wr
  zl : w.heap.size ≤ z
  vl : w.heap.size ≤ v
theorem GI.ne {w wr : World} {z v : Nat} {l : List Int} (h : GI w wr z v l) : z ≠ v := h.ev.ne h.va (by decide)
theorem GI.heap {w wr u : World} {z v : Nat} {l : List Int} (h : GI w wr z v l) (e : Sm u wr) : GI w u z v l := ⟨h.ev.heap e.1, h.va.heap e.1, e.below h.bel, h.zl, h.vl⟩
theorem GI.below {w wr u : World} {z v : Nat} {l : List Int} (h : GI w wr z v l) (e : Below wr.heap.size wr u) : GI w u z v l := ⟨h.ev.keep (Fr.of_below e) h.ev.lt (by simp), h.va.keep (Fr.of_below e) h.va.lt (by simp), h.bel.trans (e.mono h.bel.size), h.zl, h.vl⟩
theorem GI.set {w wr : World} {z v : Nat} {l : List Int} (h : GI w wr z v l) (i : Nat) (x : Int) (hl : l.length = i) (hi : i < 4) : GI w (wr.setCell ⟨v, i, none⟩ (.int .i64 x)) z v (l ++ [x]) := by
  refine ⟨h.ev.other h.ne _, ?_, ?_, h.zl, h.vl⟩
  · rw [← vb_set l x i hl hi]; exact h.va.set i _
  · exact ((Fr.of_below h.bel).setCell (p := ⟨v, i, none⟩) (Or.inl h.vl) _).below (by simp)
set_option maxRecDepth 100000 in
theorem and_one (m : Nat) (h : m < 16) : bits .and .i64 (m : Int) 1 = ((m % 2 : Nat) : Int) := by
  have : ∀ k : Fin 16, bits .and .i64 (k.val : Int) 1 = ((k.val % 2 : Nat) : Int) := by decide
  exact this ⟨m, h⟩
set_option maxRecDepth 100000 in
theorem idx4 (v k : Nat) (h : k < 4) (w : World) : (Instr.index 44 (.agg (four v).toArray) (.int .i64 (k : Int))).run Try.prog w = .ok (.pointer (some ⟨v, k, none⟩)) w := by
  have : k = 0 ∨ k = 1 ∨ k = 2 ∨ k = 3 := by omega
  rcases this with rfl | rfl | rfl | rfl <;> rfl
end Go.Proofs.Ytmelbbojanomiab
