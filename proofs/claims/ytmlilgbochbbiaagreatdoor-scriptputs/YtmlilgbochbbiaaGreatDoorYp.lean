/- The texts Wi3 Wi4 of one layer, laid together. -/
import Derived.Test.YtmlilgbochbbiaaGreatDoorRows
import Derived.Test.YtmlilgbochbbiaaGreatDoorYo
import Derived.WalkKit
import Derived.ProofKit
import Derived.OpenShut
import Derived.BigQuiet
import Derived.Laws.ResultCell
import Derived.Shelf.RegionOpenPlain
namespace Go.Proofs.YtmlilgbochbbiaaGreatDoor.Wir
open Go.ChangeShapes Go.WideShapes Go.ChangeAt Go.RowKit
open Wi0
theorem results_cell1 {fn : Func} {p : Tmp} {ty : TypeId} (h : fn.results = #[.cell p ty]) (tmps : Array Value) (P : Program) (w : World) :
    (results fn tmps).run P w = ((asAddr (tmps.getD p undef)).run P w).andThen fun a w₁ => ((loadVar ty a).run P w₁).andThen fun v w₂ => .ok v w₂ := by
  simp only [results, h]
  simp [Sem.run_bind, Result.andThen]
  cases Sem.run P (asAddr (tmps[p]?.getD undef)) w with
  | ok a w => simp only []; cases Sem.run P (loadVar ty a) w <;> rfl
  | halt h w => rfl
theorem results_cell3 {fn : Func} {p u v : Tmp} {ty : TypeId} (h : fn.results = #[.cell p ty, .tmp u, .tmp v]) (tmps : Array Value) (P : Program) (w : World) :
    (results fn tmps).run P w = ((asAddr (tmps.getD p undef)).run P w).andThen fun a w₁ => ((loadVar ty a).run P w₁).andThen fun x w₂ => .ok (.tuple #[x, tmps.getD u undef, tmps.getD v undef]) w₂ := by
  simp only [results, h]
  simp [Sem.run_bind, Result.andThen]
def four (v : Nat) : List Value := [.pointer (some ⟨v, 0, none⟩), .pointer (some ⟨v, 1, none⟩), .pointer (some ⟨v, 2, none⟩), .pointer (some ⟨v, 3, none⟩)]
set_option maxRecDepth 100000 in
theorem each_ret {w : World} {z v : Nat} {tmps : Array Value} (h : Blk w z (four v) 68) (h2 : tmps.getD 2 undef = .pointer (some ⟨z, 0, none⟩)) :
    (results Tryz.f31 tmps).run Tryz.prog w = .ok (.agg (four v).toArray) w := by
  have q0 : w.cell? ⟨z, 0, none⟩ = some (.pointer (some ⟨v, 0, none⟩)) := h.cell 0
  have q1 : w.cell? ⟨z, 1, none⟩ = some (.pointer (some ⟨v, 1, none⟩)) := h.cell 1
  have q2 : w.cell? ⟨z, 2, none⟩ = some (.pointer (some ⟨v, 2, none⟩)) := h.cell 2
  have q3 : w.cell? ⟨z, 3, none⟩ = some (.pointer (some ⟨v, 3, none⟩)) := h.cell 3
  rw [results_cell1 (p := 2) (ty := 68) rfl, h2]
  simp [go_sem, q0, q1, q2, q3, four]
set_option maxRecDepth 100000 in
set_option maxHeartbeats 1000000 in
theorem each_any (w : World) (v : Nat) :
    Calls Tryz.prog 31 #[.pointer (some ⟨v, 0, none⟩)] w fun e w' => e = .returned (.agg (four v).toArray) ∧ Below w.heap.size w w' := by
  have B : Hid (Below w.heap.size w (w.alloc (.cells (four v).toArray 68))) := (Below.refl _ _).alloc (Nat.le_refl _) _
  go_enter Tryz.func31, Tryz.ntmps31
  go_wp2_with fail
  go_region
  all_goals (
    go_wp2
    exact bodyPost_ret (each_ret (v := v) ((Blk.new w (four v) 68).heap rfl) rfl) rfl ⟨rfl, ⟨B.out.os, B.out.tape, B.out.output, B.out.size, B.out.block⟩⟩)
/-- An event as a value. -/
def evL (e : Ev) : List Value := [.int .i64 e.kind, .int .i64 e.cpu, .int .i64 e.id, .int .u64 e.mask, .int .i64 e.n]
def evV (e : Ev) : Value := .agg (evL e).toArray
def geV : Except Int (Ev × Nat) → Value
  | .ok (e, p) => .tuple #[evV e, .int .i64 (p : Nat), .int .i64 0]
  | .error c => .tuple #[evV z5, .int .i64 0, .int .i64 c]
theorem blk5 {w : World} {z : Nat} {x0 x1 x2 x3 x4 : Value} {t : TypeId} (h : Blk w z [x0, x1, x2, x3, x4] t) (y0 y1 y2 y3 y4 : Value) : Blk (((((w.setCell ⟨z, 0, none⟩ y0).setCell ⟨z, 1, none⟩ y1).setCell ⟨z, 2, none⟩ y2).setCell ⟨z, 3, none⟩ y3).setCell ⟨z, 4, none⟩ y4) z [y0, y1, y2, y3, y4] t :=
  ((((h.set 0 y0).set 1 y1).set 2 y2).set 3 y3).set 4 y4
theorem bel5 {w0 w : World} {B z : Nat} (h : Below B w0 w) (hz : B ≤ z) (y0 y1 y2 y3 y4 : Value) : Below B w0 (((((w.setCell ⟨z, 0, none⟩ y0).setCell ⟨z, 1, none⟩ y1).setCell ⟨z, 2, none⟩ y2).setCell ⟨z, 3, none⟩ y3).setCell ⟨z, 4, none⟩ y4) := by
  have f : Fr B [z] w0 w := (Fr.of_below h).mono (Nat.le_refl _) (fun _ _ _ => by simp)
  have g := ((((f.setCell (p := ⟨z, 0, none⟩) (Or.inl hz) y0).setCell (p := ⟨z, 1, none⟩) (Or.inl hz) y1).setCell (p := ⟨z, 2, none⟩) (Or.inl hz) y2).setCell (p := ⟨z, 3, none⟩) (Or.inl hz) y3).setCell (p := ⟨z, 4, none⟩) (Or.inl hz) y4
  exact g.below (by simpa using hz)
set_option maxRecDepth 100000 in
theorem get_ret {w : World} {z : Nat} {e : Ev} {p c : Int} {tmps : Array Value} (h : Blk w z (evL e) 50) (h2 : tmps.getD 2 undef = .pointer (some ⟨z, 0, none⟩)) (h3 : tmps.getD 3 undef = .int .i64 p) (h4 : tmps.getD 4 undef = .int .i64 c) :
    (results Tryz.f35 tmps).run Tryz.prog w = .ok (.tuple #[evV e, .int .i64 p, .int .i64 c]) w := by
  have q0 : w.cell? ⟨z, 0, none⟩ = some (.int .i64 e.kind) := h.cell 0
  have q1 : w.cell? ⟨z, 1, none⟩ = some (.int .i64 e.cpu) := h.cell 1
  have q2 : w.cell? ⟨z, 2, none⟩ = some (.int .i64 e.id) := h.cell 2
  have q3 : w.cell? ⟨z, 3, none⟩ = some (.int .u64 e.mask) := h.cell 3
  have q4 : w.cell? ⟨z, 4, none⟩ = some (.int .i64 e.n) := h.cell 4
  rw [results_cell3 (p := 2) (u := 3) (v := 4) (ty := 50) rfl, h2, h3, h4]
  simp [go_sem, q0, q1, q2, q3, q4, evV, evL]
/-- The numbers of the fields so far, as cells. -/
def vb (l : List Int) : List Value := [.int .i64 (l.getD 0 0), .int .i64 (l.getD 1 0), .int .i64 (l.getD 2 0), .int .i64 (l.getD 3 0)]
theorem vb_zero (l : List Int) : vb (l ++ [0]) = vb l := by
  have : ∀ j, (l ++ [0]).getD j 0 = l.getD j 0 := fun j => by
    rw [List.getD_eq_getElem?_getD, List.getD_eq_getElem?_getD, List.getElem?_append]
    split
    · rfl
    · rename_i h
      rw [List.getElem?_eq_none (by omega : l.length ≤ j)]
      cases q : ([0] : List Int)[j - l.length]? with
      | none => rfl
      | some x =>
        have : j - l.length = 0 ∨ ¬ j - l.length = 0 := by omega
        rcases this with e | e
        · rw [e] at q; simp at q; rw [← q]; rfl
        · rw [List.getElem?_eq_none (by simp; omega)] at q; cases q
  unfold vb
  rw [this, this, this, this]
theorem vb_set (l : List Int) (x : Int) (i : Nat) (hl : l.length = i) (hi : i < 4) : (vb l).set i (.int .i64 x) = vb (l ++ [x]) := by
  have : i = 0 ∨ i = 1 ∨ i = 2 ∨ i = 3 := by omega
  rcases this with rfl | rfl | rfl | rfl
  · obtain rfl := List.eq_nil_of_length_eq_zero hl; rfl
  · match l, hl with
    | [a], _ => rfl
  · match l, hl with
    | [a, b], _ => rfl
  · match l, hl with
    | [a, b, c], _ => rfl
/-- What Get keeps while it goes on. -/
structure GI (w wr : World) (z v : Nat) (l : List Int) : Prop where
  ev : Blk wr z (evL z5) 50
  va : Blk wr v (vb l) 66
  bel : Below w.heap.size w wr
  zl : w.heap.size ≤ z
  vl : w.heap.size ≤ v
theorem GI.ne {w wr : World} {z v : Nat} {l : List Int} (h : GI w wr z v l) : z ≠ v := h.ev.ne h.va (by decide)
theorem GI.heap {w wr u : World} {z v : Nat} {l : List Int} (h : GI w wr z v l) (e : Sm u wr) : GI w u z v l := ⟨h.ev.heap e.1, h.va.heap e.1, e.below h.bel, h.zl, h.vl⟩
theorem GI.below {w wr u : World} {z v : Nat} {l : List Int} (h : GI w wr z v l) (e : Below wr.heap.size wr u) : GI w u z v l := ⟨h.ev.keep (Fr.of_below e) h.ev.lt (by simp), h.va.keep (Fr.of_below e) h.va.lt (by simp), h.bel.trans (e.mono h.bel.size), h.zl, h.vl⟩
theorem GI.set {w wr : World} {z v : Nat} {l : List Int} (h : GI w wr z v l) (i : Nat) (x : Int) (hl : l.length = i) (hi : i < 4) : GI w (wr.setCell ⟨v, i, none⟩ (.int .i64 x)) z v (l ++ [x]) := by
  refine ⟨h.ev.other h.ne _, ?_, ?_, h.zl, h.vl⟩
  · rw [← vb_set l x i hl hi]; exact h.va.set i _
  · exact ((Fr.of_below h.bel).setCell (p := ⟨v, i, none⟩) (Or.inl h.vl) _).below (by simp)
set_option maxRecDepth 100000 in
theorem and_one (m : Nat) (h : m < 16) : bits .and .i64 (m : Int) 1 = ((m % 2 : Nat) : Int) := by
  have : ∀ k : Fin 16, bits .and .i64 (k.val : Int) 1 = ((k.val % 2 : Nat) : Int) := by decide
  exact this ⟨m, h⟩
set_option maxRecDepth 100000 in
theorem idx4 (v k : Nat) (h : k < 4) (w : World) : (Instr.index 68 (.agg (four v).toArray) (.int .i64 (k : Int))).run Tryz.prog w = .ok (.pointer (some ⟨v, k, none⟩)) w := by
  have : k = 0 ∨ k = 1 ∨ k = 2 ∨ k = 3 := by omega
  rcases this with rfl | rfl | rfl | rfl <;> rfl
end Go.Proofs.YtmlilgbochbbiaaGreatDoor.Wir
namespace Go.Proofs.YtmlilgbochbbiaaGreatDoor.Wir
open Go.ChangeShapes Go.WideShapes Go.ChangeAt Go.RowKit
open Wi0
theorem getE_short1 (xs : List Nat) (c : Int) (h : hdV xs = .tuple #[.int .i64 0, .int .i64 0, .int .i64 c]) (_h0 : c ≠ 0) : getE xs = .error c := by
  match xs, h with
  | [], h => simp [hdV] at h; rw [← h]; rfl
  | [k], h =>
    simp only [hdV, getE] at h ⊢
    cases q : okk (k : Int)
    · rw [q] at h
      simp at h
      simp [okk] at q
      rw [if_pos (by omega), ← h]
    · rw [q] at h
      simp at h
      simp [okk] at q
      rw [if_neg (by omega), ← h]
  | k :: wh :: r, h =>
    simp only [hdV, getE] at h ⊢
    cases q : okk (k : Int)
    · rw [q] at h
      simp at h
      simp [okk] at q
      rw [if_pos (by omega), ← h]
    · rw [q] at h
      simp only [if_true] at h
      simp [okk] at q
      rw [if_neg (by omega)]
      by_cases hw : 15 < wh
      · rw [if_pos hw] at h ⊢
        simp at h
        rw [← h]
      · rw [if_neg hw] at h
        simp at h
        omega
theorem hd_cases (xs : List Nat) : (∃ c : Int, c ≠ 0 ∧ hdV xs = .tuple #[.int .i64 0, .int .i64 0, .int .i64 c]) ∨ ∃ k wh r, xs = k :: wh :: r ∧ 1 ≤ k ∧ k ≤ 30 ∧ wh ≤ 15 ∧ hdV xs = .tuple #[.int .i64 (k : Nat), .int .i64 (wh : Nat), .int .i64 0] := by
  match xs with
  | [] => exact Or.inl ⟨14, by omega, rfl⟩
  | [k] =>
    simp only [hdV]
    cases q : okk (k : Int)
    · exact Or.inl ⟨13, by omega, rfl⟩
    · exact Or.inl ⟨14, by omega, rfl⟩
  | k :: wh :: r =>
    simp only [hdV]
    cases q : okk (k : Int)
    · exact Or.inl ⟨13, by omega, rfl⟩
    · simp only [if_true]
      by_cases hw : 15 < wh
      · rw [if_pos hw]; exact Or.inl ⟨13, by omega, rfl⟩
      · rw [if_neg hw]
        simp [okk] at q
        exact Or.inr ⟨k, wh, r, rfl, by omega, by omega, by omega, rfl⟩
theorem gn_err {b : List Nat} {c : Int} (h : gn b = .error c) : c = 13 ∨ c = 14 := by
  cases b with
  | nil => simp [gn] at h; omega
  | cons x r =>
    simp only [gn] at h
    repeat' split at h
    all_goals (simp at h; try omega)
theorem gl_err_up {b : List Nat} {wh i : Nat} {c : Int} (h : gl b wh i = .error c) (j : Nat) : gl b wh (i + j) = .error c := by
  induction j with
  | zero => exact h
  | succ j ih => rw [← Nat.add_assoc]; simp only [gl, ih]
theorem ge_err {k wh : Nat} {r : List Nat} {i : Nat} {c : Int} (k1 : 1 ≤ k) (k30 : k ≤ 30) (hw : wh ≤ 15) (hi : i ≤ 4) (h : gl (k :: wh :: r) wh i = .error c) : getE (k :: wh :: r) = .error c := by
  have e := gl_err_up h (4 - i)
  rw [show i + (4 - i) = 4 by omega] at e
  simp only [getE]
  rw [if_neg (by omega), if_neg (by omega), e]
theorem ge_ok {k wh : Nat} {r : List Nat} {l : List Int} {q : Nat} (k1 : 1 ≤ k) (k30 : k ≤ 30) (hw : wh ≤ 15) (h : gl (k :: wh :: r) wh 4 = .ok (l, q)) : getE (k :: wh :: r) = .ok (⟨k, l.getD 0 0, l.getD 1 0, u6 (l.getD 2 0), l.getD 3 0⟩, q) := by
  simp only [getE]
  rw [if_neg (by omega), if_neg (by omega), h]
theorem gl_skip {b : List Nat} {wh i q : Nat} {l : List Int} (h : gl b wh i = .ok (l, q)) (z : wh / 2 ^ i % 2 = 0) : gl b wh (i + 1) = .ok (l ++ [0], q) := by simp only [gl, h, if_pos z]
theorem gl_bad {b : List Nat} {wh i q : Nat} {l : List Int} {c : Int} (h : gl b wh i = .ok (l, q)) (z : ¬ wh / 2 ^ i % 2 = 0) (g : gn (b.drop q) = .error c) : gl b wh (i + 1) = .error c := by simp only [gl, h, if_neg z, g]
theorem gl_more {b : List Nat} {wh i q k : Nat} {l : List Int} {n : Int} (h : gl b wh i = .ok (l, q)) (z : ¬ wh / 2 ^ i % 2 = 0) (g : gn (b.drop q) = .ok (n, k)) : gl b wh (i + 1) = .ok (l ++ [n], q + k) := by simp only [gl, h, if_neg z, g]
theorem and_div (wh d : Nat) (h : wh ≤ 15) : bits .and .i64 ((wh : Int) / (d : Int)) 1 = ((wh / d % 2 : Nat) : Int) := by
  rw [← Int.natCast_ediv]
  exact and_one (wh / d) (by have := Nat.div_le_self wh d; omega)
theorem u6_wrap (n : Int) (h : I6 n) : IntKind.u64.wrap n = u6 n := by obtain ⟨a, b⟩ := h; rw [IntKind.wrap_u64]; unfold u6; split <;> omega
set_option maxRecDepth 100000 in
set_option maxHeartbeats 8000000 in
theorem get_any (w : World) (a : Option Addr) (n cap : Nat) (xs : List Nat) (h : CRow w a n cap xs) (hn : (n : Int) ≤ 100000) :
    Calls Tryz.prog 35 #[.slice a n cap] w fun e w' => e = .returned (geV (getE xs)) ∧ Below w.heap.size w w' := by
  obtain ⟨w1, hw1⟩ : ∃ w1, w.alloc (.cells #[.int .i64 0, .int .i64 0, .int .i64 0, .int .u64 0, .int .i64 0] 50) = w1 := ⟨_, rfl⟩
  obtain ⟨z, hz⟩ : ∃ z, w.heap.size = z := ⟨_, rfl⟩
  have HWA : Hid (w.alloc (.cells #[.int .i64 0, .int .i64 0, .int .i64 0, .int .u64 0, .int .i64 0] 50) = w1) := hw1
  have HZ : Hid (w.heap.size = z) := hz
  have E1 : Hid (Blk w1 z (evL z5) 50 ∧ Below z w w1) := by
    rw [← hw1, ← hz]
    exact ⟨Blk.new w (evL z5) 50, (Below.refl _ _).alloc (Nat.le_refl _) _⟩
  have HC : Hid (CRow w a n cap xs) := h
  have C : Hid (∀ u, CRow u a n cap xs → _) := fun u hu => gethead_any u a n cap xs hu hn
  rcases hd_cases xs with ⟨c, c0, hd⟩ | ⟨k, wh, r, hxs, k1, k30, wh15, hd⟩
  · rw [getE_short1 xs c hd c0, show geV (.error c) = .tuple #[evV z5, .int .i64 0, .int .i64 c] from rfl]
    rw [hd] at C
    have c1 : (c == 0) = false := beq_eq_false_iff_ne.2 c0
    clear h hw1 hz hd c0
    go_enter Tryz.func35, Tryz.ntmps35
    go_wp2_with fail
    rw [HWA.out, HZ.out]
    refine (C.out _ (HC.out.below (by rw [HZ.out]; exact E1.out.2))).mono ?_
    rintro e u ⟨rfl, sm⟩
    have E2 : Hid (Blk u z (evL z5) 50 ∧ Below z w u) := ⟨E1.out.1.heap sm.1, sm.below E1.out.2⟩
    have d0 : u.cell? ⟨z, 0, none⟩ = some (.int .i64 0) := E2.out.1.cell 0
    have d1 : u.cell? ⟨z, 1, none⟩ = some (.int .i64 0) := E2.out.1.cell 1
    have d2 : u.cell? ⟨z, 2, none⟩ = some (.int .i64 0) := E2.out.1.cell 2
    have d3 : u.cell? ⟨z, 3, none⟩ = some (.int .u64 0) := E2.out.1.cell 3
    have d4 : u.cell? ⟨z, 4, none⟩ = some (.int .i64 0) := E2.out.1.cell 4
    have f0 : u.frozen? ⟨z, 0, none⟩ = false := E2.out.1.free 0
    have f1 : u.frozen? ⟨z, 1, none⟩ = false := E2.out.1.free 1
    have f2 : u.frozen? ⟨z, 2, none⟩ = false := E2.out.1.free 2
    have f3 : u.frozen? ⟨z, 3, none⟩ = false := E2.out.1.free 3
    have f4 : u.frozen? ⟨z, 4, none⟩ = false := E2.out.1.free 4
    clear sm
    go_wp2
    exact bodyPost_ret (get_ret (e := z5) (blk5 E2.out.1 _ _ _ _ _) rfl rfl rfl) rfl ⟨rfl, by rw [HZ.out]; exact bel5 E2.out.2 (Nat.le_refl _) _ _ _ _ _⟩
  · subst hxs
    rw [hd] at C
    have GE : Hid (∀ i l q, gl (k :: wh :: r) wh i = .ok (l, q) → l.length = i ∧ 2 ≤ q ∧ q ≤ n ∧ ∀ j, j < i → I6 (l.getD j 0)) := fun i l q e => by
      obtain ⟨a1, a2, a3, _, a5⟩ := gl_back (k :: wh :: r) wh h.lt (by simp) i l q e
      exact ⟨a1, a2, by rw [h.nn]; exact a3, fun j hj => (a5 j hj).1⟩
    have GER : Hid (∀ i c, i ≤ 4 → gl (k :: wh :: r) wh i = .error c → getE (k :: wh :: r) = .error c) := fun i c hi e => ge_err k1 k30 wh15 hi e
    have GOK : Hid (∀ l q, gl (k :: wh :: r) wh 4 = .ok (l, q) → getE (k :: wh :: r) = .ok (⟨k, l.getD 0 0, l.getD 1 0, u6 (l.getD 2 0), l.getD 3 0⟩, q)) := fun l q e => ge_ok k1 k30 wh15 e
    have A1 : bits .and .i64 (wh : Int) 1 = ((wh / 2 ^ 0 % 2 : Nat) : Int) := by have := and_div wh 1 wh15; simpa using this
    have A2 : bits .and .i64 ((wh : Int) / 2) 1 = ((wh / 2 ^ 1 % 2 : Nat) : Int) := and_div wh 2 wh15
    have A3 : bits .and .i64 ((wh : Int) / 4) 1 = ((wh / 2 ^ 2 % 2 : Nat) : Int) := and_div wh 4 wh15
    have A4 : bits .and .i64 ((wh : Int) / 8) 1 = ((wh / 2 ^ 3 % 2 : Nat) : Int) := and_div wh 8 wh15
    have HA1 : Hid (bits .and .i64 (wh : Int) 1 = ((wh / 2 ^ 0 % 2 : Nat) : Int)) := A1
    have HA2 : Hid (bits .and .i64 ((wh : Int) / 2) 1 = ((wh / 2 ^ 1 % 2 : Nat) : Int)) := A2
    have HA3 : Hid (bits .and .i64 ((wh : Int) / 4) 1 = ((wh / 2 ^ 2 % 2 : Nat) : Int)) := A3
    have HA4 : Hid (bits .and .i64 ((wh : Int) / 8) 1 = ((wh / 2 ^ 3 % 2 : Nat) : Int)) := A4
    have G0 : Hid (gl (k :: wh :: r) wh 0 = .ok ([], 2)) := rfl
    obtain ⟨xs, hxs⟩ : ∃ xs, k :: wh :: r = xs := ⟨_, rfl⟩
    rw [hxs] at GE GER GOK HC C G0 ⊢
    have KB : Hid (k ≤ 30) := k30
    obtain ⟨RR, hRR⟩ : ∃ RR, geV (getE xs) = RR := ⟨_, rfl⟩
    have HRR : Hid (geV (getE xs) = RR) := hRR
    rw [hRR]
    have HN : Hid ((n : Int) ≤ 100000) := hn
    clear h hw1 hz hd A1 A2 A3 A4 hxs k1 k30 wh15 hn hRR
    go_enter Tryz.func35, Tryz.ntmps35
    go_wp2_with fail
    rw [HWA.out, HZ.out]
    refine (C.out _ (HC.out.below (by rw [HZ.out]; exact E1.out.2))).mono ?_
    rintro e u ⟨rfl, sm⟩
    have E2 : Hid (Blk u z (evL z5) 50 ∧ Below z w u) := ⟨E1.out.1.heap sm.1, sm.below E1.out.2⟩
    clear sm C E1
    obtain ⟨u2, hu2⟩ : ∃ u2, u.alloc (.cells #[.int .i64 0, .int .i64 0, .int .i64 0, .int .i64 0] 66) = u2 := ⟨_, rfl⟩
    obtain ⟨v, hv⟩ : ∃ v, u.heap.size = v := ⟨_, rfl⟩
    have HWB : Hid (u.alloc (.cells #[.int .i64 0, .int .i64 0, .int .i64 0, .int .i64 0] 66) = u2) := hu2
    have HV : Hid (u.heap.size = v) := hv
    have I0 : Hid (GI w u2 z v []) := by
      have b := (Below.refl u.heap.size u).alloc (Nat.le_refl _) (.cells #[.int .i64 0, .int .i64 0, .int .i64 0, .int .i64 0] 66)
      rw [hu2] at b
      have bz := E2.out.2
      have sz := bz.size
      have lt := E2.out.1.lt
      rw [← HZ.out] at bz
      refine ⟨E2.out.1.keep (Fr.of_below b) lt (by simp), ?_, bz.trans (b.mono sz), by rw [HZ.out]; exact Nat.le_refl _, by omega⟩
      rw [← hu2, ← hv]
      exact Blk.new u (vb []) 66
    clear hu2 hv E2
    go_wp2_with fail
    rw [HWB.out, HV.out]
    refine (each_any _ v).mono ?_
    rintro e u3 ⟨rfl, b3⟩
    have I1 : Hid (GI w u3 z v []) := I0.out.below b3
    have IX : Hid (∀ (k : Nat) (w : World), k < 4 → (Instr.index 68 (.agg (four v).toArray) (.int .i64 (k : Int))).run Tryz.prog w = .ok (.pointer (some ⟨v, k, none⟩)) w) := fun k w hk => idx4 v k hk w
    obtain ⟨AR, hAR⟩ : ∃ AR, (four v).toArray = AR := ⟨_, rfl⟩
    rw [hAR] at IX ⊢
    clear b3 I0 HWA HWB HV hAR
    go_wp2
    go_loopw [9, 26] (fun atv iv wr => ∃ (i q : Nat) (l : List Int), (i : Int) ≤ 4 ∧ gl xs wh i = .ok (l, q) ∧ GI w wr z v l ∧ atv = .int .i64 q ∧ iv = .int .i64 i) (fun _ i _ => 4 - (intOf i).toNat)
    case atStart => exact ⟨0, 2, [], by omega, G0.out, I1.out, rfl, rfl⟩
    case round =>
      obtain ⟨i, q, l, hi, hg, gi, rfl, rfl⟩ := hrel
      clear I1 G0
      obtain ⟨ll, q2, qn, il⟩ := GE.out i l q hg
      have GI0 : Hid (GI w wr z v l) := gi
      have HG : Hid (gl xs wh i = .ok (l, q)) := hg
      have LL : Hid (l.length = i) := ll
      have HQ : Hid (2 ≤ q ∧ q ≤ n) := ⟨q2, qn⟩
      have SL := sl_from wr a n cap q qn
      have CR := crow_from (k := q) (HC.out.below gi.bel) qn
      obtain ⟨a2, ha2⟩ : ∃ a2, (if cap = q then a else a.map (·.add (q * 1))) = a2 := ⟨_, rfl⟩
      rw [ha2] at SL CR
      have GN : Hid (∀ _ : Unit, _) := fun _ => getnumber_any wr a2 (n - q) (cap - q) (xs.drop q) CR (by have := HN.out; omega)
      have CRX : Hid (∀ m kk, gn (xs.drop q) = .ok (m, kk) → kk ≤ n ∧ I6 m) := fun m kk e => by
        obtain ⟨_, c2, _, c4, _⟩ := gn_back _ CR.lt m kk e
        have := CR.nn
        exact ⟨by omega, c2⟩
      clear hg ll q2 qn CR ha2 gi
      have four_or : i = 4 ∨ i = 0 ∨ i = 1 ∨ i = 2 ∨ i = 3 := by omega
      rcases four_or with rfl | rfl | rfl | rfl | rfl
      · have v0 : wr.cell? ⟨v, 0, none⟩ = some (.int .i64 (l.getD 0 0)) := GI0.out.va.cell 0
        have v1 : wr.cell? ⟨v, 1, none⟩ = some (.int .i64 (l.getD 1 0)) := GI0.out.va.cell 1
        have v2 : wr.cell? ⟨v, 2, none⟩ = some (.int .i64 (l.getD 2 0)) := GI0.out.va.cell 2
        have v3 : wr.cell? ⟨v, 3, none⟩ = some (.int .i64 (l.getD 3 0)) := GI0.out.va.cell 3
        have d0 : wr.cell? ⟨z, 0, none⟩ = some (.int .i64 0) := GI0.out.ev.cell 0
        have f0 : wr.frozen? ⟨z, 0, none⟩ = false := GI0.out.ev.free 0
        have d1 : wr.cell? ⟨z, 1, none⟩ = some (.int .i64 0) := GI0.out.ev.cell 1
        have f1 : wr.frozen? ⟨z, 1, none⟩ = false := GI0.out.ev.free 1
        have d2 : wr.cell? ⟨z, 2, none⟩ = some (.int .i64 0) := GI0.out.ev.cell 2
        have f2 : wr.frozen? ⟨z, 2, none⟩ = false := GI0.out.ev.free 2
        have d3 : wr.cell? ⟨z, 3, none⟩ = some (.int .u64 0) := GI0.out.ev.cell 3
        have f3 : wr.frozen? ⟨z, 3, none⟩ = false := GI0.out.ev.free 3
        have d4 : wr.cell? ⟨z, 4, none⟩ = some (.int .i64 0) := GI0.out.ev.cell 4
        have f4 : wr.frozen? ⟨z, 4, none⟩ = false := GI0.out.ev.free 4
        have uw := u6_wrap (l.getD 2 0) (il 2 (by omega))
        have RE : Hid (.tuple #[evV ⟨k, l.getD 0 0, l.getD 1 0, u6 (l.getD 2 0), l.getD 3 0⟩, .int .i64 (q : Nat), .int .i64 0] = RR) := by
          have e := HRR.out
          rw [GOK.out l q HG.out] at e
          exact e
        generalize u6 (l.getD 2 0) = y2' at *
        generalize l.getD 0 0 = y0 at *
        generalize l.getD 1 0 = y1 at *
        generalize l.getD 2 0 = y2 at *
        generalize l.getD 3 0 = y3 at *
        clear il GN CRX SL GER GOK GE HA1 HA2 HA3 HA4
        go_wp2
        exact bodyPost_ret (get_ret (e := ⟨k, y0, y1, y2', y3⟩) (blk5 GI0.out.ev _ _ _ _ _) rfl rfl rfl) rfl ⟨congrArg Ending.returned RE.out, bel5 GI0.out.bel GI0.out.zl _ _ _ _ _⟩
      · have IK : (Instr.index 68 (.agg AR) (.int .i64 0)).run Tryz.prog wr = .ok (.pointer (some ⟨v, 0, none⟩)) wr := IX.out 0 wr (by omega)
        have vi : wr.cell? ⟨v, 0, none⟩ = some (.int .i64 (l.getD 0 0)) := GI0.out.va.cell 0
        have fi : wr.frozen? ⟨v, 0, none⟩ = false := GI0.out.va.free 0
        have an := HA1.out
        by_cases bz : wh / 2 ^ 0 % 2 = 0
        · have NX : Hid (gl xs wh 1 = .ok (l ++ [0], q)) := gl_skip HG.out bz
          have NG : Hid (GI w wr z v (l ++ [0])) := ⟨GI0.out.ev, by rw [vb_zero]; exact GI0.out.va, GI0.out.bel, GI0.out.zl, GI0.out.vl⟩
          rw [bz] at an
          simp only [Int.cast_ofNat_Int] at an
          clear il GN CRX SL GER GOK GE HA1 HA2 HA3 HA4 GI0 bz
          go_wp2
          go_roundw
          case rel => exact ⟨1, q, l ++ [0], by omega, NX.out, NG.out, rfl, by go_num⟩
          case measure => simp [intOf]
        · have b1 : wh / 2 ^ 0 % 2 = 1 := by omega
          rw [b1] at an
          simp only [Int.cast_ofNat_Int] at an
          cases hgn : gn (xs.drop q) with
          | error c =>
            rw [hgn, show gnV (.error c) = .tuple #[.int .i64 0, .int .i64 0, .int .i64 c] from rfl] at GN
            have ce := gn_err hgn
            have c1 : (c == 0) = false := by rw [beq_eq_false_iff_ne]; omega
            have RE : Hid (.tuple #[evV z5, .int .i64 0, .int .i64 c] = RR) := by
              have e := HRR.out
              rw [GER.out 1 c (by omega) (gl_bad HG.out bz hgn)] at e
              exact e
            have d0 : wr.cell? ⟨z, 0, none⟩ = some (.int .i64 0) := GI0.out.ev.cell 0
            have f0 : wr.frozen? ⟨z, 0, none⟩ = false := GI0.out.ev.free 0
            have d1 : wr.cell? ⟨z, 1, none⟩ = some (.int .i64 0) := GI0.out.ev.cell 1
            have f1 : wr.frozen? ⟨z, 1, none⟩ = false := GI0.out.ev.free 1
            have d2 : wr.cell? ⟨z, 2, none⟩ = some (.int .i64 0) := GI0.out.ev.cell 2
            have f2 : wr.frozen? ⟨z, 2, none⟩ = false := GI0.out.ev.free 2
            have d3 : wr.cell? ⟨z, 3, none⟩ = some (.int .u64 0) := GI0.out.ev.cell 3
            have f3 : wr.frozen? ⟨z, 3, none⟩ = false := GI0.out.ev.free 3
            have d4 : wr.cell? ⟨z, 4, none⟩ = some (.int .i64 0) := GI0.out.ev.cell 4
            have f4 : wr.frozen? ⟨z, 4, none⟩ = false := GI0.out.ev.free 4
            clear il CRX GER GOK GE HA1 HA2 HA3 HA4 bz b1 hgn ce
            go_wp2_with fail
            refine (GN.out ()).mono ?_
            rintro e w'' ⟨rfl, e0⟩
            subst e0
            go_wp2
            exact bodyPost_ret (get_ret (e := z5) (blk5 GI0.out.ev _ _ _ _ _) rfl rfl rfl) rfl ⟨congrArg Ending.returned RE.out, bel5 GI0.out.bel GI0.out.zl _ _ _ _ _⟩
          | ok mk =>
            obtain ⟨m, kk⟩ := mk
            rw [hgn, show gnV (.ok (m, kk)) = .tuple #[.int .i64 m, .int .i64 (kk : Nat), .int .i64 0] from rfl] at GN
            obtain ⟨kn, _⟩ := CRX.out m kk hgn
            have aw : wrap64 ((q : Int) + (kk : Int)) = ((q + kk : Nat) : Int) := by have := HN.out; have := HQ.out; simp only [wrap64]; omega
            have NX : Hid (gl xs wh 1 = .ok (l ++ [m], q + kk)) := gl_more HG.out bz hgn
            have NG : Hid (GI w (wr.setCell ⟨v, 0, none⟩ (.int .i64 m)) z v (l ++ [m])) := GI0.out.set 0 m LL.out (by omega)
            obtain ⟨qq, hqq⟩ : ∃ qq, q + kk = qq := ⟨_, rfl⟩
            rw [hqq] at aw NX
            clear il CRX GER GOK GE HA1 HA2 HA3 HA4 bz b1 hgn hqq kn GI0
            go_wp2_with fail
            refine (GN.out ()).mono ?_
            rintro e w'' ⟨rfl, e0⟩
            subst e0
            go_wp2
            go_roundw
            case rel => exact ⟨1, qq, l ++ [m], by omega, NX.out, NG.out, congrArg _ aw, by go_num⟩
            case measure => simp [intOf]
      · have IK : (Instr.index 68 (.agg AR) (.int .i64 1)).run Tryz.prog wr = .ok (.pointer (some ⟨v, 1, none⟩)) wr := IX.out 1 wr (by omega)
        have vi : wr.cell? ⟨v, 1, none⟩ = some (.int .i64 (l.getD 1 0)) := GI0.out.va.cell 1
        have fi : wr.frozen? ⟨v, 1, none⟩ = false := GI0.out.va.free 1
        have an := HA2.out
        by_cases bz : wh / 2 ^ 1 % 2 = 0
        · have NX : Hid (gl xs wh 2 = .ok (l ++ [0], q)) := gl_skip HG.out bz
          have NG : Hid (GI w wr z v (l ++ [0])) := ⟨GI0.out.ev, by rw [vb_zero]; exact GI0.out.va, GI0.out.bel, GI0.out.zl, GI0.out.vl⟩
          rw [bz] at an
          simp only [Int.cast_ofNat_Int] at an
          clear il GN CRX SL GER GOK GE HA1 HA2 HA3 HA4 GI0 bz
          go_wp2
          go_roundw
          case rel => exact ⟨2, q, l ++ [0], by omega, NX.out, NG.out, rfl, by go_num⟩
          case measure => simp [intOf]
        · have b1 : wh / 2 ^ 1 % 2 = 1 := by omega
          rw [b1] at an
          simp only [Int.cast_ofNat_Int] at an
          cases hgn : gn (xs.drop q) with
          | error c =>
            rw [hgn, show gnV (.error c) = .tuple #[.int .i64 0, .int .i64 0, .int .i64 c] from rfl] at GN
            have ce := gn_err hgn
            have c1 : (c == 0) = false := by rw [beq_eq_false_iff_ne]; omega
            have RE : Hid (.tuple #[evV z5, .int .i64 0, .int .i64 c] = RR) := by
              have e := HRR.out
              rw [GER.out 2 c (by omega) (gl_bad HG.out bz hgn)] at e
              exact e
            have d0 : wr.cell? ⟨z, 0, none⟩ = some (.int .i64 0) := GI0.out.ev.cell 0
            have f0 : wr.frozen? ⟨z, 0, none⟩ = false := GI0.out.ev.free 0
            have d1 : wr.cell? ⟨z, 1, none⟩ = some (.int .i64 0) := GI0.out.ev.cell 1
            have f1 : wr.frozen? ⟨z, 1, none⟩ = false := GI0.out.ev.free 1
            have d2 : wr.cell? ⟨z, 2, none⟩ = some (.int .i64 0) := GI0.out.ev.cell 2
            have f2 : wr.frozen? ⟨z, 2, none⟩ = false := GI0.out.ev.free 2
            have d3 : wr.cell? ⟨z, 3, none⟩ = some (.int .u64 0) := GI0.out.ev.cell 3
            have f3 : wr.frozen? ⟨z, 3, none⟩ = false := GI0.out.ev.free 3
            have d4 : wr.cell? ⟨z, 4, none⟩ = some (.int .i64 0) := GI0.out.ev.cell 4
            have f4 : wr.frozen? ⟨z, 4, none⟩ = false := GI0.out.ev.free 4
            clear il CRX GER GOK GE HA1 HA2 HA3 HA4 bz b1 hgn ce
            go_wp2_with fail
            refine (GN.out ()).mono ?_
            rintro e w'' ⟨rfl, e0⟩
            subst e0
            go_wp2
            exact bodyPost_ret (get_ret (e := z5) (blk5 GI0.out.ev _ _ _ _ _) rfl rfl rfl) rfl ⟨congrArg Ending.returned RE.out, bel5 GI0.out.bel GI0.out.zl _ _ _ _ _⟩
          | ok mk =>
            obtain ⟨m, kk⟩ := mk
            rw [hgn, show gnV (.ok (m, kk)) = .tuple #[.int .i64 m, .int .i64 (kk : Nat), .int .i64 0] from rfl] at GN
            obtain ⟨kn, _⟩ := CRX.out m kk hgn
            have aw : wrap64 ((q : Int) + (kk : Int)) = ((q + kk : Nat) : Int) := by have := HN.out; have := HQ.out; simp only [wrap64]; omega
            have NX : Hid (gl xs wh 2 = .ok (l ++ [m], q + kk)) := gl_more HG.out bz hgn
            have NG : Hid (GI w (wr.setCell ⟨v, 1, none⟩ (.int .i64 m)) z v (l ++ [m])) := GI0.out.set 1 m LL.out (by omega)
            obtain ⟨qq, hqq⟩ : ∃ qq, q + kk = qq := ⟨_, rfl⟩
            rw [hqq] at aw NX
            clear il CRX GER GOK GE HA1 HA2 HA3 HA4 bz b1 hgn hqq kn GI0
            go_wp2_with fail
            refine (GN.out ()).mono ?_
            rintro e w'' ⟨rfl, e0⟩
            subst e0
            go_wp2
            go_roundw
            case rel => exact ⟨2, qq, l ++ [m], by omega, NX.out, NG.out, congrArg _ aw, by go_num⟩
            case measure => simp [intOf]
      · have IK : (Instr.index 68 (.agg AR) (.int .i64 2)).run Tryz.prog wr = .ok (.pointer (some ⟨v, 2, none⟩)) wr := IX.out 2 wr (by omega)
        have vi : wr.cell? ⟨v, 2, none⟩ = some (.int .i64 (l.getD 2 0)) := GI0.out.va.cell 2
        have fi : wr.frozen? ⟨v, 2, none⟩ = false := GI0.out.va.free 2
        have an := HA3.out
        by_cases bz : wh / 2 ^ 2 % 2 = 0
        · have NX : Hid (gl xs wh 3 = .ok (l ++ [0], q)) := gl_skip HG.out bz
          have NG : Hid (GI w wr z v (l ++ [0])) := ⟨GI0.out.ev, by rw [vb_zero]; exact GI0.out.va, GI0.out.bel, GI0.out.zl, GI0.out.vl⟩
          rw [bz] at an
          simp only [Int.cast_ofNat_Int] at an
          clear il GN CRX SL GER GOK GE HA1 HA2 HA3 HA4 GI0 bz
          go_wp2
          go_roundw
          case rel => exact ⟨3, q, l ++ [0], by omega, NX.out, NG.out, rfl, by go_num⟩
          case measure => simp [intOf]
        · have b1 : wh / 2 ^ 2 % 2 = 1 := by omega
          rw [b1] at an
          simp only [Int.cast_ofNat_Int] at an
          cases hgn : gn (xs.drop q) with
          | error c =>
            rw [hgn, show gnV (.error c) = .tuple #[.int .i64 0, .int .i64 0, .int .i64 c] from rfl] at GN
            have ce := gn_err hgn
            have c1 : (c == 0) = false := by rw [beq_eq_false_iff_ne]; omega
            have RE : Hid (.tuple #[evV z5, .int .i64 0, .int .i64 c] = RR) := by
              have e := HRR.out
              rw [GER.out 3 c (by omega) (gl_bad HG.out bz hgn)] at e
              exact e
            have d0 : wr.cell? ⟨z, 0, none⟩ = some (.int .i64 0) := GI0.out.ev.cell 0
            have f0 : wr.frozen? ⟨z, 0, none⟩ = false := GI0.out.ev.free 0
            have d1 : wr.cell? ⟨z, 1, none⟩ = some (.int .i64 0) := GI0.out.ev.cell 1
            have f1 : wr.frozen? ⟨z, 1, none⟩ = false := GI0.out.ev.free 1
            have d2 : wr.cell? ⟨z, 2, none⟩ = some (.int .i64 0) := GI0.out.ev.cell 2
            have f2 : wr.frozen? ⟨z, 2, none⟩ = false := GI0.out.ev.free 2
            have d3 : wr.cell? ⟨z, 3, none⟩ = some (.int .u64 0) := GI0.out.ev.cell 3
            have f3 : wr.frozen? ⟨z, 3, none⟩ = false := GI0.out.ev.free 3
            have d4 : wr.cell? ⟨z, 4, none⟩ = some (.int .i64 0) := GI0.out.ev.cell 4
            have f4 : wr.frozen? ⟨z, 4, none⟩ = false := GI0.out.ev.free 4
            clear il CRX GER GOK GE HA1 HA2 HA3 HA4 bz b1 hgn ce
            go_wp2_with fail
            refine (GN.out ()).mono ?_
            rintro e w'' ⟨rfl, e0⟩
            subst e0
            go_wp2
            exact bodyPost_ret (get_ret (e := z5) (blk5 GI0.out.ev _ _ _ _ _) rfl rfl rfl) rfl ⟨congrArg Ending.returned RE.out, bel5 GI0.out.bel GI0.out.zl _ _ _ _ _⟩
          | ok mk =>
            obtain ⟨m, kk⟩ := mk
            rw [hgn, show gnV (.ok (m, kk)) = .tuple #[.int .i64 m, .int .i64 (kk : Nat), .int .i64 0] from rfl] at GN
            obtain ⟨kn, _⟩ := CRX.out m kk hgn
            have aw : wrap64 ((q : Int) + (kk : Int)) = ((q + kk : Nat) : Int) := by have := HN.out; have := HQ.out; simp only [wrap64]; omega
            have NX : Hid (gl xs wh 3 = .ok (l ++ [m], q + kk)) := gl_more HG.out bz hgn
            have NG : Hid (GI w (wr.setCell ⟨v, 2, none⟩ (.int .i64 m)) z v (l ++ [m])) := GI0.out.set 2 m LL.out (by omega)
            obtain ⟨qq, hqq⟩ : ∃ qq, q + kk = qq := ⟨_, rfl⟩
            rw [hqq] at aw NX
            clear il CRX GER GOK GE HA1 HA2 HA3 HA4 bz b1 hgn hqq kn GI0
            go_wp2_with fail
            refine (GN.out ()).mono ?_
            rintro e w'' ⟨rfl, e0⟩
            subst e0
            go_wp2
            go_roundw
            case rel => exact ⟨3, qq, l ++ [m], by omega, NX.out, NG.out, congrArg _ aw, by go_num⟩
            case measure => simp [intOf]
      · have IK : (Instr.index 68 (.agg AR) (.int .i64 3)).run Tryz.prog wr = .ok (.pointer (some ⟨v, 3, none⟩)) wr := IX.out 3 wr (by omega)
        have vi : wr.cell? ⟨v, 3, none⟩ = some (.int .i64 (l.getD 3 0)) := GI0.out.va.cell 3
        have fi : wr.frozen? ⟨v, 3, none⟩ = false := GI0.out.va.free 3
        have an := HA4.out
        by_cases bz : wh / 2 ^ 3 % 2 = 0
        · have NX : Hid (gl xs wh 4 = .ok (l ++ [0], q)) := gl_skip HG.out bz
          have NG : Hid (GI w wr z v (l ++ [0])) := ⟨GI0.out.ev, by rw [vb_zero]; exact GI0.out.va, GI0.out.bel, GI0.out.zl, GI0.out.vl⟩
          rw [bz] at an
          simp only [Int.cast_ofNat_Int] at an
          clear il GN CRX SL GER GOK GE HA1 HA2 HA3 HA4 GI0 bz
          go_wp2
          go_roundw
          case rel => exact ⟨4, q, l ++ [0], by omega, NX.out, NG.out, rfl, by go_num⟩
          case measure => simp [intOf]
        · have b1 : wh / 2 ^ 3 % 2 = 1 := by omega
          rw [b1] at an
          simp only [Int.cast_ofNat_Int] at an
          cases hgn : gn (xs.drop q) with
          | error c =>
            rw [hgn, show gnV (.error c) = .tuple #[.int .i64 0, .int .i64 0, .int .i64 c] from rfl] at GN
            have ce := gn_err hgn
            have c1 : (c == 0) = false := by rw [beq_eq_false_iff_ne]; omega
            have RE : Hid (.tuple #[evV z5, .int .i64 0, .int .i64 c] = RR) := by
              have e := HRR.out
              rw [GER.out 4 c (by omega) (gl_bad HG.out bz hgn)] at e
              exact e
            have d0 : wr.cell? ⟨z, 0, none⟩ = some (.int .i64 0) := GI0.out.ev.cell 0
            have f0 : wr.frozen? ⟨z, 0, none⟩ = false := GI0.out.ev.free 0
            have d1 : wr.cell? ⟨z, 1, none⟩ = some (.int .i64 0) := GI0.out.ev.cell 1
            have f1 : wr.frozen? ⟨z, 1, none⟩ = false := GI0.out.ev.free 1
            have d2 : wr.cell? ⟨z, 2, none⟩ = some (.int .i64 0) := GI0.out.ev.cell 2
            have f2 : wr.frozen? ⟨z, 2, none⟩ = false := GI0.out.ev.free 2
            have d3 : wr.cell? ⟨z, 3, none⟩ = some (.int .u64 0) := GI0.out.ev.cell 3
            have f3 : wr.frozen? ⟨z, 3, none⟩ = false := GI0.out.ev.free 3
            have d4 : wr.cell? ⟨z, 4, none⟩ = some (.int .i64 0) := GI0.out.ev.cell 4
            have f4 : wr.frozen? ⟨z, 4, none⟩ = false := GI0.out.ev.free 4
            clear il CRX GER GOK GE HA1 HA2 HA3 HA4 bz b1 hgn ce
            go_wp2_with fail
            refine (GN.out ()).mono ?_
            rintro e w'' ⟨rfl, e0⟩
            subst e0
            go_wp2
            exact bodyPost_ret (get_ret (e := z5) (blk5 GI0.out.ev _ _ _ _ _) rfl rfl rfl) rfl ⟨congrArg Ending.returned RE.out, bel5 GI0.out.bel GI0.out.zl _ _ _ _ _⟩
          | ok mk =>
            obtain ⟨m, kk⟩ := mk
            rw [hgn, show gnV (.ok (m, kk)) = .tuple #[.int .i64 m, .int .i64 (kk : Nat), .int .i64 0] from rfl] at GN
            obtain ⟨kn, _⟩ := CRX.out m kk hgn
            have aw : wrap64 ((q : Int) + (kk : Int)) = ((q + kk : Nat) : Int) := by have := HN.out; have := HQ.out; simp only [wrap64]; omega
            have NX : Hid (gl xs wh 4 = .ok (l ++ [m], q + kk)) := gl_more HG.out bz hgn
            have NG : Hid (GI w (wr.setCell ⟨v, 3, none⟩ (.int .i64 m)) z v (l ++ [m])) := GI0.out.set 3 m LL.out (by omega)
            obtain ⟨qq, hqq⟩ : ∃ qq, q + kk = qq := ⟨_, rfl⟩
            rw [hqq] at aw NX
            clear il CRX GER GOK GE HA1 HA2 HA3 HA4 bz b1 hgn hqq kn GI0
            go_wp2_with fail
            refine (GN.out ()).mono ?_
            rintro e w'' ⟨rfl, e0⟩
            subst e0
            go_wp2
            go_roundw
            case rel => exact ⟨4, qq, l ++ [m], by omega, NX.out, NG.out, congrArg _ aw, by go_num⟩
            case measure => simp [intOf]
end Go.Proofs.YtmlilgbochbbiaaGreatDoor.Wir
