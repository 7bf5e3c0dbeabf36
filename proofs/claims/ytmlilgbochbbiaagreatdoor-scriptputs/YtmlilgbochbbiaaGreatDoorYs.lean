/- The texts Wr1 Wr3 of one layer, laid together. -/
import Derived.Test.YtmlilgbochbbiaaGreatDoorRows
import Derived.Test.YtmlilgbochbbiaaGreatDoorYp
import Derived.WalkKit
import Derived.ProofKit
import Derived.OpenShut
import Derived.BigQuiet
import Derived.Deep.RegionHeld3
import Derived.Deep.RegionHeldLaw
import Derived.Laws.MakeOwn
import Derived.Shelf.RegionOpenPlain
namespace Go.Proofs.YtmlilgbochbbiaaGreatDoor.Wir
open Go.ChangeShapes Go.WideShapes Go.ChangeAt Go.RowKit
open Wi0
set_option maxRecDepth 100000 in
set_option maxHeartbeats 2000000 in
theorem fits_any (n : Int) (k : Nat) (w : World) (hn : I6 n) (h1 : 1 ≤ k) (h8 : k ≤ 8) :
    Calls Tryz.prog 56 #[.int .i64 n, .int .i64 (k : Int)] w fun e w' => e = .returned (.bool (fitk n k)) ∧ w' = w := by
  have : k = 8 ∨ k = 1 ∨ k = 2 ∨ k = 3 ∨ k = 4 ∨ k = 5 ∨ k = 6 ∨ k = 7 := by omega
  rcases this with rfl | this
  · have e : fitk n 8 = true := by obtain ⟨a, b⟩ := hn; rw [fit_iff]; simp only [hf]; omega
    rw [e]
    clear hn e h1 h8
    go_enter Tryz.func56, Tryz.ntmps56
    go_wp2
    go_ret
    exact ⟨rfl, rfl⟩
  · clear hn h1 h8
    rcases this with rfl | rfl | rfl | rfl | rfl | rfl | rfl
    · rw [show fitk n 1 = (decide (-128 ≤ n) && decide (n < 128)) from rfl]
      by_cases c1 : -128 ≤ n
      · by_cases c2 : n < 128
        · rw [decide_eq_true c1, decide_eq_true c2]
          go_enter Tryz.func56, Tryz.ntmps56
          go_wp2
          go_ret
          exact ⟨rfl, rfl⟩
        · rw [decide_eq_true c1, decide_eq_false c2]
          go_enter Tryz.func56, Tryz.ntmps56
          go_wp2
          go_ret
          exact ⟨rfl, rfl⟩
      · rw [decide_eq_false c1, Bool.false_and]
        go_enter Tryz.func56, Tryz.ntmps56
        go_wp2
        go_ret
        exact ⟨rfl, rfl⟩
    · rw [show fitk n 2 = (decide (-32768 ≤ n) && decide (n < 32768)) from rfl]
      by_cases c1 : -32768 ≤ n
      · by_cases c2 : n < 32768
        · rw [decide_eq_true c1, decide_eq_true c2]
          go_enter Tryz.func56, Tryz.ntmps56
          go_wp2
          go_ret
          exact ⟨rfl, rfl⟩
        · rw [decide_eq_true c1, decide_eq_false c2]
          go_enter Tryz.func56, Tryz.ntmps56
          go_wp2
          go_ret
          exact ⟨rfl, rfl⟩
      · rw [decide_eq_false c1, Bool.false_and]
        go_enter Tryz.func56, Tryz.ntmps56
        go_wp2
        go_ret
        exact ⟨rfl, rfl⟩
    · rw [show fitk n 3 = (decide (-8388608 ≤ n) && decide (n < 8388608)) from rfl]
      by_cases c1 : -8388608 ≤ n
      · by_cases c2 : n < 8388608
        · rw [decide_eq_true c1, decide_eq_true c2]
          go_enter Tryz.func56, Tryz.ntmps56
          go_wp2
          go_ret
          exact ⟨rfl, rfl⟩
        · rw [decide_eq_true c1, decide_eq_false c2]
          go_enter Tryz.func56, Tryz.ntmps56
          go_wp2
          go_ret
          exact ⟨rfl, rfl⟩
      · rw [decide_eq_false c1, Bool.false_and]
        go_enter Tryz.func56, Tryz.ntmps56
        go_wp2
        go_ret
        exact ⟨rfl, rfl⟩
    · rw [show fitk n 4 = (decide (-2147483648 ≤ n) && decide (n < 2147483648)) from rfl]
      by_cases c1 : -2147483648 ≤ n
      · by_cases c2 : n < 2147483648
        · rw [decide_eq_true c1, decide_eq_true c2]
          go_enter Tryz.func56, Tryz.ntmps56
          go_wp2
          go_ret
          exact ⟨rfl, rfl⟩
        · rw [decide_eq_true c1, decide_eq_false c2]
          go_enter Tryz.func56, Tryz.ntmps56
          go_wp2
          go_ret
          exact ⟨rfl, rfl⟩
      · rw [decide_eq_false c1, Bool.false_and]
        go_enter Tryz.func56, Tryz.ntmps56
        go_wp2
        go_ret
        exact ⟨rfl, rfl⟩
    · rw [show fitk n 5 = (decide (-549755813888 ≤ n) && decide (n < 549755813888)) from rfl]
      by_cases c1 : -549755813888 ≤ n
      · by_cases c2 : n < 549755813888
        · rw [decide_eq_true c1, decide_eq_true c2]
          go_enter Tryz.func56, Tryz.ntmps56
          go_wp2
          go_ret
          exact ⟨rfl, rfl⟩
        · rw [decide_eq_true c1, decide_eq_false c2]
          go_enter Tryz.func56, Tryz.ntmps56
          go_wp2
          go_ret
          exact ⟨rfl, rfl⟩
      · rw [decide_eq_false c1, Bool.false_and]
        go_enter Tryz.func56, Tryz.ntmps56
        go_wp2
        go_ret
        exact ⟨rfl, rfl⟩
    · rw [show fitk n 6 = (decide (-140737488355328 ≤ n) && decide (n < 140737488355328)) from rfl]
      by_cases c1 : -140737488355328 ≤ n
      · by_cases c2 : n < 140737488355328
        · rw [decide_eq_true c1, decide_eq_true c2]
          go_enter Tryz.func56, Tryz.ntmps56
          go_wp2
          go_ret
          exact ⟨rfl, rfl⟩
        · rw [decide_eq_true c1, decide_eq_false c2]
          go_enter Tryz.func56, Tryz.ntmps56
          go_wp2
          go_ret
          exact ⟨rfl, rfl⟩
      · rw [decide_eq_false c1, Bool.false_and]
        go_enter Tryz.func56, Tryz.ntmps56
        go_wp2
        go_ret
        exact ⟨rfl, rfl⟩
    · rw [show fitk n 7 = (decide (-36028797018963968 ≤ n) && decide (n < 36028797018963968)) from rfl]
      by_cases c1 : -36028797018963968 ≤ n
      · by_cases c2 : n < 36028797018963968
        · rw [decide_eq_true c1, decide_eq_true c2]
          go_enter Tryz.func56, Tryz.ntmps56
          go_wp2
          go_ret
          exact ⟨rfl, rfl⟩
        · rw [decide_eq_true c1, decide_eq_false c2]
          go_enter Tryz.func56, Tryz.ntmps56
          go_wp2
          go_ret
          exact ⟨rfl, rfl⟩
      · rw [decide_eq_false c1, Bool.false_and]
        go_enter Tryz.func56, Tryz.ntmps56
        go_wp2
        go_ret
        exact ⟨rfl, rfl⟩
end Go.Proofs.YtmlilgbochbbiaaGreatDoor.Wir
namespace Go.Proofs.YtmlilgbochbbiaaGreatDoor.Wir
open Go.ChangeShapes Go.WideShapes Go.ChangeAt Go.RowKit
open Wi0
theorem rget_ret {w : World} {z : Nat} {e : Ev} {p c : Int} {tmps : Array Value} (h : Blk w z (evL e) 50) (h2 : tmps.getD 2 undef = .pointer (some ⟨z, 0, none⟩)) (h3 : tmps.getD 3 undef = .int .i64 p) (h4 : tmps.getD 4 undef = .int .i64 c) :
    (results Tryz.f36 tmps).run Tryz.prog w = .ok (.tuple #[evV e, .int .i64 p, .int .i64 c]) w := by
  have q0 : w.cell? ⟨z, 0, none⟩ = some (.int .i64 e.kind) := h.cell 0
  have q1 : w.cell? ⟨z, 1, none⟩ = some (.int .i64 e.cpu) := h.cell 1
  have q2 : w.cell? ⟨z, 2, none⟩ = some (.int .i64 e.id) := h.cell 2
  have q3 : w.cell? ⟨z, 3, none⟩ = some (.int .u64 e.mask) := h.cell 3
  have q4 : w.cell? ⟨z, 4, none⟩ = some (.int .i64 e.n) := h.cell 4
  rw [results_cell3 (p := 2) (u := 3) (v := 4) (ty := 50) rfl, h2, h3, h4]
  simp [go_sem, q0, q1, q2, q3, q4, evV, evL]
theorem Tryz.info2 : (Tryz.prog.info? 2).map (fun i => (i.zero, i.size, i.bytes)) = some (some (.int .i64 0), 1, 8) := by kernel_rfl
theorem mk4 (w : World) : (Instr.makeSlice 71 (.int .i64 4) (.int .i64 4)).run Tryz.prog w = .ok (.slice (some ⟨w.heap.size, 0, none⟩) 4 4) (w.alloc (.cells #[.int .i64 0, .int .i64 0, .int .i64 0, .int .i64 0] 2)) := by
  obtain ⟨i0, hi, hz0, hz1, hz2⟩ := info_parts Tryz.info2
  have := run_make (P := Tryz.prog) w 71 2 i0 _ Tryz.underlying71 hi hz0 .i64 .i64 4 4 (by decide) (by decide) (by rw [hz2]; decide) (by decide)
  have e : madeCells (Value.int .i64 0).cells ((4 : Int).toNat * 1) = #[.int .i64 0, .int .i64 0, .int .i64 0, .int .i64 0] := by kernel_rfl
  rw [hz1, e] at this
  exact this
/-- What the document's Get keeps while it goes on. -/
structure RI (w wr : World) (z p g : Nat) (l : List Int) : Prop where
  ev : Blk wr z (evL z5) 50
  no : Blk wr p (evL z5) 50
  va : Blk wr g (vb l) 2
  bel : Below w.heap.size w wr
  zl : w.heap.size ≤ z
  gl : w.heap.size ≤ g
  zp : z ≠ p
theorem RI.set {w wr : World} {z p g : Nat} {l : List Int} (h : RI w wr z p g l) (i : Nat) (x : Int) (hl : l.length = i) (hi : i < 4) : RI w (wr.setCell ⟨g, i, none⟩ (.int .i64 x)) z p g (l ++ [x]) := by
  refine ⟨h.ev.other (h.ev.ne h.va (by decide)) _, h.no.other (h.no.ne h.va (by decide)) _, ?_, ?_, h.zl, h.gl, h.zp⟩
  · rw [← vb_set l x i hl hi]; exact h.va.set i _
  · exact ((Fr.of_below h.bel).setCell (p := ⟨g, i, none⟩) (Or.inl h.gl) _).below (by simp)
/-- What the inner loop has after j bytes. -/
def vj (x : Nat) (r : List Nat) (j : Nat) : Int := if j = 0 then (if 128 ≤ x then -1 else 0) else vl (r.take j)
theorem vj_step (r : List Nat) (x j y : Nat) (hx : r[0]? = some x) (hxl : x < 256) (hy : r[j]? = some y) : vj x r (j + 1) = vj x r j * 256 + y := by
  have hj : j < r.length := by
    rcases Nat.lt_or_ge j r.length with q | q
    · exact q
    · rw [List.getElem?_eq_none q] at hy; cases hy
  cases r with
  | nil => simp at hj
  | cons a t =>
    have ha : a = x := by simpa using hx
    subst ha
    unfold vj
    rw [if_neg (by omega)]
    by_cases e : j = 0
    · subst e
      have : y = a := by simpa using hy.symm
      subst this
      rw [if_pos rfl]
      show vl [y] = _
      show sb y = _
      unfold sb
      split <;> omega
    · rw [if_neg e]
      obtain ⟨i, rfl⟩ : ∃ i, j = i + 1 := ⟨j - 1, by omega⟩
      have hy' : t[i]? = some y := by simpa using hy
      show vl (a :: t.take (i + 1)) = vl (a :: t.take i) * 256 + y
      exact fold_take a t i y hy'
theorem vj_range (x : Nat) (r : List Nat) (j : Nat) (hj : j ≤ 7) (hl : j ≤ r.length) (hb : ∀ y ∈ r, y < 256) : -36028797018963968 ≤ vj x r j ∧ vj x r j < 36028797018963968 := by
  unfold vj
  by_cases e : j = 0
  · rw [if_pos e]; split <;> omega
  · rw [if_neg e]
    cases r with
    | nil => simp at hl; omega
    | cons a t =>
      obtain ⟨i, rfl⟩ : ∃ i, j = i + 1 := ⟨j - 1, by omega⟩
      exact fold_range a t i (by omega) (by simpa using hl) hb
theorem wsm (n : Int) (h1 : -9223372036854775808 ≤ n) (h2 : n < 9223372036854775808) : wrap64 n = n := by (simp only [wrap64]; omega)
theorem ism (n : Int) (h1 : -9223372036854775808 ≤ n) (h2 : n < 9223372036854775808) : IntKind.i64.wrap n = n := by (rw [IntKind.wrap_i64]; omega)
theorem nw_is {n Q D : Nat} (h : n = Q + D) (hD : D ≤ 100000) : wrap64 ((n : Int) - (Q : Int)) = (D : Int) := by
  rw [show (n : Int) - (Q : Int) = (D : Int) by omega]
  exact wsm _ (by omega) (by omega)
theorem qw_is {q Q : Nat} (h : q + 1 = Q) (hq : q ≤ 100000) : wrap64 ((q : Int) + 1) = (Q : Int) := by
  rw [show (q : Int) + 1 = (Q : Int) by omega]
  exact wsm _ (by omega) (by omega)
theorem aw_is {q x : Nat} (h : q ≤ 200000) (hx : x ≤ 200000) : wrap64 ((q : Int) + (x : Int)) = ((q + x : Nat) : Int) := by
  rw [show (q : Int) + (x : Int) = ((q + x : Nat) : Int) by omega]
  exact wsm _ (by omega) (by omega)
theorem yw_is {x y : Nat} (h : x = y + 1) (hx : x ≤ 8) : wrap64 ((x : Int) - 1) = (y : Int) := by
  rw [show (x : Int) - 1 = (y : Int) by omega]
  exact wsm _ (by omega) (by omega)
theorem bit_tmod (wh i : Nat) : ((wh : Int) / 2 ^ i).tmod 2 = ((wh / 2 ^ i % 2 : Nat) : Int) := by
  rw [show (2 : Int) ^ i = ((2 ^ i : Nat) : Int) by simp, ← Int.natCast_ediv, Int.tmod_eq_emod_of_nonneg (Int.natCast_nonneg _)]
  rfl
theorem drop_some {xs : List Nat} {q x : Nat} (h : xs[q]? = some x) : xs.drop q = x :: xs.drop (q + 1) := by
  have hq : q < xs.length := by
    rcases Nat.lt_or_ge q xs.length with c | c
    · exact c
    · rw [List.getElem?_eq_none c] at h; cases h
  rw [List.drop_eq_getElem_cons hq]
  rw [List.getElem?_eq_getElem hq] at h
  rw [Option.some.inj h]
theorem wd_fits (v : Int) (x : Nat) (hv : I6 v) (h1 : 1 ≤ x) (h8 : x ≤ 8) (hf' : fitk v x = true) : wd v = x ↔ (x = 1 ∨ fitk v (x - 1) = false) := by
  rw [wd_cases v hv x h1 h8]
  exact ⟨fun h => h.2, fun h => ⟨hf', h⟩⟩
theorem vl_fit (r : List Nat) (x : Nat) (h1 : 1 ≤ x) (h8 : x ≤ 8) (hl : r.length = x) (hb : ∀ y ∈ r, y < 256) : I6 (vl r) ∧ fitk (vl r) x = true := by
  obtain ⟨j, rfl⟩ : ∃ j, x = j + 1 := ⟨x - 1, by omega⟩
  obtain ⟨p1, p2, _⟩ := vl_range r j hl hb
  rw [hg_hf _ (by omega) (by omega)] at p1 p2
  refine ⟨?_, (fit_iff _ _).2 ⟨p1, p2⟩⟩
  have : hf (j + 1) ≤ 9223372036854775808 := by
    have : j = 0 ∨ j = 1 ∨ j = 2 ∨ j = 3 ∨ j = 4 ∨ j = 5 ∨ j = 6 ∨ j = 7 := by omega
    rcases this with rfl | rfl | rfl | rfl | rfl | rfl | rfl | rfl <;> simp [hf]
  exact ⟨by omega, by omega⟩
set_option maxRecDepth 100000 in
set_option maxHeartbeats 8000000 in
theorem rget_any (w : World) (a : Option Addr) (n cap : Nat) (xs : List Nat) (h : CRow w a n cap xs) (hn : (n : Int) ≤ 100000) :
    Calls Tryz.prog 36 #[.slice a n cap] w fun e w' => e = .returned (geV (getE xs)) ∧ Below w.heap.size w w' := by
  have nn := h.nn
  have W0 : Hid (Blk ((w.alloc (.cells #[.int .i64 0, .int .i64 0, .int .i64 0, .int .u64 0, .int .i64 0] 50)).alloc (.cells #[.int .i64 0, .int .i64 0, .int .i64 0, .int .u64 0, .int .i64 0] 50)) w.heap.size (evL z5) 50 ∧ Blk ((w.alloc (.cells #[.int .i64 0, .int .i64 0, .int .i64 0, .int .u64 0, .int .i64 0] 50)).alloc (.cells #[.int .i64 0, .int .i64 0, .int .i64 0, .int .u64 0, .int .i64 0] 50)) (w.heap.size + 1) (evL z5) 50 ∧ Below w.heap.size w ((w.alloc (.cells #[.int .i64 0, .int .i64 0, .int .i64 0, .int .u64 0, .int .i64 0] 50)).alloc (.cells #[.int .i64 0, .int .i64 0, .int .i64 0, .int .u64 0, .int .i64 0] 50))) := by
    refine ⟨(Blk.new w (evL z5) 50).alloc _, ?_, ((Below.refl _ _).alloc (Nat.le_refl _) _).alloc (by simp) _⟩
    have := Blk.new (w.alloc (.cells #[.int .i64 0, .int .i64 0, .int .i64 0, .int .u64 0, .int .i64 0] 50)) (evL z5) 50
    rw [show (w.alloc (.cells #[.int .i64 0, .int .i64 0, .int .i64 0, .int .u64 0, .int .i64 0] 50)).heap.size = w.heap.size + 1 by simp] at this
    exact this
  have KX : Hid (∀ k x, xs[k]? = some x → ∃ b off, a = some ⟨b, off, none⟩ ∧ ((w.alloc (.cells #[.int .i64 0, .int .i64 0, .int .i64 0, .int .u64 0, .int .i64 0] 50)).alloc (.cells #[.int .i64 0, .int .i64 0, .int .i64 0, .int .u64 0, .int .i64 0] 50)).cell? ⟨b, off + k, none⟩ = some (.int .u8 (x : Nat))) := fun k x hx => by
    obtain ⟨b, off, e, _, c⟩ := (h.below W0.out.2.2).cell hx
    exact ⟨b, off, e, c⟩
  have HC : Hid (CRow w a n cap xs) := h
  rcases hd_cases xs with ⟨c, c0, hd⟩ | ⟨k, wh, r, hxs, k1, k30, wh15, hd⟩
  · rw [getE_short1 xs c hd c0, show geV (.error c) = .tuple #[evV z5, .int .i64 0, .int .i64 c] from rfl]
    rcases xs with _ | ⟨x, _ | ⟨wh, r⟩⟩
    · obtain rfl : n = 0 := by simpa using nn
      obtain rfl : c = 14 := by simp [hdV] at hd; omega
      clear h nn hn hd c0 KX HC
      go_enter Tryz.func36, Tryz.ntmps36
      go_wp2
      exact bodyPost_ret (rget_ret (e := z5) W0.out.1 rfl rfl rfl) rfl ⟨rfl, W0.out.2.2⟩
    · obtain rfl : n = 1 := by simpa using nn
      have hx := h.lt x (by simp)
      obtain ⟨b, off, rfl, cx⟩ := KX.out 0 x rfl
      have cx : ((w.alloc (.cells #[.int .i64 0, .int .i64 0, .int .i64 0, .int .u64 0, .int .i64 0] 50)).alloc (.cells #[.int .i64 0, .int .i64 0, .int .i64 0, .int .u64 0, .int .i64 0] 50)).cell? ⟨b, off, none⟩ = some (.int .u8 (x : Nat)) := cx
      cases q : okk (x : Int)
      · obtain rfl : c = 13 := by simp [hdV, q] at hd; omega
        have kk : (x : Int) < 1 ∨ (¬ (x : Int) < 1 ∧ 30 < (x : Int)) := by simp [okk] at q; omega
        clear h nn hn hd c0 KX HC q hx
        rcases kk with k1 | ⟨k1, k2⟩
        all_goals
          go_enter Tryz.func36, Tryz.ntmps36
          go_wp2
          exact bodyPost_ret (rget_ret (e := z5) W0.out.1 rfl rfl rfl) rfl ⟨rfl, W0.out.2.2⟩
      · obtain rfl : c = 14 := by simp [hdV, q] at hd; omega
        have kk : ¬ (x : Int) < 1 ∧ ¬ 30 < (x : Int) := by simp [okk] at q; omega
        obtain ⟨k1, k2⟩ := kk
        clear h nn hn hd c0 KX HC q hx
        go_enter Tryz.func36, Tryz.ntmps36
        go_wp2
        exact bodyPost_ret (rget_ret (e := z5) W0.out.1 rfl rfl rfl) rfl ⟨rfl, W0.out.2.2⟩
    · have hl : n = r.length + 2 := by simpa using nn
      have hx := h.lt x (by simp)
      obtain ⟨b, off, rfl, cx⟩ := KX.out 0 x rfl
      have cx : ((w.alloc (.cells #[.int .i64 0, .int .i64 0, .int .i64 0, .int .u64 0, .int .i64 0] 50)).alloc (.cells #[.int .i64 0, .int .i64 0, .int .i64 0, .int .u64 0, .int .i64 0] 50)).cell? ⟨b, off, none⟩ = some (.int .u8 (x : Nat)) := cx
      obtain ⟨b', off', e1, cw⟩ := KX.out 1 wh rfl
      simp only [Option.some.injEq, Addr.mk.injEq, and_true] at e1
      obtain ⟨rfl, rfl⟩ := e1
      have n0 : ((n : Int) == 0) = false := by rw [beq_eq_false_iff_ne]; omega
      have n1 : ((n : Int) == 1) = false := by rw [beq_eq_false_iff_ne]; omega
      have n2 : (0 : Int) < n := by omega
      have n3 : (1 : Int) < n := by omega
      obtain rfl : c = 13 := by
        simp only [hdV] at hd
        cases q : okk (x : Int) <;> rw [q] at hd <;> simp at hd
        · omega
        · split at hd <;> simp at hd <;> omega
      have kk : (x : Int) < 1 ∨ (¬ (x : Int) < 1 ∧ 30 < (x : Int)) ∨ (¬ (x : Int) < 1 ∧ ¬ 30 < (x : Int) ∧ 15 < (wh : Int)) := by
        simp only [hdV] at hd
        cases q : okk (x : Int) <;> rw [q] at hd <;> simp [okk] at q
        · omega
        · simp at hd
          by_cases hw : 15 < wh
          · omega
          · first | exact absurd hd hw | (rw [if_neg hw] at hd; simp at hd)
      clear h nn hn hd c0 KX HC hx hl
      rcases kk with k1 | ⟨k1, k2⟩ | ⟨k1, k2, k3⟩
      all_goals
        go_enter Tryz.func36, Tryz.ntmps36
        go_wp2
        exact bodyPost_ret (rget_ret (e := z5) W0.out.1 rfl rfl rfl) rfl ⟨rfl, W0.out.2.2⟩
  · subst hxs
    have GE : Hid (∀ i l q, gl (k :: wh :: r) wh i = .ok (l, q) → l.length = i ∧ 2 ≤ q ∧ q ≤ n ∧ ∀ j, j < i → I6 (l.getD j 0)) := fun i l q e => by
      obtain ⟨a1, a2, a3, _, a5⟩ := gl_back (k :: wh :: r) wh h.lt (by simp) i l q e
      exact ⟨a1, a2, by rw [h.nn]; exact a3, fun j hj => (a5 j hj).1⟩
    have GER : Hid (∀ i c, i ≤ 4 → gl (k :: wh :: r) wh i = .error c → getE (k :: wh :: r) = .error c) := fun i c hi e => ge_err k1 k30 wh15 hi e
    have GOK : Hid (∀ l q, gl (k :: wh :: r) wh 4 = .ok (l, q) → getE (k :: wh :: r) = .ok (⟨k, l.getD 0 0, l.getD 1 0, u6 (l.getD 2 0), l.getD 3 0⟩, q)) := fun l q e => ge_ok k1 k30 wh15 e
    have hl : n = r.length + 2 := by simpa using nn
    obtain ⟨b, off, rfl, cx⟩ := KX.out 0 k rfl
    have cx : ((w.alloc (.cells #[.int .i64 0, .int .i64 0, .int .i64 0, .int .u64 0, .int .i64 0] 50)).alloc (.cells #[.int .i64 0, .int .i64 0, .int .i64 0, .int .u64 0, .int .i64 0] 50)).cell? ⟨b, off, none⟩ = some (.int .u8 (k : Nat)) := cx
    obtain ⟨b', off', e1, cw⟩ := KX.out 1 wh rfl
    simp only [Option.some.injEq, Addr.mk.injEq, and_true] at e1
    obtain ⟨rfl, rfl⟩ := e1
    have n0 : ((n : Int) == 0) = false := by rw [beq_eq_false_iff_ne]; omega
    have n1 : ((n : Int) == 1) = false := by rw [beq_eq_false_iff_ne]; omega
    have n2 : (0 : Int) < n := by omega
    have n3 : (1 : Int) < n := by omega
    have m1 : ¬ (k : Int) < 1 := by omega
    have m2 : ¬ 30 < (k : Int) := by omega
    have m3 : ¬ 15 < (wh : Int) := by omega
    obtain ⟨w3, hw3⟩ : ∃ w3, ((w.alloc (.cells #[.int .i64 0, .int .i64 0, .int .i64 0, .int .u64 0, .int .i64 0] 50)).alloc (.cells #[.int .i64 0, .int .i64 0, .int .i64 0, .int .u64 0, .int .i64 0] 50)).alloc (.cells #[.int .i64 0, .int .i64 0, .int .i64 0, .int .i64 0] 2) = w3 := ⟨_, rfl⟩
    have mk := mk4 ((w.alloc (.cells #[.int .i64 0, .int .i64 0, .int .i64 0, .int .u64 0, .int .i64 0] 50)).alloc (.cells #[.int .i64 0, .int .i64 0, .int .i64 0, .int .u64 0, .int .i64 0] 50))
    rw [hw3, show ((w.alloc (.cells #[.int .i64 0, .int .i64 0, .int .i64 0, .int .u64 0, .int .i64 0] 50)).alloc (.cells #[.int .i64 0, .int .i64 0, .int .i64 0, .int .u64 0, .int .i64 0] 50)).heap.size = w.heap.size + 2 by simp] at mk
    have I0 : Hid (RI w w3 w.heap.size (w.heap.size + 1) (w.heap.size + 2) []) := by
      have b3 := (Below.refl ((w.alloc (.cells #[.int .i64 0, .int .i64 0, .int .i64 0, .int .u64 0, .int .i64 0] 50)).alloc (.cells #[.int .i64 0, .int .i64 0, .int .i64 0, .int .u64 0, .int .i64 0] 50)).heap.size ((w.alloc (.cells #[.int .i64 0, .int .i64 0, .int .i64 0, .int .u64 0, .int .i64 0] 50)).alloc (.cells #[.int .i64 0, .int .i64 0, .int .i64 0, .int .u64 0, .int .i64 0] 50))).alloc (Nat.le_refl _) (.cells #[.int .i64 0, .int .i64 0, .int .i64 0, .int .i64 0] 2)
      have nb := Blk.new ((w.alloc (.cells #[.int .i64 0, .int .i64 0, .int .i64 0, .int .u64 0, .int .i64 0] 50)).alloc (.cells #[.int .i64 0, .int .i64 0, .int .i64 0, .int .u64 0, .int .i64 0] 50)) (vb []) 2
      rw [show ((w.alloc (.cells #[.int .i64 0, .int .i64 0, .int .i64 0, .int .u64 0, .int .i64 0] 50)).alloc (.cells #[.int .i64 0, .int .i64 0, .int .i64 0, .int .u64 0, .int .i64 0] 50)).heap.size = w.heap.size + 2 by simp] at nb
      have nb : Blk (((w.alloc (.cells #[.int .i64 0, .int .i64 0, .int .i64 0, .int .u64 0, .int .i64 0] 50)).alloc (.cells #[.int .i64 0, .int .i64 0, .int .i64 0, .int .u64 0, .int .i64 0] 50)).alloc (.cells #[.int .i64 0, .int .i64 0, .int .i64 0, .int .i64 0] 2)) (w.heap.size + 2) (vb []) 2 := nb
      rw [hw3] at b3 nb
      exact ⟨W0.out.1.keep (Fr.of_below b3) W0.out.1.lt (by simp), W0.out.2.1.keep (Fr.of_below b3) W0.out.2.1.lt (by simp), nb, W0.out.2.2.trans (b3.mono W0.out.2.2.size), Nat.le_refl _, by omega, by omega⟩
    have G0 : Hid (gl (k :: wh :: r) wh 0 = .ok ([], 2)) := rfl
    have KW : Hid ((k :: wh :: r)[1]? = some wh ∧ (k :: wh :: r)[0]? = some k) := ⟨rfl, rfl⟩
    have WH : Hid (wh ≤ 15 ∧ k ≤ 30) := ⟨wh15, k30⟩
    obtain ⟨xs, hxs⟩ : ∃ xs, k :: wh :: r = xs := ⟨_, rfl⟩
    rw [hxs] at GE GER GOK HC G0 KW ⊢
    have HN : Hid ((n : Int) ≤ 100000 ∧ 2 ≤ n) := ⟨hn, by omega⟩
    obtain ⟨RR, hRR⟩ : ∃ RR, geV (getE xs) = RR := ⟨_, rfl⟩
    have HRR : Hid (geV (getE xs) = RR) := hRR
    rw [hRR]
    clear h nn hn hd KX hl hw3 hxs k1 k30 wh15 hRR
    go_enter Tryz.func36, Tryz.ntmps36
    go_wp2
    go_loopw [6, 8] (fun qv iv wr => ∃ (i q : Nat) (l : List Int), (i : Int) ≤ 4 ∧ gl xs wh i = .ok (l, q) ∧ RI w wr w.heap.size (w.heap.size + 1) (w.heap.size + 2) l ∧ qv = .int .i64 q ∧ iv = .int .i64 i) (fun _ i _ => 4 - (intOf i).toNat)
    case atStart => exact ⟨0, 2, [], by omega, G0.out, I0.out, rfl, rfl⟩
    case round =>
      obtain ⟨i, q, l, hi, hg, ri, rfl, rfl⟩ := hrel
      clear I0 G0 mk cx cw W0
      obtain ⟨ll, q2, qn, il⟩ := GE.out i l q hg
      have CR := HC.out.below ri.bel
      obtain ⟨b', off', e1, _, cw⟩ := CR.cell KW.out.1
      simp only [Option.some.injEq, Addr.mk.injEq, and_true] at e1
      obtain ⟨rfl, rfl⟩ := e1
      obtain ⟨b', off', e1, _, cx⟩ := CR.cell KW.out.2
      simp only [Option.some.injEq, Addr.mk.injEq, and_true] at e1
      obtain ⟨rfl, rfl⟩ := e1
      have cx : wr.cell? ⟨b, off, none⟩ = some (.int .u8 (k : Nat)) := cx
      have HG : Hid (gl xs wh i = .ok (l, q)) := hg
      have RI0 : Hid (RI w wr w.heap.size (w.heap.size + 1) (w.heap.size + 2) l) := ri
      have LL : Hid (l.length = i) := ll
      have HQ : Hid (2 ≤ q ∧ q ≤ n) := ⟨q2, qn⟩
      have CRH : Hid (CRow wr (some ⟨b, off, none⟩) n cap xs) := CR
      have d0 : wr.cell? ⟨w.heap.size, 0, none⟩ = some (.int .i64 0) := ri.ev.cell 0
      have d1 : wr.cell? ⟨w.heap.size, 1, none⟩ = some (.int .i64 0) := ri.ev.cell 1
      have d2 : wr.cell? ⟨w.heap.size, 2, none⟩ = some (.int .i64 0) := ri.ev.cell 2
      have d3 : wr.cell? ⟨w.heap.size, 3, none⟩ = some (.int .u64 0) := ri.ev.cell 3
      have d4 : wr.cell? ⟨w.heap.size, 4, none⟩ = some (.int .i64 0) := ri.ev.cell 4
      have f0 : wr.frozen? ⟨w.heap.size, 0, none⟩ = false := ri.ev.free 0
      have f1 : wr.frozen? ⟨w.heap.size, 1, none⟩ = false := ri.ev.free 1
      have f2 : wr.frozen? ⟨w.heap.size, 2, none⟩ = false := ri.ev.free 2
      have f3 : wr.frozen? ⟨w.heap.size, 3, none⟩ = false := ri.ev.free 3
      have f4 : wr.frozen? ⟨w.heap.size, 4, none⟩ = false := ri.ev.free 4
      have o0 : wr.cell? ⟨w.heap.size + 1, 0, none⟩ = some (.int .i64 0) := ri.no.cell 0
      have o1 : wr.cell? ⟨w.heap.size + 1, 1, none⟩ = some (.int .i64 0) := ri.no.cell 1
      have o2 : wr.cell? ⟨w.heap.size + 1, 2, none⟩ = some (.int .i64 0) := ri.no.cell 2
      have o3 : wr.cell? ⟨w.heap.size + 1, 3, none⟩ = some (.int .u64 0) := ri.no.cell 3
      have o4 : wr.cell? ⟨w.heap.size + 1, 4, none⟩ = some (.int .i64 0) := ri.no.cell 4
      clear hg ri ll q2 qn CR
      by_cases i4 : (i : Int) < 4
      · have vi : wr.cell? ⟨w.heap.size + 2, i, none⟩ = some (.int .i64 (l.getD i 0)) := by
          have c := RI0.out.va.cell i
          rw [c]
          have : i = 0 ∨ i = 1 ∨ i = 2 ∨ i = 3 := by omega
          rcases this with rfl | rfl | rfl | rfl <;> rfl
        have gf : wr.frozen? ⟨w.heap.size + 2, i, none⟩ = false := RI0.out.va.free i
        have I5 : Hid (((i + 1 : Nat) : Int) ≤ 4) := by show ((i + 1 : Nat) : Int) ≤ 4; omega
        by_cases bz : wh / 2 ^ i % 2 = 0
        · have bt : (((wh : Int) / 2 ^ i).tmod 2 == 0) = true := by
            rw [beq_iff_eq, bit_tmod, bz]
            rfl
          have NX : Hid (gl xs wh (i + 1) = .ok (l ++ [0], q)) := gl_skip HG.out bz
          have NG : Hid (RI w wr w.heap.size (w.heap.size + 1) (w.heap.size + 2) (l ++ [0])) := ⟨RI0.out.ev, RI0.out.no, by rw [vb_zero]; exact RI0.out.va, RI0.out.bel, RI0.out.zl, RI0.out.gl, RI0.out.zp⟩
          clear il GE GER GOK HRR bz HG
          go_wp2
          go_roundw
          case rel => exact ⟨i + 1, q, l ++ [0], by omega, NX.out, NG.out, rfl, by go_num⟩
          case measure => simp [intOf]; omega
        · have bt : (((wh : Int) / 2 ^ i).tmod 2 == 0) = false := by
            rw [beq_eq_false_iff_ne, bit_tmod]
            exact fun c => bz (Int.ofNat_inj.1 c)
          have BZ : Hid (¬ wh / 2 ^ i % 2 = 0) := bz
          clear bz
          by_cases qe : (n : Int) ≤ q
          · have gn0 : gn (xs.drop q) = .error 14 := by
              rw [show xs.drop q = [] from List.drop_eq_nil_of_le (by rw [← CRH.out.nn]; omega)]
              rfl
            have RE : Hid (.tuple #[evV z5, .int .i64 0, .int .i64 14] = RR) := by
              have e := HRR.out
              rw [GER.out (i + 1) 14 (by omega) (gl_bad HG.out BZ.out gn0)] at e
              exact e
            clear il GE GER GOK HRR HG gn0 vi gf
            go_wp2
            exact bodyPost_ret (rget_ret (e := z5) (blk5 RI0.out.ev _ _ _ _ _) rfl rfl rfl) rfl ⟨congrArg Ending.returned RE.out, bel5 RI0.out.bel RI0.out.zl _ _ _ _ _⟩
          · obtain ⟨x, hx⟩ := get_some (xs := xs) (k := q) (by rw [← CRH.out.nn]; omega)
            have dx := drop_some hx
            obtain ⟨b', off', e1, _, cq⟩ := CRH.out.cell hx
            simp only [Option.some.injEq, Addr.mk.injEq, and_true] at e1
            obtain ⟨rfl, rfl⟩ := e1
            have hxl := CRH.out.lt x (List.mem_of_getElem? hx)
            have ql : (q : Int) < n := by omega
            have HXW : Hid (wrap64 (x : Int) = x ∧ IntKind.i64.wrap (x : Int) = x) := ⟨wsm _ (by omega) (by omega), ism _ (by omega) (by omega)⟩
            by_cases kr : x < 1 ∨ 8 < x
            · have gn0 : gn (xs.drop q) = .error 13 := by rw [dx]; simp only [gn]; rw [if_pos kr]
              have RE : Hid (.tuple #[evV z5, .int .i64 0, .int .i64 13] = RR) := by
                have e := HRR.out
                rw [GER.out (i + 1) 13 (by omega) (gl_bad HG.out BZ.out gn0)] at e
                exact e
              have kk : (x : Int) < 1 ∨ (¬ (x : Int) < 1 ∧ 8 < (x : Int)) := by omega
              clear il GE GER GOK HRR HG gn0 vi gf kr dx hx hxl
              obtain ⟨xw, xi⟩ := HXW.out
              rcases kk with k1 | ⟨k1, k2⟩
              · go_wp2
                exact bodyPost_ret (rget_ret (e := z5) (blk5 RI0.out.ev _ _ _ _ _) rfl rfl rfl) rfl ⟨congrArg Ending.returned RE.out, bel5 RI0.out.bel RI0.out.zl _ _ _ _ _⟩
              · go_wp2
                exact bodyPost_ret (rget_ret (e := z5) (blk5 RI0.out.ev _ _ _ _ _) rfl rfl rfl) rfl ⟨congrArg Ending.returned RE.out, bel5 RI0.out.bel RI0.out.zl _ _ _ _ _⟩
            · have k1 : ¬ (x : Int) < 1 := by omega
              have k2 : ¬ 8 < (x : Int) := by omega
              obtain ⟨Q, hQ⟩ : ∃ Q, q + 1 = Q := ⟨_, rfl⟩
              have Qn : Q ≤ n := by omega
              obtain ⟨D, hD⟩ : ∃ D : Nat, n = Q + D := ⟨n - Q, by omega⟩
              have D1 : D ≤ 100000 := by have := HN.out; omega
              have HQW : Hid (wrap64 ((q : Int) + 1) = (Q : Int) ∧ wrap64 ((n : Int) - (Q : Int)) = (D : Int)) := ⟨qw_is hQ (by have := HN.out; omega), nw_is hD D1⟩
              rw [hQ] at dx
              by_cases sh : (D : Int) < x
              · have gn0 : gn (xs.drop q) = .error 14 := by
                  rw [dx]; simp only [gn]
                  rw [if_neg kr, if_pos (by rw [List.length_drop, ← CRH.out.nn]; omega)]
                have RE : Hid (.tuple #[evV z5, .int .i64 0, .int .i64 14] = RR) := by
                  have e := HRR.out
                  rw [GER.out (i + 1) 14 (by omega) (gl_bad HG.out BZ.out gn0)] at e
                  exact e
                clear il GE GER GOK HRR HG gn0 vi gf kr dx hx hxl hQ hD Qn D1
                obtain ⟨xw, xi⟩ := HXW.out
                obtain ⟨qw, nw⟩ := HQW.out
                go_wp2
                exact bodyPost_ret (rget_ret (e := z5) (blk5 RI0.out.ev _ _ _ _ _) rfl rfl rfl) rfl ⟨congrArg Ending.returned RE.out, bel5 RI0.out.bel RI0.out.zl _ _ _ _ _⟩
              · obtain ⟨r', hr'⟩ : ∃ r', xs.drop Q = r' := ⟨_, rfl⟩
                rw [hr'] at dx
                have rl : r'.length = n - Q := by rw [← hr', List.length_drop, ← CRH.out.nn]
                have rb : ∀ y ∈ r', y < 256 := fun y hy => CRH.out.lt y (by rw [← hr'] at hy; exact List.mem_of_mem_drop hy)
                have RC : Hid (∀ (j y : Nat), r'[j]? = some y → wr.cell? ⟨b, off + (Q + j), none⟩ = some (.int .u8 (y : Nat))) := fun j y hy => by
                  have h2 : xs[Q + j]? = some y := by rw [← hr', List.getElem?_drop] at hy; exact hy
                  obtain ⟨b', off', e1, _, c⟩ := CRH.out.cell h2
                  simp only [Option.some.injEq, Addr.mk.injEq, and_true] at e1
                  obtain ⟨rfl, rfl⟩ := e1
                  exact c
                have tl : (r'.take x).length = x := by rw [List.length_take]; omega
                obtain ⟨iv, fv⟩ := vl_fit (r'.take x) x (by omega) (by omega) tl (fun y hy => rb y (List.mem_of_mem_take hy))
                have gq : gn (xs.drop q) = if vl (r'.take x) = 0 ∨ wd (vl (r'.take x)) ≠ x then .error 13 else .ok (vl (r'.take x), x + 1) := by
                  rw [dx]; simp only [gn]
                  rw [if_neg kr, if_neg (by omega)]
                have wf := wd_fits (vl (r'.take x)) x iv (by omega) (by omega) fv
                obtain ⟨x0, hx0⟩ := get_some (xs := r') (k := 0) (by omega)
                have c0 := RC.out 0 x0 hx0
                have c0 : wr.cell? ⟨b, off + Q, none⟩ = some (.int .u8 (x0 : Nat)) := c0
                have x0l := rb x0 (List.mem_of_getElem? hx0)
                have VS : Hid (∀ (j y : Nat), r'[j]? = some y → vj x0 r' (j + 1) = vj x0 r' j * 256 + y) := fun j y hy => vj_step r' x0 j y hx0 x0l hy
                have VR : Hid (∀ (j : Nat), j ≤ 7 → j ≤ r'.length → -36028797018963968 ≤ vj x0 r' j ∧ vj x0 r' j < 36028797018963968) := fun j h7 hl => vj_range x0 r' j h7 hl rb
                have VE : Hid (vj x0 r' x = vl (r'.take x)) := by show vj x0 r' x = vl (r'.take x); unfold vj; rw [if_neg (by omega)]
                have RB : Hid (∀ y ∈ r', y < 256) := rb
                have RL : Hid (r'.length = n - Q ∧ x ≤ r'.length ∧ 1 ≤ x ∧ x ≤ 8 ∧ Q ≤ n) := ⟨rl, by omega, by omega, by omega, by omega⟩
                have QL : (Q : Int) < n := by omega
                have XQ : x ≤ 200000 ∧ Q ≤ 200000 := by have := HN.out; omega
                obtain ⟨y, hy⟩ : ∃ y, x = y + 1 := ⟨x - 1, by omega⟩
                have HAW : Hid (wrap64 ((Q : Int) + (x : Int)) = ((Q + x : Nat) : Int) ∧ wrap64 ((x : Int) - 1) = (y : Int)) := ⟨aw_is XQ.2 XQ.1, yw_is hy (by omega)⟩
                have FT : Hid (1 ≤ y → ∀ w, _) := fun h1 w => fits_any (vl (r'.take x)) y w iv h1 (by omega)
                obtain ⟨V, hV⟩ : ∃ V, vl (r'.take x) = V := ⟨_, rfl⟩
                rw [hV] at gq wf VE FT iv
                have GQ : Hid (gn (xs.drop q) = if V = 0 ∨ wd V ≠ x then .error 13 else .ok (V, x + 1)) := gq
                have WF : Hid (wd V = x ↔ (x = 1 ∨ fitk V (x - 1) = false)) := wf
                have HYX : Hid (x = y + 1 ∧ q + 1 = Q) := ⟨hy, hQ⟩
                have V0 : Hid (vj x0 r' 0 = if 128 ≤ x0 then -1 else 0) := rfl
                have xb : ((128 : Int) ≤ x0 ∧ (-1 : Int) = vj x0 r' 0) ∨ (¬ (128 : Int) ≤ x0 ∧ (0 : Int) = vj x0 r' 0) := by
                  rw [V0.out]
                  by_cases c : 128 ≤ x0
                  · rw [if_pos c]; exact Or.inl ⟨by omega, rfl⟩
                  · rw [if_neg c]; exact Or.inr ⟨by omega, rfl⟩
                clear dx rl rb tl fv gq wf hx0 x0l hV hx hxl hr' hy hQ kr V0 qe hD Qn D1 XQ
                rcases xb with ⟨xb1, xb2⟩ | ⟨xb1, xb2⟩
                · have XB : Hid ((-1 : Int) = vj x0 r' 0) := xb2
                  clear xb2
                  obtain ⟨xw, xi⟩ := HXW.out
                  obtain ⟨qw, nw⟩ := HQW.out
                  go_wp2
                  go_loop [10, 11] (fun v j => ∃ m : Nat, (m : Int) ≤ x ∧ v = .int .i64 (vj x0 r' m) ∧ j = .int .i64 m) (fun _ j => x - (intOf j).toNat)
                  case atStart => exact ⟨0, by omega, congrArg _ XB.out, rfl⟩
                  case round =>
                    obtain ⟨m, hm, rfl, rfl⟩ := hrel
                    clear xw xi qw nw
                    by_cases mx : (m : Int) < x
                    · have rl := RL.out
                      obtain ⟨ym, hym⟩ := get_some (xs := r') (k := m) (by omega)
                      have cm := RC.out m ym hym
                      have yl := RB.out ym (List.mem_of_getElem? hym)
                      have st := VS.out m ym hym
                      obtain ⟨r1, r2⟩ := VR.out m (by omega) (by omega)
                      have el : ((Q + m : Nat) : Int) < n := by omega
                      have EW : Hid (wrap64 ((Q : Int) + (m : Int)) = ((Q + m : Nat) : Int)) := aw_is (by have := HN.out; omega) (by omega)
                      obtain ⟨QM, hQM⟩ : ∃ QM, Q + m = QM := ⟨_, rfl⟩
                      rw [hQM] at cm EW el
                      obtain ⟨v1, hv1⟩ : ∃ v1, vj x0 r' (m + 1) = v1 := ⟨_, rfl⟩
                      have HV1 : Hid (vj x0 r' (m + 1) = v1) := hv1
                      rw [hv1] at st
                      generalize vj x0 r' m = v0 at *
                      have SS : Hid (wrap64 (v0 * 256) = v0 * 256 ∧ IntKind.i64.wrap (v0 * 256) = v0 * 256 ∧ wrap64 (v0 * 256 + (ym : Int)) = v1 ∧ wrap64 (ym : Int) = ym ∧ IntKind.i64.wrap (ym : Int) = ym) := ⟨wsm _ (by omega) (by omega), ism _ (by omega) (by omega), (wsm _ (by omega) (by omega)).trans st.symm, wsm _ (by omega) (by omega), ism _ (by omega) (by omega)⟩
                      have NM : Hid ((((m + 1 : Nat)) : Int) ≤ x) := by show (((m + 1 : Nat)) : Int) ≤ x; omega
                      clear rl hym yl st r1 r2 hQM hv1
                      have ew := EW.out
                      obtain ⟨s1, s1', s2, s3, s3'⟩ := SS.out
                      go_wp2
                      go_round
                      case rel => exact ⟨m + 1, NM.out, congrArg _ (s2.trans HV1.out.symm), by go_num⟩
                      case measure => (clear ew s1 s1' s2 s3 s3'; simp [intOf]; omega)
                    · obtain rfl : m = x := by omega
                      rw [VE.out]
                      by_cases v0 : V = 0
                      · have gn0 : gn (xs.drop q) = .error 13 := by rw [GQ.out, if_pos (Or.inl v0)]
                        have RE : Hid (.tuple #[evV z5, .int .i64 0, .int .i64 13] = RR) := by
                          have e := HRR.out
                          rw [GER.out (i + 1) 13 (by omega) (gl_bad HG.out BZ.out gn0)] at e
                          exact e
                        subst v0
                        clear il GE GER GOK HRR HG gn0 vi gf WF FT GQ VS VR VE
                        obtain ⟨aw, yw⟩ := HAW.out
                        go_wp2
                        exact bodyPost_ret (rget_ret (e := z5) (blk5 RI0.out.ev _ _ _ _ _) rfl rfl rfl) rfl ⟨congrArg Ending.returned RE.out, bel5 RI0.out.bel RI0.out.zl _ _ _ _ _⟩
                      · have v1 : (V == 0) = false := beq_eq_false_iff_ne.2 v0
                        by_cases m1x : (1 : Int) < m
                        · have F1 : Hid (∀ w, _) := FT.out (by have := HYX.out; omega)
                          have ym : ((y : Nat) : Int) = (m : Int) - 1 := by have := HYX.out.1; omega
                          rw [ym] at F1
                          clear ym
                          cases ff : fitk V y with
                          | true =>
                            have nw1 : wd V ≠ m := fun c => by
                              have := WF.out.1 c
                              have hh := HYX.out.1
                              rw [show m - 1 = y by omega, ff] at this
                              rcases this with h | h
                              · omega
                              · cases h
                            have gn0 : gn (xs.drop q) = .error 13 := by rw [GQ.out, if_pos (Or.inr nw1)]
                            have RE : Hid (.tuple #[evV z5, .int .i64 0, .int .i64 13] = RR) := by
                              have e := HRR.out
                              rw [GER.out (i + 1) 13 (by omega) (gl_bad HG.out BZ.out gn0)] at e
                              exact e
                            rw [ff] at F1
                            clear il GE GER GOK HRR HG gn0 vi gf WF FT GQ VS VR VE nw1 ff v0
                            go_wp2_with fail
                            refine (F1.out _).mono ?_
                            rintro e w'' ⟨rfl, e0⟩
                            subst e0
                            go_wp2
                            exact bodyPost_ret (rget_ret (e := z5) (blk5 RI0.out.ev _ _ _ _ _) rfl rfl rfl) rfl ⟨congrArg Ending.returned RE.out, bel5 RI0.out.bel RI0.out.zl _ _ _ _ _⟩
                          | false =>
                            have ew1 : wd V = m := WF.out.2 (Or.inr (by rw [show m - 1 = y by have := HYX.out.1; omega]; exact ff))
                            have NX : Hid (gl xs wh (i + 1) = .ok (l ++ [V], Q + m)) := by
                              have e := gl_more HG.out BZ.out (GQ.out.trans (if_neg (by simp [v0, ew1])))
                              rw [show q + (m + 1) = Q + m by have := HYX.out.2; omega] at e
                              exact e
                            have NG : Hid (RI w (wr.setCell ⟨w.heap.size + 2, i, none⟩ (.int .i64 V)) w.heap.size (w.heap.size + 1) (w.heap.size + 2) (l ++ [V])) := RI0.out.set i V LL.out (by omega)
                            rw [ff] at F1
                            clear il GE GER GOK HRR HG WF FT GQ VS VR VE ff v0 ew1
                            go_wp2_with fail
                            refine (F1.out _).mono ?_
                            rintro e w'' ⟨rfl, e0⟩
                            subst e0
                            go_wp2
                            go_roundw
                            case rel => exact ⟨i + 1, Q + m, l ++ [V], I5.out, NX.out, NG.out, congrArg _ HAW.out.1, by go_num⟩
                            case measure => (simp [intOf]; omega)
                        · have ew1 : wd V = m := WF.out.2 (Or.inl (by have := RL.out; omega))
                          have NX : Hid (gl xs wh (i + 1) = .ok (l ++ [V], Q + m)) := by
                            have e := gl_more HG.out BZ.out (GQ.out.trans (if_neg (by simp [v0, ew1])))
                            rw [show q + (m + 1) = Q + m by have := HYX.out.2; omega] at e
                            exact e
                          have NG : Hid (RI w (wr.setCell ⟨w.heap.size + 2, i, none⟩ (.int .i64 V)) w.heap.size (w.heap.size + 1) (w.heap.size + 2) (l ++ [V])) := RI0.out.set i V LL.out (by omega)
                          clear il GE GER GOK HRR HG WF FT GQ VS VR VE v0 ew1
                          obtain ⟨aw, yw⟩ := HAW.out
                          go_wp2
                          go_roundw
                          case rel => exact ⟨i + 1, Q + m, l ++ [V], I5.out, NX.out, NG.out, congrArg _ aw, by go_num⟩
                          case measure => (clear aw yw; simp [intOf]; omega)
                · have XB : Hid ((0 : Int) = vj x0 r' 0) := xb2
                  clear xb2
                  obtain ⟨xw, xi⟩ := HXW.out
                  obtain ⟨qw, nw⟩ := HQW.out
                  go_wp2
                  go_loop [10, 11] (fun v j => ∃ m : Nat, (m : Int) ≤ x ∧ v = .int .i64 (vj x0 r' m) ∧ j = .int .i64 m) (fun _ j => x - (intOf j).toNat)
                  case atStart => exact ⟨0, by omega, congrArg _ XB.out, rfl⟩
                  case round =>
                    obtain ⟨m, hm, rfl, rfl⟩ := hrel
                    clear xw xi qw nw
                    by_cases mx : (m : Int) < x
                    · have rl := RL.out
                      obtain ⟨ym, hym⟩ := get_some (xs := r') (k := m) (by omega)
                      have cm := RC.out m ym hym
                      have yl := RB.out ym (List.mem_of_getElem? hym)
                      have st := VS.out m ym hym
                      obtain ⟨r1, r2⟩ := VR.out m (by omega) (by omega)
                      have el : ((Q + m : Nat) : Int) < n := by omega
                      have EW : Hid (wrap64 ((Q : Int) + (m : Int)) = ((Q + m : Nat) : Int)) := aw_is (by have := HN.out; omega) (by omega)
                      obtain ⟨QM, hQM⟩ : ∃ QM, Q + m = QM := ⟨_, rfl⟩
                      rw [hQM] at cm EW el
                      obtain ⟨v1, hv1⟩ : ∃ v1, vj x0 r' (m + 1) = v1 := ⟨_, rfl⟩
                      have HV1 : Hid (vj x0 r' (m + 1) = v1) := hv1
                      rw [hv1] at st
                      generalize vj x0 r' m = v0 at *
                      have SS : Hid (wrap64 (v0 * 256) = v0 * 256 ∧ IntKind.i64.wrap (v0 * 256) = v0 * 256 ∧ wrap64 (v0 * 256 + (ym : Int)) = v1 ∧ wrap64 (ym : Int) = ym ∧ IntKind.i64.wrap (ym : Int) = ym) := ⟨wsm _ (by omega) (by omega), ism _ (by omega) (by omega), (wsm _ (by omega) (by omega)).trans st.symm, wsm _ (by omega) (by omega), ism _ (by omega) (by omega)⟩
                      have NM : Hid ((((m + 1 : Nat)) : Int) ≤ x) := by show (((m + 1 : Nat)) : Int) ≤ x; omega
                      clear rl hym yl st r1 r2 hQM hv1
                      have ew := EW.out
                      obtain ⟨s1, s1', s2, s3, s3'⟩ := SS.out
                      go_wp2
                      go_round
                      case rel => exact ⟨m + 1, NM.out, congrArg _ (s2.trans HV1.out.symm), by go_num⟩
                      case measure => (clear ew s1 s1' s2 s3 s3'; simp [intOf]; omega)
                    · obtain rfl : m = x := by omega
                      rw [VE.out]
                      by_cases v0 : V = 0
                      · have gn0 : gn (xs.drop q) = .error 13 := by rw [GQ.out, if_pos (Or.inl v0)]
                        have RE : Hid (.tuple #[evV z5, .int .i64 0, .int .i64 13] = RR) := by
                          have e := HRR.out
                          rw [GER.out (i + 1) 13 (by omega) (gl_bad HG.out BZ.out gn0)] at e
                          exact e
                        subst v0
                        clear il GE GER GOK HRR HG gn0 vi gf WF FT GQ VS VR VE
                        obtain ⟨aw, yw⟩ := HAW.out
                        go_wp2
                        exact bodyPost_ret (rget_ret (e := z5) (blk5 RI0.out.ev _ _ _ _ _) rfl rfl rfl) rfl ⟨congrArg Ending.returned RE.out, bel5 RI0.out.bel RI0.out.zl _ _ _ _ _⟩
                      · have v1 : (V == 0) = false := beq_eq_false_iff_ne.2 v0
                        by_cases m1x : (1 : Int) < m
                        · have F1 : Hid (∀ w, _) := FT.out (by have := HYX.out; omega)
                          have ym : ((y : Nat) : Int) = (m : Int) - 1 := by have := HYX.out.1; omega
                          rw [ym] at F1
                          clear ym
                          cases ff : fitk V y with
                          | true =>
                            have nw1 : wd V ≠ m := fun c => by
                              have := WF.out.1 c
                              have hh := HYX.out.1
                              rw [show m - 1 = y by omega, ff] at this
                              rcases this with h | h
                              · omega
                              · cases h
                            have gn0 : gn (xs.drop q) = .error 13 := by rw [GQ.out, if_pos (Or.inr nw1)]
                            have RE : Hid (.tuple #[evV z5, .int .i64 0, .int .i64 13] = RR) := by
                              have e := HRR.out
                              rw [GER.out (i + 1) 13 (by omega) (gl_bad HG.out BZ.out gn0)] at e
                              exact e
                            rw [ff] at F1
                            clear il GE GER GOK HRR HG gn0 vi gf WF FT GQ VS VR VE nw1 ff v0
                            go_wp2_with fail
                            refine (F1.out _).mono ?_
                            rintro e w'' ⟨rfl, e0⟩
                            subst e0
                            go_wp2
                            exact bodyPost_ret (rget_ret (e := z5) (blk5 RI0.out.ev _ _ _ _ _) rfl rfl rfl) rfl ⟨congrArg Ending.returned RE.out, bel5 RI0.out.bel RI0.out.zl _ _ _ _ _⟩
                          | false =>
                            have ew1 : wd V = m := WF.out.2 (Or.inr (by rw [show m - 1 = y by have := HYX.out.1; omega]; exact ff))
                            have NX : Hid (gl xs wh (i + 1) = .ok (l ++ [V], Q + m)) := by
                              have e := gl_more HG.out BZ.out (GQ.out.trans (if_neg (by simp [v0, ew1])))
                              rw [show q + (m + 1) = Q + m by have := HYX.out.2; omega] at e
                              exact e
                            have NG : Hid (RI w (wr.setCell ⟨w.heap.size + 2, i, none⟩ (.int .i64 V)) w.heap.size (w.heap.size + 1) (w.heap.size + 2) (l ++ [V])) := RI0.out.set i V LL.out (by omega)
                            rw [ff] at F1
                            clear il GE GER GOK HRR HG WF FT GQ VS VR VE ff v0 ew1
                            go_wp2_with fail
                            refine (F1.out _).mono ?_
                            rintro e w'' ⟨rfl, e0⟩
                            subst e0
                            go_wp2
                            go_roundw
                            case rel => exact ⟨i + 1, Q + m, l ++ [V], I5.out, NX.out, NG.out, congrArg _ HAW.out.1, by go_num⟩
                            case measure => (simp [intOf]; omega)
                        · have ew1 : wd V = m := WF.out.2 (Or.inl (by have := RL.out; omega))
                          have NX : Hid (gl xs wh (i + 1) = .ok (l ++ [V], Q + m)) := by
                            have e := gl_more HG.out BZ.out (GQ.out.trans (if_neg (by simp [v0, ew1])))
                            rw [show q + (m + 1) = Q + m by have := HYX.out.2; omega] at e
                            exact e
                          have NG : Hid (RI w (wr.setCell ⟨w.heap.size + 2, i, none⟩ (.int .i64 V)) w.heap.size (w.heap.size + 1) (w.heap.size + 2) (l ++ [V])) := RI0.out.set i V LL.out (by omega)
                          clear il GE GER GOK HRR HG WF FT GQ VS VR VE v0 ew1
                          obtain ⟨aw, yw⟩ := HAW.out
                          go_wp2
                          go_roundw
                          case rel => exact ⟨i + 1, Q + m, l ++ [V], I5.out, NX.out, NG.out, congrArg _ aw, by go_num⟩
                          case measure => (clear aw yw; simp [intOf]; omega)
      · obtain rfl : i = 4 := by omega
        have v0 : wr.cell? ⟨w.heap.size + 2, 0, none⟩ = some (.int .i64 (l.getD 0 0)) := RI0.out.va.cell 0
        have v1 : wr.cell? ⟨w.heap.size + 2, 1, none⟩ = some (.int .i64 (l.getD 1 0)) := RI0.out.va.cell 1
        have v2 : wr.cell? ⟨w.heap.size + 2, 2, none⟩ = some (.int .i64 (l.getD 2 0)) := RI0.out.va.cell 2
        have v3 : wr.cell? ⟨w.heap.size + 2, 3, none⟩ = some (.int .i64 (l.getD 3 0)) := RI0.out.va.cell 3
        have uw := u6_wrap (l.getD 2 0) (il 2 (by omega))
        have RE : Hid (.tuple #[evV ⟨k, l.getD 0 0, l.getD 1 0, u6 (l.getD 2 0), l.getD 3 0⟩, .int .i64 (q : Nat), .int .i64 0] = RR) := by
          have e := HRR.out
          rw [GOK.out l q HG.out] at e
          exact e
        have kw : wrap64 (k : Int) = k := by have := WH.out; rw [wsm _ (by omega) (by omega)]; try omega
        have kw' : IntKind.i64.wrap (k : Int) = k := by have := WH.out; rw [ism _ (by omega) (by omega)]
        generalize u6 (l.getD 2 0) = y2' at *
        generalize l.getD 0 0 = y0 at *
        generalize l.getD 1 0 = y1 at *
        generalize l.getD 2 0 = y2 at *
        generalize l.getD 3 0 = y3 at *
        clear il GE GER GOK HRR HG o0 o1 o2 o3 o4
        have n2' : 0 < n := by omega
        have bne : ¬ b = w.heap.size := by (obtain ⟨b', off', e1, hb', _⟩ := HC.out.cell KW.out.2; simp only [Option.some.injEq, Addr.mk.injEq, and_true] at e1; obtain ⟨rfl, rfl⟩ := e1; exact Nat.ne_of_lt hb')
        have bne' : ¬ w.heap.size = b := fun e => bne e.symm
        have bne2 : (b == w.heap.size) = false := beq_eq_false_iff_ne.2 bne
        have bne3 : (w.heap.size == b) = false := beq_eq_false_iff_ne.2 bne'
        go_wp2_with fail
        refine wp_region_held_drew (S := fun w' => w'.cell? ⟨b, off, none⟩ = some (.int .u8 (k : Nat)) ∧ w'.cell? ⟨w.heap.size + 2, 0, none⟩ = some (.int .i64 y0) ∧ w'.cell? ⟨w.heap.size + 2, 1, none⟩ = some (.int .i64 y1) ∧ w'.cell? ⟨w.heap.size + 2, 2, none⟩ = some (.int .i64 y2) ∧ w'.cell? ⟨w.heap.size + 2, 3, none⟩ = some (.int .i64 y3)) (by kernel_rfl) (by go_keep) (fun hHeld => ?_)
        refine wpAnyH_take (i := 0) (oi := { dst := some 116, op := Op.move (Operand.tmp 0), type := 26, pos := "ref.go:96", after := #[], guard := none }) (v := ?va0) rfl (by kernel_rfl) (by kernel_rfl) (by kernel_rfl) (fun _ _ _ h => h) (Or.inl ⟨by rfl, ?ha0⟩) (by assumption) ?ra0
        case ha0 => (intro wz hSw; (try dsimp only at hSw); go_simp <;> with_reducible rfl)
        try simp only [Act.put, List.setIfInBounds_toArray, List.set_cons_zero, List.set_cons_succ]
        refine wpAnyH_take (i := 1) (oi := { dst := some 117, op := Op.indexAddr 26 (Operand.tmp 116) (Operand.const (Value.int IntKind.i64 0)), type := 0, pos := "ref.go:96", after := #[{ on := 0, ground := Ground.data }], guard := none }) (v := ?va1) rfl (by kernel_rfl) (by kernel_rfl) (by kernel_rfl) (fun _ _ _ h => h) (Or.inl ⟨by rfl, ?ha1⟩) (by assumption) ?ra1
        case ha1 => (intro wz hSw; (try dsimp only at hSw); go_simp <;> with_reducible rfl)
        try simp only [Act.put, List.setIfInBounds_toArray, List.set_cons_zero, List.set_cons_succ]
        refine wpAnyH_take (i := 2) (oi := { dst := some 118, op := Op.load 5 (Operand.tmp 117), type := 5, pos := "ref.go:96", after := #[{ on := 1, ground := Ground.data }], guard := none }) (v := ?va2) rfl (by kernel_rfl) (by kernel_rfl) (by kernel_rfl) (fun _ _ _ h => h) (Or.inl ⟨by rfl, ?ha2⟩) (by assumption) ?ra2
        case ha2 => (intro wz hSw; (try dsimp only at hSw); go_simp <;> with_reducible rfl)
        try simp only [Act.put, List.setIfInBounds_toArray, List.set_cons_zero, List.set_cons_succ]
        refine wpAnyH_take (i := 3) (oi := { dst := some 119, op := Op.convert 5 3 (Operand.tmp 118), type := 3, pos := "ref.go:96", after := #[{ on := 2, ground := Ground.data }], guard := none }) (v := ?va3) rfl (by kernel_rfl) (by kernel_rfl) (by kernel_rfl) (fun _ _ _ h => h) (Or.inl ⟨by rfl, ?ha3⟩) (by assumption) ?ra3
        case ha3 => (intro wz hSw; (try dsimp only at hSw); go_simp <;> with_reducible rfl)
        try simp only [Act.put, List.setIfInBounds_toArray, List.set_cons_zero, List.set_cons_succ]
        refine wpAnyH_take (i := 4) (oi := { dst := some 120, op := Op.move (Operand.tmp 7), type := 71, pos := "ref.go:96", after := #[], guard := none }) (v := ?va4) rfl (by kernel_rfl) (by kernel_rfl) (by kernel_rfl) (fun _ _ _ h => h) (Or.inl ⟨by rfl, ?ha4⟩) (by assumption) ?ra4
        case ha4 => (intro wz hSw; (try dsimp only at hSw); go_simp <;> with_reducible rfl)
        try simp only [Act.put, List.setIfInBounds_toArray, List.set_cons_zero, List.set_cons_succ]
        refine wpAnyH_take (i := 5) (oi := { dst := some 121, op := Op.indexAddr 71 (Operand.tmp 120) (Operand.const (Value.int IntKind.i64 0)), type := 0, pos := "ref.go:96", after := #[{ on := 4, ground := Ground.data }], guard := none }) (v := ?va5) rfl (by kernel_rfl) (by kernel_rfl) (by kernel_rfl) (fun _ _ _ h => h) (Or.inl ⟨by rfl, ?ha5⟩) (by assumption) ?ra5
        case ha5 => (intro wz hSw; (try dsimp only at hSw); go_simp <;> with_reducible rfl)
        try simp only [Act.put, List.setIfInBounds_toArray, List.set_cons_zero, List.set_cons_succ]
        refine wpAnyH_take (i := 6) (oi := { dst := some 122, op := Op.load 2 (Operand.tmp 121), type := 2, pos := "ref.go:96", after := #[{ on := 5, ground := Ground.data }], guard := none }) (v := ?va6) rfl (by kernel_rfl) (by kernel_rfl) (by kernel_rfl) (fun _ _ _ h => h) (Or.inl ⟨by rfl, ?ha6⟩) (by assumption) ?ra6
        case ha6 => (intro wz hSw; (try dsimp only at hSw); go_simp <;> with_reducible rfl)
        try simp only [Act.put, List.setIfInBounds_toArray, List.set_cons_zero, List.set_cons_succ]
        refine wpAnyH_take (i := 7) (oi := { dst := some 123, op := Op.move (Operand.tmp 7), type := 71, pos := "ref.go:96", after := #[], guard := none }) (v := ?va7) rfl (by kernel_rfl) (by kernel_rfl) (by kernel_rfl) (fun _ _ _ h => h) (Or.inl ⟨by rfl, ?ha7⟩) (by assumption) ?ra7
        case ha7 => (intro wz hSw; (try dsimp only at hSw); go_simp <;> with_reducible rfl)
        try simp only [Act.put, List.setIfInBounds_toArray, List.set_cons_zero, List.set_cons_succ]
        refine wpAnyH_take (i := 8) (oi := { dst := some 124, op := Op.indexAddr 71 (Operand.tmp 123) (Operand.const (Value.int IntKind.i64 1)), type := 0, pos := "ref.go:96", after := #[{ on := 7, ground := Ground.data }], guard := none }) (v := ?va8) rfl (by kernel_rfl) (by kernel_rfl) (by kernel_rfl) (fun _ _ _ h => h) (Or.inl ⟨by rfl, ?ha8⟩) (by assumption) ?ra8
        case ha8 => (intro wz hSw; (try dsimp only at hSw); go_simp <;> with_reducible rfl)
        try simp only [Act.put, List.setIfInBounds_toArray, List.set_cons_zero, List.set_cons_succ]
        refine wpAnyH_take (i := 9) (oi := { dst := some 125, op := Op.load 2 (Operand.tmp 124), type := 2, pos := "ref.go:96", after := #[{ on := 8, ground := Ground.data }], guard := none }) (v := ?va9) rfl (by kernel_rfl) (by kernel_rfl) (by kernel_rfl) (fun _ _ _ h => h) (Or.inl ⟨by rfl, ?ha9⟩) (by assumption) ?ra9
        case ha9 => (intro wz hSw; (try dsimp only at hSw); go_simp <;> with_reducible rfl)
        try simp only [Act.put, List.setIfInBounds_toArray, List.set_cons_zero, List.set_cons_succ]
        refine wpAnyH_take (i := 10) (oi := { dst := some 126, op := Op.move (Operand.tmp 7), type := 71, pos := "ref.go:96", after := #[], guard := none }) (v := ?va10) rfl (by kernel_rfl) (by kernel_rfl) (by kernel_rfl) (fun _ _ _ h => h) (Or.inl ⟨by rfl, ?ha10⟩) (by assumption) ?ra10
        case ha10 => (intro wz hSw; (try dsimp only at hSw); go_simp <;> with_reducible rfl)
        try simp only [Act.put, List.setIfInBounds_toArray, List.set_cons_zero, List.set_cons_succ]
        refine wpAnyH_take (i := 11) (oi := { dst := some 127, op := Op.indexAddr 71 (Operand.tmp 126) (Operand.const (Value.int IntKind.i64 2)), type := 0, pos := "ref.go:96", after := #[{ on := 10, ground := Ground.data }], guard := none }) (v := ?va11) rfl (by kernel_rfl) (by kernel_rfl) (by kernel_rfl) (fun _ _ _ h => h) (Or.inl ⟨by rfl, ?ha11⟩) (by assumption) ?ra11
        case ha11 => (intro wz hSw; (try dsimp only at hSw); go_simp <;> with_reducible rfl)
        try simp only [Act.put, List.setIfInBounds_toArray, List.set_cons_zero, List.set_cons_succ]
        refine wpAnyH_take (i := 12) (oi := { dst := some 128, op := Op.load 2 (Operand.tmp 127), type := 2, pos := "ref.go:96", after := #[{ on := 11, ground := Ground.data }], guard := none }) (v := ?va12) rfl (by kernel_rfl) (by kernel_rfl) (by kernel_rfl) (fun _ _ _ h => h) (Or.inl ⟨by rfl, ?ha12⟩) (by assumption) ?ra12
        case ha12 => (intro wz hSw; (try dsimp only at hSw); go_simp <;> with_reducible rfl)
        try simp only [Act.put, List.setIfInBounds_toArray, List.set_cons_zero, List.set_cons_succ]
        refine wpAnyH_take (i := 13) (oi := { dst := some 129, op := Op.convert 2 48 (Operand.tmp 128), type := 48, pos := "ref.go:96", after := #[{ on := 12, ground := Ground.data }], guard := none }) (v := ?va13) rfl (by kernel_rfl) (by kernel_rfl) (by kernel_rfl) (fun _ _ _ h => h) (Or.inl ⟨by rfl, ?ha13⟩) (by assumption) ?ra13
        case ha13 => (intro wz hSw; (try dsimp only at hSw); go_simp <;> with_reducible rfl)
        try simp only [Act.put, List.setIfInBounds_toArray, List.set_cons_zero, List.set_cons_succ]
        refine wpAnyH_take (i := 14) (oi := { dst := some 130, op := Op.move (Operand.tmp 7), type := 71, pos := "ref.go:96", after := #[], guard := none }) (v := ?va14) rfl (by kernel_rfl) (by kernel_rfl) (by kernel_rfl) (fun _ _ _ h => h) (Or.inl ⟨by rfl, ?ha14⟩) (by assumption) ?ra14
        case ha14 => (intro wz hSw; (try dsimp only at hSw); go_simp <;> with_reducible rfl)
        try simp only [Act.put, List.setIfInBounds_toArray, List.set_cons_zero, List.set_cons_succ]
        refine wpAnyH_take (i := 15) (oi := { dst := some 131, op := Op.indexAddr 71 (Operand.tmp 130) (Operand.const (Value.int IntKind.i64 3)), type := 0, pos := "ref.go:96", after := #[{ on := 14, ground := Ground.data }], guard := none }) (v := ?va15) rfl (by kernel_rfl) (by kernel_rfl) (by kernel_rfl) (fun _ _ _ h => h) (Or.inl ⟨by rfl, ?ha15⟩) (by assumption) ?ra15
        case ha15 => (intro wz hSw; (try dsimp only at hSw); go_simp <;> with_reducible rfl)
        try simp only [Act.put, List.setIfInBounds_toArray, List.set_cons_zero, List.set_cons_succ]
        refine wpAnyH_take (i := 16) (oi := { dst := some 132, op := Op.load 2 (Operand.tmp 131), type := 2, pos := "ref.go:96", after := #[{ on := 15, ground := Ground.data }], guard := none }) (v := ?va16) rfl (by kernel_rfl) (by kernel_rfl) (by kernel_rfl) (fun _ _ _ h => h) (Or.inl ⟨by rfl, ?ha16⟩) (by assumption) ?ra16
        case ha16 => (intro wz hSw; (try dsimp only at hSw); go_simp <;> with_reducible rfl)
        try simp only [Act.put, List.setIfInBounds_toArray, List.set_cons_zero, List.set_cons_succ]
        refine wpAnyH_take (i := 17) (oi := { dst := some 133, op := Op.build 50 #[(0, Operand.tmp 119), (1, Operand.tmp 122), (2, Operand.tmp 125), (3, Operand.tmp 129), (4, Operand.tmp 132)], type := 50, pos := "ref.go:96", after := #[{ on := 3, ground := Ground.data }, { on := 6, ground := Ground.data }, { on := 9, ground := Ground.data }, { on := 13, ground := Ground.data }, { on := 16, ground := Ground.data }], guard := none }) (v := ?va17) rfl (by kernel_rfl) (by kernel_rfl) (by kernel_rfl) (fun _ _ _ h => h) (Or.inl ⟨by rfl, ?ha17⟩) (by assumption) ?ra17
        case ha17 => (intro wz hSw; (try dsimp only at hSw); go_simp <;> with_reducible rfl)
        try simp only [Act.put, List.setIfInBounds_toArray, List.set_cons_zero, List.set_cons_succ]
        refine wpAnyH_take (i := 18) (oi := { dst := some 134, op := Op.move (Operand.tmp 6), type := 3, pos := "ref.go:96", after := #[{ on := 19, ground := Ground.gcOnly Departure.lateStores }], guard := none }) (v := ?va18) rfl (by kernel_rfl) (by kernel_rfl) (by kernel_rfl) (fun _ _ _ h => h) (Or.inl ⟨by rfl, ?ha18⟩) (by assumption) ?ra18
        case ha18 => (intro wz hSw; (try dsimp only at hSw); go_simp <;> with_reducible rfl)
        try simp only [Act.put, List.setIfInBounds_toArray, List.set_cons_zero, List.set_cons_succ]
        refine wpAnyH_ready (rs := [19]) (by kernel_rfl) (by simp) ?_
        refine AllReadyH.cons (o := { dst := none, op := Op.store 50 (Operand.tmp 2) (Operand.tmp 133), type := 0, pos := "ref.go:96", after := #[{ on := 17, ground := Ground.data }, { on := 0, ground := Ground.phase }, { on := 1, ground := Ground.phase }, { on := 2, ground := Ground.phase }, { on := 3, ground := Ground.phase }, { on := 4, ground := Ground.phase }, { on := 5, ground := Ground.phase }, { on := 6, ground := Ground.phase }, { on := 7, ground := Ground.phase }, { on := 8, ground := Ground.phase }, { on := 9, ground := Ground.phase }, { on := 10, ground := Ground.phase }, { on := 11, ground := Ground.phase }, { on := 12, ground := Ground.phase }, { on := 13, ground := Ground.phase }, { on := 14, ground := Ground.phase }, { on := 15, ground := Ground.phase }, { on := 16, ground := Ground.phase }, { on := 17, ground := Ground.phase }, { on := 18, ground := Ground.textOnly Departure.lateStores }], guard := none }) rfl (fun K hK => ?_) AllReadyH.nil
        go_simp
        (try go_wp2_with fail)
        refine hK.out _ _ ?sa19 (fun hHeld => ?ta19)
        case sa19 => go_keep
        clear hK K
        try simp only [Act.put, List.setIfInBounds_toArray, List.set_cons_zero, List.set_cons_succ]
        refine wpAnyH_take (i := 20) (oi := { dst := some 3, op := Op.assign (Operand.tmp 134), type := 3, pos := "ref.go:96", after := #[{ on := 18, ground := Ground.data }, { on := 19, ground := Ground.chain }, { on := 0, ground := Ground.phase }, { on := 1, ground := Ground.phase }, { on := 2, ground := Ground.phase }, { on := 3, ground := Ground.phase }, { on := 4, ground := Ground.phase }, { on := 5, ground := Ground.phase }, { on := 6, ground := Ground.phase }, { on := 7, ground := Ground.phase }, { on := 8, ground := Ground.phase }, { on := 9, ground := Ground.phase }, { on := 10, ground := Ground.phase }, { on := 11, ground := Ground.phase }, { on := 12, ground := Ground.phase }, { on := 13, ground := Ground.phase }, { on := 14, ground := Ground.phase }, { on := 15, ground := Ground.phase }, { on := 16, ground := Ground.phase }, { on := 17, ground := Ground.phase }, { on := 18, ground := Ground.phase }, { on := 19, ground := Ground.phase }], guard := none }) (v := ?va20) rfl (by kernel_rfl) (by kernel_rfl) (by kernel_rfl) (fun _ _ _ h => h) (Or.inl ⟨by rfl, ?ha20⟩) (by assumption) ?ra20
        case ha20 => (intro wz hSw; (try dsimp only at hSw); go_simp <;> with_reducible rfl)
        try simp only [Act.put, List.setIfInBounds_toArray, List.set_cons_zero, List.set_cons_succ]
        refine wpAnyH_take (i := 21) (oi := { dst := some 4, op := Op.assign (Operand.const (Value.int IntKind.i64 0)), type := 27, pos := "ref.go:96", after := #[{ on := 20, ground := Ground.chain }, { on := 0, ground := Ground.phase }, { on := 1, ground := Ground.phase }, { on := 2, ground := Ground.phase }, { on := 3, ground := Ground.phase }, { on := 4, ground := Ground.phase }, { on := 5, ground := Ground.phase }, { on := 6, ground := Ground.phase }, { on := 7, ground := Ground.phase }, { on := 8, ground := Ground.phase }, { on := 9, ground := Ground.phase }, { on := 10, ground := Ground.phase }, { on := 11, ground := Ground.phase }, { on := 12, ground := Ground.phase }, { on := 13, ground := Ground.phase }, { on := 14, ground := Ground.phase }, { on := 15, ground := Ground.phase }, { on := 16, ground := Ground.phase }, { on := 17, ground := Ground.phase }, { on := 18, ground := Ground.phase }, { on := 19, ground := Ground.phase }, { on := 20, ground := Ground.phase }], guard := none }) (v := ?va21) rfl (by kernel_rfl) (by kernel_rfl) (by kernel_rfl) (fun _ _ _ h => h) (Or.inl ⟨by rfl, ?ha21⟩) (by assumption) ?ra21
        case ha21 => (intro wz hSw; (try dsimp only at hSw); go_simp <;> with_reducible rfl)
        try simp only [Act.put, List.setIfInBounds_toArray, List.set_cons_zero, List.set_cons_succ]
        refine wpAnyH_done (by kernel_rfl) ?_ _
        go_wp2
        exact bodyPost_ret (rget_ret (e := ⟨k, y0, y1, y2', y3⟩) ((blk5 RI0.out.ev _ _ _ _ _).heap rfl) rfl rfl rfl) rfl ⟨congrArg Ending.returned RE.out, ⟨(bel5 RI0.out.bel RI0.out.zl (.int .i64 (k : Int)) (.int .i64 y0) (.int .i64 y1) (.int .u64 y2') (.int .i64 y3)).os, (bel5 RI0.out.bel RI0.out.zl (.int .i64 (k : Int)) (.int .i64 y0) (.int .i64 y1) (.int .u64 y2') (.int .i64 y3)).tape, (bel5 RI0.out.bel RI0.out.zl (.int .i64 (k : Int)) (.int .i64 y0) (.int .i64 y1) (.int .u64 y2') (.int .i64 y3)).output, (bel5 RI0.out.bel RI0.out.zl (.int .i64 (k : Int)) (.int .i64 y0) (.int .i64 y1) (.int .u64 y2') (.int .i64 y3)).size, (bel5 RI0.out.bel RI0.out.zl (.int .i64 (k : Int)) (.int .i64 y0) (.int .i64 y1) (.int .u64 y2') (.int .i64 y3)).block⟩⟩
end Go.Proofs.YtmlilgbochbbiaaGreatDoor.Wir
