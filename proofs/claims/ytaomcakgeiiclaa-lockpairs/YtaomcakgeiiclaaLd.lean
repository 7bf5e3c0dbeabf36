/- A pair that is written and read; what lock.Pair's calls, and the document's (davitref05.Pair), answer and leave, for every pair; the calls of a pair that is not there. -/
import Derived.Test.YtaomcakgeiiclaaRows
import Derived.Test.YtaomcakgeiiclaaLc
import Derived.WalkKit
import Derived.ProofKit
import Derived.OpenShut
namespace Go.Proofs.Ytaomcakgeiiclaa
open Go.ChangeShapes Go.WideShapes Go.ChangeAt Go.RowKit
open Fm Ll
set_option linter.unusedVariables false

/-- Two numbers, a stamp, and who writes. -/
structure PV where
  x0 : Int
  x1 : Int
  t : Nat
  c : Int
/-- The pair at block b, of the program's type or of the document's. -/
def PB (ty : TypeId) (w : World) (b : Nat) (v : PV) : Prop := Blk w b [.int .i64 v.x0, .int .i64 v.x1, .int .i64 (v.t : Int), .int .i64 v.c] ty

theorem PB.cs {ty : TypeId} {w : World} {b : Nat} {v : PV} (h : PB ty w b v) : w.cell? ⟨b, 0, none⟩ = some (.int .i64 v.x0) ∧ w.cell? ⟨b, 1, none⟩ = some (.int .i64 v.x1) ∧ w.cell? ⟨b, 2, none⟩ = some (.int .i64 (v.t : Int)) ∧ w.cell? ⟨b, 3, none⟩ = some (.int .i64 v.c) :=
  ⟨Blk.cell h 0, Blk.cell h 1, Blk.cell h 2, Blk.cell h 3⟩
theorem PB.fz {ty : TypeId} {w : World} {b : Nat} {v : PV} (h : PB ty w b v) : w.frozen? ⟨b, 0, none⟩ = false ∧ w.frozen? ⟨b, 1, none⟩ = false ∧ w.frozen? ⟨b, 2, none⟩ = false ∧ w.frozen? ⟨b, 3, none⟩ = false :=
  ⟨Blk.free h 0, Blk.free h 1, Blk.free h 2, Blk.free h 3⟩

def odd (v : PV) : Bool := decide (v.t % 2 = 1)
def me (v : PV) (c : Int) : Bool := odd v && decide (v.c = c)
def ipl (a : Int) : Bool := decide (0 ≤ a ∧ a < 2)
def bgE (v : PV) (c : Int) : Int := if ic c = true then if odd v = true then 7 else 0 else 3
def bgV (v : PV) (c : Int) : PV := if ic c = true then if odd v = true then v else ⟨v.x0, v.x1, v.t + 1, c⟩ else v
def ptE (v : PV) (c a : Int) : Int := if ic c = true then if ipl a = true then if me v c = true then 0 else 17 else 3 else 3
def ptV (v : PV) (c a n : Int) : PV := if ic c = true then if ipl a = true then if me v c = true then (if a = 0 then ⟨n, v.x1, v.t, v.c⟩ else ⟨v.x0, n, v.t, v.c⟩) else v else v else v
def enE (v : PV) (c : Int) : Int := if ic c = true then if me v c = true then 0 else 17 else 3
def enV (v : PV) (c : Int) : PV := if ic c = true then if me v c = true then ⟨v.x0, v.x1, v.t + 1, v.c⟩ else v else v
def sN (v : PV) : Int := if odd v = true then 0 else v.t
def sE (v : PV) : Int := if odd v = true then 7 else 0
def gN (v : PV) (a : Int) : Int := if a = 0 then v.x0 else if a = 1 then v.x1 else 0

theorem odd_yes {v : PV} (h : odd v = true) : ((v.t : Int)).tmod 2 = 1 := by
  have := of_decide_eq_true h
  rw [Int.tmod_eq_emod_of_nonneg (by omega)]
  omega
theorem odd_no {v : PV} (h : odd v = false) : ((v.t : Int)).tmod 2 = 0 := by
  have := of_decide_eq_false h
  rw [Int.tmod_eq_emod_of_nonneg (by omega)]
  omega
theorem me_yes {v : PV} {c : Int} (h : me v c = true) : odd v = true ∧ v.c = c := by
  unfold me at h
  simp at h
  exact h
theorem me_no {v : PV} {c : Int} (h : me v c = false) : odd v = false ∨ odd v = true ∧ (v.c == c) = false := by
  unfold me at h
  cases e : odd v
  · exact Or.inl rfl
  · rw [e] at h
    simp at h
    exact Or.inr ⟨rfl, by simpa using h⟩

theorem busy_any {b : Nat} {v : PV} (w : World) (h : PB 46 w b v) :
    Calls Try.prog 47 #[.pointer (some ⟨b, 0, none⟩)] w fun e w' => e = .returned (.bool (odd v)) ∧ w' = w := by
  obtain ⟨_, _, c2, _⟩ := h.cs
  clear h
  cases e : odd v with
  | true =>
    have p := odd_yes e
    clear e
    generalize v.t = t at *
    go_enter Try.func47, Try.ntmps47
    go_wp2
    go_ret
    exact ⟨rfl, rfl⟩
  | false =>
    have p := odd_no e
    clear e
    generalize v.t = t at *
    go_enter Try.func47, Try.ntmps47
    go_wp2
    go_ret
    exact ⟨rfl, rfl⟩

theorem isPlace_any (p : Value) (a : Int) (w : World) : Calls Try.prog 48 #[p, .int .i64 a] w fun e w' => e = .returned (.bool (ipl a)) ∧ w' = w := by
  by_cases h : 0 ≤ a
  · by_cases h2 : a < 2
    · rw [show ipl a = true from decide_eq_true ⟨h, h2⟩]
      go_enter Try.func48, Try.ntmps48
      go_wp2
      go_ret
      exact ⟨rfl, rfl⟩
    · rw [show ipl a = false from decide_eq_false (by omega)]
      go_enter Try.func48, Try.ntmps48
      go_wp2
      go_ret
      exact ⟨rfl, rfl⟩
  · rw [show ipl a = false from decide_eq_false (by omega)]
    go_enter Try.func48, Try.ntmps48
    go_wp2
    go_ret
    exact ⟨rfl, rfl⟩

theorem writes_any {b : Nat} {v : PV} (c : Int) (w : World) (h : PB 46 w b v) :
    Calls Try.prog 49 #[.pointer (some ⟨b, 0, none⟩), .int .i64 c] w fun e w' => e = .returned (.bool (me v c)) ∧ w' = w := by
  have C : Hid (∀ _ : Unit, _) := fun _ => busy_any w h
  obtain ⟨_, _, _, c3⟩ := h.cs
  clear h
  cases e : odd v with
  | true =>
    rw [e] at C
    by_cases d : v.c = c
    · rw [show me v c = true by unfold me; rw [e, d]; simp]
      rw [d] at c3
      clear e d
      go_enter Try.func49, Try.ntmps49
      go_wp2_with fail
      refine (C.out ()).mono ?_
      rintro e w' ⟨rfl, rfl⟩
      go_wp2
      go_ret
      exact ⟨rfl, rfl⟩
    · rw [show me v c = false by unfold me; rw [e]; simp [d]]
      have d2 : (v.c == c) = false := by simpa using d
      clear e d
      generalize v.c = x at *
      go_enter Try.func49, Try.ntmps49
      go_wp2_with fail
      refine (C.out ()).mono ?_
      rintro e w' ⟨rfl, rfl⟩
      go_wp2
      go_ret
      exact ⟨rfl, rfl⟩
  | false =>
    rw [e] at C
    rw [show me v c = false by unfold me; rw [e]; simp]
    clear e
    go_enter Try.func49, Try.ntmps49
    go_wp2_with fail
    refine (C.out ()).mono ?_
    rintro e w' ⟨rfl, rfl⟩
    go_wp2
    go_ret
    exact ⟨rfl, rfl⟩

theorem pb_begin {ty : TypeId} {w : World} {b : Nat} {v : PV} (h : PB ty w b v) (c x : Int) (hx : x = (v.t : Int) + 1) :
    PB ty ((w.setCell ⟨b, 2, none⟩ (.int .i64 x)).setCell ⟨b, 3, none⟩ (.int .i64 c)) b ⟨v.x0, v.x1, v.t + 1, c⟩ := by
  subst hx
  exact (Blk.set h 2 _).set 3 _
theorem pb_end {ty : TypeId} {w : World} {b : Nat} {v : PV} (h : PB ty w b v) (x : Int) (hx : x = (v.t : Int) + 1) : PB ty (w.setCell ⟨b, 2, none⟩ (.int .i64 x)) b ⟨v.x0, v.x1, v.t + 1, v.c⟩ := by
  subst hx
  exact Blk.set h 2 _
theorem pb_put0 {ty : TypeId} {w : World} {b : Nat} {v : PV} (h : PB ty w b v) (n : Int) : PB ty (w.setCell ⟨b, 0, none⟩ (.int .i64 n)) b ⟨n, v.x1, v.t, v.c⟩ := Blk.set h 0 _
theorem pb_put1 {ty : TypeId} {w : World} {b : Nat} {v : PV} (h : PB ty w b v) (n : Int) : PB ty (w.setCell ⟨b, 1, none⟩ (.int .i64 n)) b ⟨v.x0, n, v.t, v.c⟩ := Blk.set h 1 _
theorem fr_one {w : World} {b : Nat} (p : Addr) (u : Value) (hp : p.block = b) : Fr w.heap.size [b] w (w.setCell p u) := (Fr.refl _ _ _).setCell (Or.inr (by simp [hp])) _
theorem fr_two {w : World} {b : Nat} (p q : Addr) (u x : Value) (hp : p.block = b) (hq : q.block = b) : Fr w.heap.size [b] w ((w.setCell p u).setCell q x) := (fr_one p u hp).setCell (Or.inr (by simp [hq])) _

set_option maxHeartbeats 400000 in
theorem begin_any {b : Nat} {v : PV} (c : Int) (w : World) (h : PB 46 w b v) (ht : (v.t : Int) ≤ 1000) :
    Calls Try.prog 17 #[.pointer (some ⟨b, 0, none⟩), .int .i64 c] w fun e w' => e = .returned (.int .i64 (bgE v c)) ∧ PB 46 w' b (bgV v c) ∧ Fr w.heap.size [b] w w' := by
  have C : Hid (∀ _ : Unit, _) := fun _ => isCore_any c w
  have B : Hid (∀ _ : Unit, _) := fun _ => busy_any w h
  have HP : Hid (PB 46 w b v) := h
  obtain ⟨c0, c1, c2, c3⟩ := h.cs
  obtain ⟨f0, f1, f2, f3⟩ := h.fz
  cases i : ic c with
  | true =>
    rw [i] at C
    cases o : odd v with
    | true =>
      rw [o] at B
      rw [show bgE v c = 7 by unfold bgE; rw [if_pos i, if_pos o], show bgV v c = v by unfold bgV; rw [if_pos i, if_pos o]]
      have p := odd_yes o
      clear h i o
      generalize v.t = t at *
      go_enter Try.func17, Try.ntmps17
      go_wp2_with fail
      refine (C.out ()).mono ?_
      rintro e w' ⟨rfl, rfl⟩
      go_wp2_with fail
      refine (B.out ()).mono ?_
      rintro e w' ⟨rfl, rfl⟩
      go_wp2
      go_ret
      exact ⟨rfl, HP.out, Fr.refl _ _ _⟩
    | false =>
      rw [o] at B
      rw [show bgE v c = 0 by unfold bgE; rw [if_pos i, if_neg (by rw [o]; simp)], show bgV v c = ⟨v.x0, v.x1, v.t + 1, c⟩ by unfold bgV; rw [if_pos i, if_neg (by rw [o]; simp)]]
      have p := odd_no o
      have ST : Hid (∀ x : Int, x = (v.t : Int) + 1 → _) := fun x hx => pb_begin h c x hx
      clear h i o
      generalize v.t = t at *
      go_enter Try.func17, Try.ntmps17
      go_wp2_with fail
      refine (C.out ()).mono ?_
      rintro e w' ⟨rfl, rfl⟩
      go_wp2_with fail
      refine (B.out ()).mono ?_
      rintro e w' ⟨rfl, rfl⟩
      go_wp2
      go_ret
      exact ⟨rfl, ST.out _ rfl, fr_two _ _ _ _ rfl rfl⟩
  | false =>
    rw [i] at C
    rw [show bgE v c = 3 by unfold bgE; rw [if_neg (by rw [i]; simp)], show bgV v c = v by unfold bgV; rw [if_neg (by rw [i]; simp)]]
    clear h i
    generalize v.t = t at *
    go_enter Try.func17, Try.ntmps17
    go_wp2_with fail
    refine (C.out ()).mono ?_
    rintro e w' ⟨rfl, rfl⟩
    go_wp2
    go_ret
    exact ⟨rfl, HP.out, Fr.refl _ _ _⟩

set_option maxHeartbeats 400000 in
theorem end_any {b : Nat} {v : PV} (c : Int) (w : World) (h : PB 46 w b v) (ht : (v.t : Int) ≤ 1000) :
    Calls Try.prog 21 #[.pointer (some ⟨b, 0, none⟩), .int .i64 c] w fun e w' => e = .returned (.int .i64 (enE v c)) ∧ PB 46 w' b (enV v c) ∧ Fr w.heap.size [b] w w' := by
  have C : Hid (∀ _ : Unit, _) := fun _ => isCore_any c w
  have W : Hid (∀ _ : Unit, _) := fun _ => writes_any c w h
  have HP : Hid (PB 46 w b v) := h
  obtain ⟨c0, c1, c2, c3⟩ := h.cs
  obtain ⟨f0, f1, f2, f3⟩ := h.fz
  cases i : ic c with
  | true =>
    rw [i] at C
    cases o : me v c with
    | true =>
      rw [o] at W
      rw [show enE v c = 0 by unfold enE; rw [if_pos i, if_pos o], show enV v c = ⟨v.x0, v.x1, v.t + 1, v.c⟩ by unfold enV; rw [if_pos i, if_pos o]]
      obtain ⟨o1, o2⟩ := me_yes o
      have p := odd_yes o1
      have ST : Hid (∀ x : Int, x = (v.t : Int) + 1 → _) := fun x hx => pb_end h x hx
      rw [o2] at c3
      clear h i o o1 o2
      generalize v.t = t at *
      go_enter Try.func21, Try.ntmps21
      go_wp2_with fail
      refine (C.out ()).mono ?_
      rintro e w' ⟨rfl, rfl⟩
      go_wp2_with fail
      refine (W.out ()).mono ?_
      rintro e w' ⟨rfl, rfl⟩
      go_wp2
      go_ret
      exact ⟨rfl, ST.out _ rfl, fr_one _ _ rfl⟩
    | false =>
      rw [o] at W
      rw [show enE v c = 17 by unfold enE; rw [if_pos i, if_neg (by rw [o]; simp)], show enV v c = v by unfold enV; rw [if_pos i, if_neg (by rw [o]; simp)]]
      clear h i o
      generalize v.t = t at *
      go_enter Try.func21, Try.ntmps21
      go_wp2_with fail
      refine (C.out ()).mono ?_
      rintro e w' ⟨rfl, rfl⟩
      go_wp2_with fail
      refine (W.out ()).mono ?_
      rintro e w' ⟨rfl, rfl⟩
      go_wp2
      go_ret
      exact ⟨rfl, HP.out, Fr.refl _ _ _⟩
  | false =>
    rw [i] at C
    rw [show enE v c = 3 by unfold enE; rw [if_neg (by rw [i]; simp)], show enV v c = v by unfold enV; rw [if_neg (by rw [i]; simp)]]
    clear h i
    generalize v.t = t at *
    go_enter Try.func21, Try.ntmps21
    go_wp2_with fail
    refine (C.out ()).mono ?_
    rintro e w' ⟨rfl, rfl⟩
    go_wp2
    go_ret
    exact ⟨rfl, HP.out, Fr.refl _ _ _⟩

set_option maxHeartbeats 400000 in
theorem put_any {b : Nat} {v : PV} (c a n : Int) (w : World) (h : PB 46 w b v) (ht : (v.t : Int) ≤ 1000) :
    Calls Try.prog 19 #[.pointer (some ⟨b, 0, none⟩), .int .i64 c, .int .i64 a, .int .i64 n] w fun e w' => e = .returned (.int .i64 (ptE v c a)) ∧ PB 46 w' b (ptV v c a n) ∧ Fr w.heap.size [b] w w' := by
  have C : Hid (∀ _ : Unit, _) := fun _ => isCore_any c w
  have W : Hid (∀ _ : Unit, _) := fun _ => writes_any c w h
  have HP : Hid (PB 46 w b v) := h
  obtain ⟨c0, c1, c2, c3⟩ := h.cs
  obtain ⟨f0, f1, f2, f3⟩ := h.fz
  have P : Hid (∀ _ : Unit, _) := fun _ => isPlace_any (.pointer (some ⟨b, 0, none⟩)) a w
  cases i : ic c with
  | true =>
    rw [i] at C
    cases q : ipl a with
    | true =>
      rw [q] at P
      cases o : me v c with
      | true =>
        rw [o] at W
        rw [show ptE v c a = 0 by unfold ptE; rw [if_pos i, if_pos q, if_pos o], show ptV v c a n = (if a = 0 then ⟨n, v.x1, v.t, v.c⟩ else ⟨v.x0, n, v.t, v.c⟩) by unfold ptV; rw [if_pos i, if_pos q, if_pos o]]
        obtain ⟨o1, o2⟩ := me_yes o
        have p := odd_yes o1
        have S0 : Hid (PB 46 (w.setCell ⟨b, 0, none⟩ (.int .i64 n)) b _) := pb_put0 h n
        have S1 : Hid (PB 46 (w.setCell ⟨b, 1, none⟩ (.int .i64 n)) b _) := pb_put1 h n
        rw [o2] at c3
        have q2 : a = 0 ∨ a = 1 := by have := of_decide_eq_true q; omega
        clear h i o o1 o2 q
        rcases q2 with rfl | rfl
        · rw [if_pos rfl]
          generalize v.t = t at *
          go_enter Try.func19, Try.ntmps19
          go_wp2_with fail
          refine (C.out ()).mono ?_
          rintro e w' ⟨rfl, rfl⟩
          go_wp2_with fail
          refine (P.out ()).mono ?_
          rintro e w' ⟨rfl, rfl⟩
          go_wp2_with fail
          refine (W.out ()).mono ?_
          rintro e w' ⟨rfl, rfl⟩
          go_wp2
          go_ret
          exact ⟨rfl, S0.out, fr_one _ _ rfl⟩
        · rw [if_neg (by decide)]
          generalize v.t = t at *
          go_enter Try.func19, Try.ntmps19
          go_wp2_with fail
          refine (C.out ()).mono ?_
          rintro e w' ⟨rfl, rfl⟩
          go_wp2_with fail
          refine (P.out ()).mono ?_
          rintro e w' ⟨rfl, rfl⟩
          go_wp2_with fail
          refine (W.out ()).mono ?_
          rintro e w' ⟨rfl, rfl⟩
          go_wp2
          go_ret
          exact ⟨rfl, S1.out, fr_one _ _ rfl⟩
      | false =>
        rw [o] at W
        rw [show ptE v c a = 17 by unfold ptE; rw [if_pos i, if_pos q, if_neg (by rw [o]; simp)], show ptV v c a n = v by unfold ptV; rw [if_pos i, if_pos q, if_neg (by rw [o]; simp)]]
        obtain ⟨q1, q2⟩ : 0 ≤ a ∧ a < 2 := of_decide_eq_true q
        clear h i o q
        generalize v.t = t at *
        go_enter Try.func19, Try.ntmps19
        go_wp2_with fail
        refine (C.out ()).mono ?_
        rintro e w' ⟨rfl, rfl⟩
        go_wp2_with fail
        refine (P.out ()).mono ?_
        rintro e w' ⟨rfl, rfl⟩
        go_wp2_with fail
        refine (W.out ()).mono ?_
        rintro e w' ⟨rfl, rfl⟩
        go_wp2
        go_ret
        exact ⟨rfl, HP.out, Fr.refl _ _ _⟩
    | false =>
      rw [q] at P
      rw [show ptE v c a = 3 by unfold ptE; rw [if_pos i, if_neg (by rw [q]; simp)], show ptV v c a n = v by unfold ptV; rw [if_pos i, if_neg (by rw [q]; simp)]]
      clear h i q
      generalize v.t = t at *
      go_enter Try.func19, Try.ntmps19
      go_wp2_with fail
      refine (C.out ()).mono ?_
      rintro e w' ⟨rfl, rfl⟩
      go_wp2_with fail
      refine (P.out ()).mono ?_
      rintro e w' ⟨rfl, rfl⟩
      go_wp2
      go_ret
      exact ⟨rfl, HP.out, Fr.refl _ _ _⟩
  | false =>
    rw [i] at C
    rw [show ptE v c a = 3 by unfold ptE; rw [if_neg (by rw [i]; simp)], show ptV v c a n = v by unfold ptV; rw [if_neg (by rw [i]; simp)]]
    clear h i
    generalize v.t = t at *
    go_enter Try.func19, Try.ntmps19
    go_wp2_with fail
    refine (C.out ()).mono ?_
    rintro e w' ⟨rfl, rfl⟩
    go_wp2
    go_ret
    exact ⟨rfl, HP.out, Fr.refl _ _ _⟩

theorem start_any {b : Nat} {v : PV} (w : World) (h : PB 46 w b v) :
    Calls Try.prog 23 #[.pointer (some ⟨b, 0, none⟩)] w fun e w' => e = .returned (.tuple #[.int .i64 (sN v), .int .i64 (sE v)]) ∧ w' = w := by
  have B : Hid (∀ _ : Unit, _) := fun _ => busy_any w h
  obtain ⟨c0, c1, c2, c3⟩ := h.cs
  clear h
  cases o : odd v with
  | true =>
    rw [o] at B
    rw [show sN v = 0 by unfold sN; rw [if_pos o], show sE v = 7 by unfold sE; rw [if_pos o]]
    have p := odd_yes o
    clear o
    generalize v.t = t at *
    go_enter Try.func23, Try.ntmps23
    go_wp2_with fail
    refine (B.out ()).mono ?_
    rintro e w' ⟨rfl, rfl⟩
    go_wp2
    go_ret2
    exact ⟨rfl, rfl⟩
  | false =>
    rw [o] at B
    rw [show sN v = v.t by unfold sN; rw [if_neg (by rw [o]; simp)], show sE v = 0 by unfold sE; rw [if_neg (by rw [o]; simp)]]
    have p := odd_no o
    clear o
    generalize v.t = t at *
    go_enter Try.func23, Try.ntmps23
    go_wp2_with fail
    refine (B.out ()).mono ?_
    rintro e w' ⟨rfl, rfl⟩
    go_wp2
    go_ret2
    exact ⟨rfl, rfl⟩

theorem get_any {b : Nat} {v : PV} (a : Int) (w : World) (h : PB 46 w b v) :
    Calls Try.prog 25 #[.pointer (some ⟨b, 0, none⟩), .int .i64 a] w fun e w' => e = .returned (.int .i64 (gN v a)) ∧ w' = w := by
  obtain ⟨c0, c1, c2, c3⟩ := h.cs
  clear h
  have P : Hid (∀ _ : Unit, _) := fun _ => isPlace_any (.pointer (some ⟨b, 0, none⟩)) a w
  by_cases e0 : a = 0
  · subst e0
    rw [show gN v 0 = v.x0 from rfl]
    rw [show ipl 0 = true by decide] at P
    go_enter Try.func25, Try.ntmps25
    go_wp2_with fail
    refine (P.out ()).mono ?_
    rintro e w' ⟨rfl, rfl⟩
    go_wp2
    go_ret
    exact ⟨rfl, rfl⟩
  · by_cases e1 : a = 1
    · subst e1
      rw [show gN v 1 = v.x1 from rfl]
      rw [show ipl 1 = true by decide] at P
      go_enter Try.func25, Try.ntmps25
      go_wp2_with fail
      refine (P.out ()).mono ?_
      rintro e w' ⟨rfl, rfl⟩
      go_wp2
      go_ret
      exact ⟨rfl, rfl⟩
    · rw [show gN v a = 0 by unfold gN; rw [if_neg e0, if_neg e1]]
      rw [show ipl a = false from decide_eq_false (by omega)] at P
      clear e0 e1
      go_enter Try.func25, Try.ntmps25
      go_wp2_with fail
      refine (P.out ()).mono ?_
      rintro e w' ⟨rfl, rfl⟩
      go_wp2
      go_ret
      exact ⟨rfl, rfl⟩

set_option maxHeartbeats 400000 in
theorem rbegin_any {b : Nat} {v : PV} (c : Int) (w : World) (h : PB 49 w b v) (ht : (v.t : Int) ≤ 1000) :
    Calls Try.prog 18 #[.pointer (some ⟨b, 0, none⟩), .int .i64 c] w fun e w' => e = .returned (.int .i64 (bgE v c)) ∧ PB 49 w' b (bgV v c) ∧ Fr w.heap.size [b] w w' := by
  have C : Hid (∀ _ : Unit, _) := fun _ => core_any c w
  have HP : Hid (PB 49 w b v) := h
  obtain ⟨c0, c1, c2, c3⟩ := h.cs
  obtain ⟨f0, f1, f2, f3⟩ := h.fz
  cases i : ic c with
  | true =>
    rw [i] at C
    cases o : odd v with
    | true =>
      rw [show bgE v c = 7 by unfold bgE; rw [if_pos i, if_pos o], show bgV v c = v by unfold bgV; rw [if_pos i, if_pos o]]
      have p := odd_yes o
      clear h i o
      generalize v.t = t at *
      go_enter Try.func18, Try.ntmps18
      go_wp2_with fail
      refine (C.out ()).mono ?_
      rintro e w' ⟨rfl, rfl⟩
      go_wp2
      go_ret
      exact ⟨rfl, HP.out, Fr.refl _ _ _⟩
    | false =>
      rw [show bgE v c = 0 by unfold bgE; rw [if_pos i, if_neg (by rw [o]; simp)], show bgV v c = ⟨v.x0, v.x1, v.t + 1, c⟩ by unfold bgV; rw [if_pos i, if_neg (by rw [o]; simp)]]
      have p := odd_no o
      have ST : Hid (∀ x : Int, x = (v.t : Int) + 1 → _) := fun x hx => pb_begin h c x hx
      clear h i o
      generalize v.t = t at *
      go_enter Try.func18, Try.ntmps18
      go_wp2_with fail
      refine (C.out ()).mono ?_
      rintro e w' ⟨rfl, rfl⟩
      go_wp2
      go_ret
      exact ⟨rfl, ST.out _ rfl, fr_two _ _ _ _ rfl rfl⟩
  | false =>
    rw [i] at C
    rw [show bgE v c = 3 by unfold bgE; rw [if_neg (by rw [i]; simp)], show bgV v c = v by unfold bgV; rw [if_neg (by rw [i]; simp)]]
    clear h i
    generalize v.t = t at *
    go_enter Try.func18, Try.ntmps18
    go_wp2_with fail
    refine (C.out ()).mono ?_
    rintro e w' ⟨rfl, rfl⟩
    go_wp2
    go_ret
    exact ⟨rfl, HP.out, Fr.refl _ _ _⟩

set_option maxHeartbeats 400000 in
theorem rend_any {b : Nat} {v : PV} (c : Int) (w : World) (h : PB 49 w b v) (ht : (v.t : Int) ≤ 1000) :
    Calls Try.prog 22 #[.pointer (some ⟨b, 0, none⟩), .int .i64 c] w fun e w' => e = .returned (.int .i64 (enE v c)) ∧ PB 49 w' b (enV v c) ∧ Fr w.heap.size [b] w w' := by
  have C : Hid (∀ _ : Unit, _) := fun _ => core_any c w
  have HP : Hid (PB 49 w b v) := h
  obtain ⟨c0, c1, c2, c3⟩ := h.cs
  obtain ⟨f0, f1, f2, f3⟩ := h.fz
  cases i : ic c with
  | true =>
    rw [i] at C
    cases o : me v c with
    | true =>
      rw [show enE v c = 0 by unfold enE; rw [if_pos i, if_pos o], show enV v c = ⟨v.x0, v.x1, v.t + 1, v.c⟩ by unfold enV; rw [if_pos i, if_pos o]]
      obtain ⟨o1, o2⟩ := me_yes o
      have p := odd_yes o1
      have ST : Hid (∀ x : Int, x = (v.t : Int) + 1 → _) := fun x hx => pb_end h x hx
      rw [o2] at c3
      clear h i o o1 o2
      generalize v.t = t at *
      go_enter Try.func22, Try.ntmps22
      go_wp2_with fail
      refine (C.out ()).mono ?_
      rintro e w' ⟨rfl, rfl⟩
      go_wp2
      go_ret
      exact ⟨rfl, ST.out _ rfl, fr_one _ _ rfl⟩
    | false =>
      rw [show enE v c = 17 by unfold enE; rw [if_pos i, if_neg (by rw [o]; simp)], show enV v c = v by unfold enV; rw [if_pos i, if_neg (by rw [o]; simp)]]
      rcases me_no o with o1 | ⟨o1, o2⟩
      · have p := odd_no o1
        clear h i o o1
        generalize v.t = t at *
        go_enter Try.func22, Try.ntmps22
        go_wp2_with fail
        refine (C.out ()).mono ?_
        rintro e w' ⟨rfl, rfl⟩
        go_wp2
        go_ret
        exact ⟨rfl, HP.out, Fr.refl _ _ _⟩
      · have p := odd_yes o1
        have o3 : (v.c != c) = true := by simp at o2 ⊢; exact o2
        clear h i o o1 o2
        generalize v.t = t at *
        generalize v.c = x at *
        go_enter Try.func22, Try.ntmps22
        go_wp2_with fail
        refine (C.out ()).mono ?_
        rintro e w' ⟨rfl, rfl⟩
        go_wp2
        go_ret
        exact ⟨rfl, HP.out, Fr.refl _ _ _⟩
  | false =>
    rw [i] at C
    rw [show enE v c = 3 by unfold enE; rw [if_neg (by rw [i]; simp)], show enV v c = v by unfold enV; rw [if_neg (by rw [i]; simp)]]
    clear h i
    generalize v.t = t at *
    go_enter Try.func22, Try.ntmps22
    go_wp2_with fail
    refine (C.out ()).mono ?_
    rintro e w' ⟨rfl, rfl⟩
    go_wp2
    go_ret
    exact ⟨rfl, HP.out, Fr.refl _ _ _⟩

set_option maxHeartbeats 400000 in
theorem rput_any {b : Nat} {v : PV} (c a n : Int) (w : World) (h : PB 49 w b v) (ht : (v.t : Int) ≤ 1000) :
    Calls Try.prog 20 #[.pointer (some ⟨b, 0, none⟩), .int .i64 c, .int .i64 a, .int .i64 n] w fun e w' => e = .returned (.int .i64 (ptE v c a)) ∧ PB 49 w' b (ptV v c a n) ∧ Fr w.heap.size [b] w w' := by
  have C : Hid (∀ _ : Unit, _) := fun _ => core_any c w
  have HP : Hid (PB 49 w b v) := h
  obtain ⟨c0, c1, c2, c3⟩ := h.cs
  obtain ⟨f0, f1, f2, f3⟩ := h.fz
  cases i : ic c with
  | true =>
    rw [i] at C
    cases q : ipl a with
    | true =>
      cases o : me v c with
      | true =>
        rw [show ptE v c a = 0 by unfold ptE; rw [if_pos i, if_pos q, if_pos o], show ptV v c a n = (if a = 0 then ⟨n, v.x1, v.t, v.c⟩ else ⟨v.x0, n, v.t, v.c⟩) by unfold ptV; rw [if_pos i, if_pos q, if_pos o]]
        obtain ⟨o1, o2⟩ := me_yes o
        have p := odd_yes o1
        have S0 : Hid (PB 49 (w.setCell ⟨b, 0, none⟩ (.int .i64 n)) b _) := pb_put0 h n
        have S1 : Hid (PB 49 (w.setCell ⟨b, 1, none⟩ (.int .i64 n)) b _) := pb_put1 h n
        rw [o2] at c3
        have q2 : a = 0 ∨ a = 1 := by have := of_decide_eq_true q; omega
        clear h i o o1 o2 q
        rcases q2 with rfl | rfl
        · rw [if_pos rfl]
          generalize v.t = t at *
          go_enter Try.func20, Try.ntmps20
          go_wp2_with fail
          refine (C.out ()).mono ?_
          rintro e w' ⟨rfl, rfl⟩
          go_wp2
          go_ret
          exact ⟨rfl, S0.out, fr_one _ _ rfl⟩
        · rw [if_neg (by decide)]
          generalize v.t = t at *
          go_enter Try.func20, Try.ntmps20
          go_wp2_with fail
          refine (C.out ()).mono ?_
          rintro e w' ⟨rfl, rfl⟩
          go_wp2
          go_ret
          exact ⟨rfl, S1.out, fr_one _ _ rfl⟩
      | false =>
        rw [show ptE v c a = 17 by unfold ptE; rw [if_pos i, if_pos q, if_neg (by rw [o]; simp)], show ptV v c a n = v by unfold ptV; rw [if_pos i, if_pos q, if_neg (by rw [o]; simp)]]
        obtain ⟨q1, q2⟩ : 0 ≤ a ∧ a < 2 := of_decide_eq_true q
        rcases me_no o with o1 | ⟨o1, o2⟩
        · have p := odd_no o1
          clear h i o o1 q
          generalize v.t = t at *
          go_enter Try.func20, Try.ntmps20
          go_wp2_with fail
          refine (C.out ()).mono ?_
          rintro e w' ⟨rfl, rfl⟩
          go_wp2
          go_ret
          exact ⟨rfl, HP.out, Fr.refl _ _ _⟩
        · have p := odd_yes o1
          have o3 : (v.c != c) = true := by simp at o2 ⊢; exact o2
          clear h i o o1 o2 q
          generalize v.t = t at *
          generalize v.c = x at *
          go_enter Try.func20, Try.ntmps20
          go_wp2_with fail
          refine (C.out ()).mono ?_
          rintro e w' ⟨rfl, rfl⟩
          go_wp2
          go_ret
          exact ⟨rfl, HP.out, Fr.refl _ _ _⟩
    | false =>
      rw [show ptE v c a = 3 by unfold ptE; rw [if_pos i, if_neg (by rw [q]; simp)], show ptV v c a n = v by unfold ptV; rw [if_pos i, if_neg (by rw [q]; simp)]]
      have q2 : a < 0 ∨ 1 < a := by have := of_decide_eq_false q; omega
      clear h i q
      rcases q2 with q2 | q2
      · generalize v.t = t at *
        go_enter Try.func20, Try.ntmps20
        go_wp2_with fail
        refine (C.out ()).mono ?_
        rintro e w' ⟨rfl, rfl⟩
        go_wp2
        go_ret
        exact ⟨rfl, HP.out, Fr.refl _ _ _⟩
      · have q3 : ¬ a < 0 := by omega
        generalize v.t = t at *
        go_enter Try.func20, Try.ntmps20
        go_wp2_with fail
        refine (C.out ()).mono ?_
        rintro e w' ⟨rfl, rfl⟩
        go_wp2
        go_ret
        exact ⟨rfl, HP.out, Fr.refl _ _ _⟩
  | false =>
    rw [i] at C
    rw [show ptE v c a = 3 by unfold ptE; rw [if_neg (by rw [i]; simp)], show ptV v c a n = v by unfold ptV; rw [if_neg (by rw [i]; simp)]]
    clear h i
    generalize v.t = t at *
    go_enter Try.func20, Try.ntmps20
    go_wp2_with fail
    refine (C.out ()).mono ?_
    rintro e w' ⟨rfl, rfl⟩
    go_wp2
    go_ret
    exact ⟨rfl, HP.out, Fr.refl _ _ _⟩

theorem rstart_any {b : Nat} {v : PV} (w : World) (h : PB 49 w b v) :
    Calls Try.prog 24 #[.pointer (some ⟨b, 0, none⟩)] w fun e w' => e = .returned (.tuple #[.int .i64 (sN v), .int .i64 (sE v)]) ∧ w' = w := by
  obtain ⟨c0, c1, c2, c3⟩ := h.cs
  clear h
  cases o : odd v with
  | true =>
    rw [show sN v = 0 by unfold sN; rw [if_pos o], show sE v = 7 by unfold sE; rw [if_pos o]]
    have p := odd_yes o
    clear o
    generalize v.t = t at *
    go_enter Try.func24, Try.ntmps24
    go_wp2
    go_ret2
    exact ⟨rfl, rfl⟩
  | false =>
    rw [show sN v = v.t by unfold sN; rw [if_neg (by rw [o]; simp)], show sE v = 0 by unfold sE; rw [if_neg (by rw [o]; simp)]]
    have p := odd_no o
    clear o
    generalize v.t = t at *
    go_enter Try.func24, Try.ntmps24
    go_wp2
    go_ret2
    exact ⟨rfl, rfl⟩

theorem rget_any {b : Nat} {v : PV} (a : Int) (w : World) (h : PB 49 w b v) :
    Calls Try.prog 26 #[.pointer (some ⟨b, 0, none⟩), .int .i64 a] w fun e w' => e = .returned (.int .i64 (gN v a)) ∧ w' = w := by
  obtain ⟨c0, c1, c2, c3⟩ := h.cs
  clear h
  by_cases e0 : a = 0
  · subst e0
    rw [show gN v 0 = v.x0 from rfl]
    go_enter Try.func26, Try.ntmps26
    go_wp2
    go_ret
    exact ⟨rfl, rfl⟩
  · by_cases e1 : a = 1
    · subst e1
      rw [show gN v 1 = v.x1 from rfl]
      go_enter Try.func26, Try.ntmps26
      go_wp2
      go_ret
      exact ⟨rfl, rfl⟩
    · rw [show gN v a = 0 by unfold gN; rw [if_neg e0, if_neg e1]]
      have d0 : (a == 0) = false := by simpa using e0
      have d1 : (a == 1) = false := by simpa using e1
      clear e0 e1
      go_enter Try.func26, Try.ntmps26
      go_wp2
      go_ret
      exact ⟨rfl, rfl⟩

theorem again_any {b : Nat} {v : PV} (x : Int) (w : World) (h : PB 46 w b v) :
    Calls Try.prog 27 #[.pointer (some ⟨b, 0, none⟩), .int .i64 x] w fun e w' => e = .returned (.bool ((v.t : Int) != x)) ∧ w' = w := by
  obtain ⟨c0, c1, c2, c3⟩ := h.cs
  clear h
  obtain ⟨r, hr⟩ : ∃ r, ((v.t : Int) != x) = r := ⟨_, rfl⟩
  rw [hr]
  generalize v.t = t at *
  go_enter Try.func27, Try.ntmps27
  go_wp2
  go_ret
  exact ⟨rfl, rfl⟩

/- The calls of a pair that is not there. -/
theorem pnil_begin (c : Int) (w : World) : Calls Try.prog 17 #[.pointer none, .int .i64 c] w fun e w' => e = .returned (.int .i64 1) ∧ w' = w := by
  go_enter Try.func17, Try.ntmps17
  go_wp2
  go_ret
  exact ⟨rfl, rfl⟩
theorem pnil_end (c : Int) (w : World) : Calls Try.prog 21 #[.pointer none, .int .i64 c] w fun e w' => e = .returned (.int .i64 1) ∧ w' = w := by
  go_enter Try.func21, Try.ntmps21
  go_wp2
  go_ret
  exact ⟨rfl, rfl⟩
theorem pnil_put (c a n : Int) (w : World) : Calls Try.prog 19 #[.pointer none, .int .i64 c, .int .i64 a, .int .i64 n] w fun e w' => e = .returned (.int .i64 1) ∧ w' = w := by
  go_enter Try.func19, Try.ntmps19
  go_wp2
  go_ret
  exact ⟨rfl, rfl⟩
theorem pnil_start (w : World) : Calls Try.prog 23 #[.pointer none] w fun e w' => e = .returned (.tuple #[.int .i64 0, .int .i64 1]) ∧ w' = w := by
  go_enter Try.func23, Try.ntmps23
  go_wp2
  go_ret2
  exact ⟨rfl, rfl⟩
theorem pnil_get (a : Int) (w : World) : Calls Try.prog 25 #[.pointer none, .int .i64 a] w fun e w' => e = .returned (.int .i64 0) ∧ w' = w := by
  go_enter Try.func25, Try.ntmps25
  go_wp2
  go_ret
  exact ⟨rfl, rfl⟩
theorem pnil_again (a : Int) (w : World) : Calls Try.prog 27 #[.pointer none, .int .i64 a] w fun e w' => e = .returned (.bool true) ∧ w' = w := by
  go_enter Try.func27, Try.ntmps27
  go_wp2
  go_ret
  exact ⟨rfl, rfl⟩
end Go.Proofs.Ytaomcakgeiiclaa
