/- Contracts of the program's layers, as far as this claim needs them. -/
import Derived.Test.YtmkboahjkhkefaaGreatDoorRows
import Derived.Test.YtmkboahjkhkefaaGreatDoorQXb
import Derived.WalkKit
import Derived.ProofKit
import Derived.OpenShut
import Derived.BigQuiet
import Derived.Laws.ResultCell
import Derived.Deep.MidRow
set_option linter.unusedVariables false
set_option linter.unusedSimpArgs false
namespace Go.Proofs.YtmkboahjkhkefaaGreatDoor.Bm
open Mm
structure Iq where
  wt : Bool
  ms : Bool
  pd : Bool
  bs : Nat
def zi : Iq := ⟨false, false, false, 0⟩
def nw (m : Nat) : Iq := ⟨true, false, false, m⟩
def sx (X : Nat → Iq) (i : Nat) (t : Iq) : Nat → Iq := fun j => if j = i then t else X j
def is (n : Int) : Bool := decide (0 ≤ n ∧ n < 16)
def can (c m : Nat) : Bool := decide (m ≠ 0) && decide (nt m (up (c : Int)) = 0)
def rdy (t : Iq) : Bool := t.wt && t.pd && !t.ms
/- What the calls answer, and what is there then. -/
def atE (n : Int) : Int := if is n = true then 0 else 3
def waE (X : Nat → Iq) (n : Int) : Int := if is n = true then (if (X n.toNat).wt = true then 0 else 4) else 3
def rqE (c : Nat) (X : Nat → Iq) (n : Int) (m : Nat) : Int := if is n = true then (if (X n.toNat).wt = true then 6 else if can c m = true then 0 else 2) else 3
def amE (c : Nat) (X : Nat → Iq) (n : Int) (m : Nat) : Int := if waE X n = 0 then (if can c m = true then 0 else 2) else waE X n
def hsE (X : Nat → Iq) (n : Int) (b : Bool) : Int := if waE X n = 0 then (if (X n.toNat).ms = b then 6 else 0) else waE X n
def clE (X : Nat → Iq) (n : Int) : Int := if waE X n = 0 then (if rdy (X n.toNat) = true then 0 else 12) else waE X n
def stp (e : Int) (X : Nat → Iq) (n : Int) (t : Iq) : Nat → Iq := if e = 0 then sx X n.toNat t else X
def rdB (X : Nat → Iq) (n : Int) : Bool := is n && rdy (X n.toNat)
def gtX (X : Nat → Iq) (n : Int) : Iq := if is n = true then X n.toNat else zi
theorem is_some {n : Int} (h : is n = true) : ∃ i : Nat, i < 16 ∧ n = (i : Int) ∧ n.toNat = i := by
  have := of_decide_eq_true h
  exact ⟨n.toNat, by omega, by omega, rfl⟩
theorem is_none {n : Int} (h : is n = false) : n < 0 ∨ 16 ≤ n := by
  have := of_decide_eq_false h
  omega
end Go.Proofs.YtmkboahjkhkefaaGreatDoor.Bm
namespace Go.Proofs.YtmkboahjkhkefaaGreatDoor.Irq
open Go.ChangeShapes Go.WideShapes Go.ChangeAt Go.RowKit
open Mm Bm
def Four (cs : List Value) (o : Nat) (t : Iq) : Prop :=
  cs[o]? = some (.bool t.wt) ∧ cs[o + 1]? = some (.bool t.ms) ∧ cs[o + 2]? = some (.bool t.pd) ∧ cs[o + 3]? = some (.int .u64 (t.bs : Int))
structure Ics (cs : List Value) (c : Nat) (X : Nat → Iq) : Prop where
  len : cs.length = 65
  m : cs[0]? = some (.int .u64 ((up (c : Int) : Nat) : Int))
  t : ∀ i, i < 16 → Four cs (1 + i * 4) (X i)
structure IT (w : World) (s c : Nat) (X : Nat → Iq) : Prop where
  bk : ∃ cs, Blk w s cs 171 ∧ Ics cs c X
  c1 : 1 ≤ c
  c2 : c ≤ 64
theorem IT.lt {w : World} {s c : Nat} {X : Nat → Iq} (h : IT w s c X) : s < w.heap.size := by
  obtain ⟨cs, hb, _⟩ := h.bk
  exact hb.lt
theorem IT.keep {B : Nat} {S : List Nat} {w w' : World} {s c : Nat} {X : Nat → Iq} (h : IT w s c X) (f : Fr B S w w') (hB : s < B) (hS : s ∉ S) : IT w' s c X := by
  obtain ⟨cs, hb, hc⟩ := h.bk
  exact ⟨⟨cs, hb.keep f hB hS, hc⟩, h.c1, h.c2⟩
theorem IT.four {w : World} {s c i : Nat} {X : Nat → Iq} (h : IT w s c X) (hi : i < 16) :
    w.cell? ⟨s, 1 + i * 4, none⟩ = some (.bool (X i).wt) ∧ w.cell? ⟨s, 1 + i * 4 + 1, none⟩ = some (.bool (X i).ms) ∧ w.cell? ⟨s, 1 + i * 4 + 2, none⟩ = some (.bool (X i).pd) ∧ w.cell? ⟨s, 1 + i * 4 + 3, none⟩ = some (.int .u64 ((X i).bs : Int)) := by
  obtain ⟨cs, hb, hc⟩ := h.bk
  obtain ⟨a0, a1, a2, a3⟩ := hc.t i hi
  exact ⟨(hb.cell _).trans a0, (hb.cell _).trans a1, (hb.cell _).trans a2, (hb.cell _).trans a3⟩
theorem irep_at (L : List Value) (hL : L.length = 4) : ∀ n i j, i < n → j < 4 → (List.replicate n L).flatten[i * 4 + j]? = L[j]?
  | 0, i, j, h, _ => by omega
  | n + 1, i, j, h, hj => by
    rw [List.replicate_succ, List.flatten_cons]
    cases i with
    | zero => rw [List.getElem?_append_left (by omega), Nat.zero_mul, Nat.zero_add]
    | succ i => rw [List.getElem?_append_right (by omega), show (i + 1) * 4 + j - L.length = i * 4 + j by omega]; exact irep_at L hL n i j (by omega) hj
def z4 : List Value := [.bool false, .bool false, .bool false, .int .u64 0]
theorem izeros : Tryz.zeroCells171.toList = .int .u64 0 :: (List.replicate 16 z4).flatten := by kernel_rfl
theorem ics_new (c : Nat) : Ics (Tryz.zeroCells171.setIfInBounds 0 (.int .u64 ((up (c : Int) : Nat) : Int))).toList c fun _ => zi := by
  rw [Array.toList_setIfInBounds, izeros]
  simp only [List.set_cons_zero]
  refine ⟨by rfl, rfl, fun i hi => ?_⟩
  have g : ∀ j, j < 4 → (.int .u64 ((up (c : Int) : Nat) : Int) :: (List.replicate 16 z4).flatten : List Value)[1 + i * 4 + j]? = z4[j]? := fun j hj => by
    rw [show 1 + i * 4 + j = i * 4 + j + 1 by omega, List.getElem?_cons_succ]
    exact irep_at z4 rfl 16 i j hi hj
  exact ⟨g 0 (by omega), g 1 (by omega), g 2 (by omega), g 3 (by omega)⟩
set_option maxRecDepth 100000 in
set_option maxHeartbeats 400000 in
theorem iqnew_any (c : Nat) (w : World) (h1 : (1 : Int) ≤ c) (h2 : (c : Int) ≤ 64) :
    Calls Tryz.prog 46 #[.int .i64 (c : Int)] w fun e w' => e = .returned (.tuple #[.pointer (some ⟨w.heap.size, 0, none⟩), .int .i64 0]) ∧ IT w' w.heap.size c (fun _ => zi) ∧ Below w.heap.size w w' ∧ w'.heap.size = w.heap.size + 1 := by
  have C2 : Hid (∀ w, _) := fun w => kupto_any (c : Int) w
  go_enter Tryz.func46, Tryz.ntmps46
  go_wp2_with fail
  refine (C2.out _).mono ?_
  rintro e w2 ⟨rfl, rfl⟩
  go_wp2
  go_ret2
  refine ⟨rfl, ⟨⟨_, ?_, ics_new c⟩, by omega, by omega⟩, (Below.refl _ _).alloc (Nat.le_refl _) _, by simp⟩
  have := Blk.new w2 (Tryz.zeroCells171.setIfInBounds 0 (.int .u64 ((up (c : Int) : Nat) : Int))).toList 171
  rw [Array.toArray_toList] at this
  exact this
set_option maxRecDepth 100000 in
theorem iqat_yes {s i : Nat} (w : World) (hi : (i : Int) < 16) :
    Calls Tryz.prog 251 #[.pointer (some ⟨s, 0, none⟩), .int .i64 (i : Int)] w fun e w' => e = .returned (.tuple #[.pointer (some ⟨s, 1 + i * 4, none⟩), .int .i64 0]) ∧ w' = w := by
  go_enter Tryz.func251, Tryz.ntmps251
  go_wp2
  go_ret2
  exact ⟨rfl, rfl⟩
set_option maxRecDepth 100000 in
theorem iqat_no {s : Nat} (n : Int) (w : World) (h : n < 0 ∨ 16 ≤ n) :
    Calls Tryz.prog 251 #[.pointer (some ⟨s, 0, none⟩), .int .i64 n] w fun e w' => e = .returned (.tuple #[.pointer none, .int .i64 3]) ∧ w' = w := by
  rcases h with h | h
  · go_enter Tryz.func251, Tryz.ntmps251
    go_wp2
    go_ret2
    exact ⟨rfl, rfl⟩
  · have h2 : (0 : Int) ≤ n := by omega
    go_enter Tryz.func251, Tryz.ntmps251
    go_wp2
    go_ret2
    exact ⟨rfl, rfl⟩
set_option maxRecDepth 100000 in
theorem iqrdy_any (a b d : Bool) (m : Int) (w : World) :
    Calls Tryz.prog 207 #[.agg #[.bool a, .bool b, .bool d, .int .u64 m]] w fun e w' => e = .returned (.bool (a && d && !b)) ∧ Below w.heap.size w w' := by
  have BB : Hid (∀ o, Below w.heap.size w (w.alloc o)) := fun o => (Below.refl _ _).alloc (Nat.le_refl _) o
  cases a <;> cases d <;> cases b
  all_goals (
    go_enter Tryz.func207, Tryz.ntmps207
    go_wp2
    go_ret
    exact ⟨rfl, BB.out _⟩)
set_option maxRecDepth 100000 in
set_option maxHeartbeats 400000 in
theorem iqready_any {s c : Nat} {X : Nat → Iq} (n : Int) (w : World) (h : IT w s c X) :
    Calls Tryz.prog 190 #[.pointer (some ⟨s, 0, none⟩), .int .i64 n] w fun e w' => e = .returned (.bool (rdB X n)) ∧ Below w.heap.size w w' := by
  cases e : is n with
  | false =>
    have C : Hid (∀ w, _) := fun w => iqat_no (s := s) n w (is_none e)
    rw [show rdB X n = false by unfold rdB; rw [e]; rfl]
    clear h e
    go_enter Tryz.func190, Tryz.ntmps190
    go_wp2_with fail
    refine (C.out _).mono ?_
    rintro e w' ⟨rfl, rfl⟩
    go_wp2
    go_ret
    exact ⟨rfl, Below.refl _ _⟩
  | true =>
    obtain ⟨i, hi, rfl, e2⟩ := is_some e
    rw [show rdB X (i : Int) = rdy (X i) by unfold rdB; rw [e, e2]; rfl]
    have hi2 : (i : Int) < 16 := by omega
    have C : Hid (∀ w, _) := fun w => iqat_yes (s := s) w hi2
    have D : Hid (∀ w, _) := fun w => iqrdy_any (X i).wt (X i).ms (X i).pd ((X i).bs : Int) w
    obtain ⟨a0, a1, a2, a3⟩ := h.four hi
    unfold rdy
    generalize X i = t at *
    clear h e e2
    go_enter Tryz.func190, Tryz.ntmps190
    go_wp2_with fail
    refine (C.out _).mono ?_
    rintro e w' ⟨rfl, rfl⟩
    go_wp2_with fail
    refine (D.out _).mono ?_
    rintro e w2 ⟨rfl, b2⟩
    go_wp2
    go_ret
    exact ⟨rfl, b2⟩
end Go.Proofs.YtmkboahjkhkefaaGreatDoor.Irq
namespace Go.Proofs.YtmkboahjkhkefaaGreatDoor.Irq
open Go.ChangeShapes Go.WideShapes Go.ChangeAt Go.RowKit
open Mm Bm
end Go.Proofs.YtmkboahjkhkefaaGreatDoor.Irq
namespace Go.Proofs.YtmkboahjkhkefaaGreatDoor.Irq
open Go.ChangeShapes Go.WideShapes Go.ChangeAt Go.RowKit
open Mm Bm
end Go.Proofs.YtmkboahjkhkefaaGreatDoor.Irq
