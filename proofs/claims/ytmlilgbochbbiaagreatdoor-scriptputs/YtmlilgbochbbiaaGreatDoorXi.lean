/- The texts Bm Ba Bb Bc of one layer, laid together. -/
import Derived.Test.YtmlilgbochbbiaaGreatDoorRows
import Derived.Test.YtmlilgbochbbiaaGreatDoorXb
import Derived.WalkKit
import Derived.ProofKit
import Derived.OpenShut
import Derived.BigQuiet
import Derived.Laws.ResultCell
import Derived.Deep.MidRow
namespace Go.Proofs.YtmlilgbochbbiaaGreatDoor.Bm
open Mm
structure Iq where
  wt : Bool
  ms : Bool
  pd : Bool
  bs : Nat
/-- One that is not wanted; one that is wanted anew. -/
def zi : Iq := ⟨false, false, false, 0⟩
def nw (m : Nat) : Iq := ⟨true, false, false, m⟩
/-- One of them turned. -/
def sx (X : Nat → Iq) (i : Nat) (t : Iq) : Nat → Iq := fun j => if j = i then t else X j
/-- Is there such an interrupt? May it be for these cores? -/
def is (n : Int) : Bool := decide (0 ≤ n ∧ n < 16)
def can (c m : Nat) : Bool := decide (m ≠ 0) && decide (nt m (up (c : Int)) = 0)
/-- Can it be handled? -/
def rdy (t : Iq) : Bool := t.wt && t.pd && !t.ms
/- What the calls answer, and what is there then. -/
def atE (n : Int) : Int := if is n = true then 0 else 3
def waE (X : Nat → Iq) (n : Int) : Int := if is n = true then (if (X n.toNat).wt = true then 0 else 4) else 3
def rqE (c : Nat) (X : Nat → Iq) (n : Int) (m : Nat) : Int := if is n = true then (if (X n.toNat).wt = true then 6 else if can c m = true then 0 else 2) else 3
def amE (c : Nat) (X : Nat → Iq) (n : Int) (m : Nat) : Int := if waE X n = 0 then (if can c m = true then 0 else 2) else waE X n
def hsE (X : Nat → Iq) (n : Int) (b : Bool) : Int := if waE X n = 0 then (if (X n.toNat).ms = b then 6 else 0) else waE X n
def clE (X : Nat → Iq) (n : Int) : Int := if waE X n = 0 then (if rdy (X n.toNat) = true then 0 else 12) else waE X n
/-- What is there behind a call that ended so: one turned, or all as it was. -/
def stp (e : Int) (X : Nat → Iq) (n : Int) (t : Iq) : Nat → Iq := if e = 0 then sx X n.toNat t else X
def rdB (X : Nat → Iq) (n : Int) : Bool := is n && rdy (X n.toNat)
def gtX (X : Nat → Iq) (n : Int) : Iq := if is n = true then X n.toNat else zi
end Go.Proofs.YtmlilgbochbbiaaGreatDoor.Bm
namespace Go.Proofs.YtmlilgbochbbiaaGreatDoor.Irq
open Go.ChangeShapes Go.WideShapes Go.ChangeAt Go.RowKit
open Mm Bm
/-- The four cells of an interrupt. -/
def Four (cs : List Value) (o : Nat) (t : Iq) : Prop :=
  cs[o]? = some (.bool t.wt) ∧ cs[o + 1]? = some (.bool t.ms) ∧ cs[o + 2]? = some (.bool t.pd) ∧ cs[o + 3]? = some (.int .u64 (t.bs : Int))
/-- The cells of a table. -/
structure Ics (cs : List Value) (c : Nat) (X : Nat → Iq) : Prop where
  len : cs.length = 65
  m : cs[0]? = some (.int .u64 ((up (c : Int) : Nat) : Int))
  t : ∀ i, i < 16 → Four cs (1 + i * 4) (X i)
/-- The table whose block is s. -/
structure IT (w : World) (s c : Nat) (X : Nat → Iq) : Prop where
  bk : ∃ cs, Blk w s cs 168 ∧ Ics cs c X
  c1 : 1 ≤ c
  c2 : c ≤ 64
theorem IT.lt {w : World} {s c : Nat} {X : Nat → Iq} (h : IT w s c X) : s < w.heap.size := by
  obtain ⟨cs, hb, _⟩ := h.bk
  exact hb.lt
theorem IT.keep {B : Nat} {S : List Nat} {w w' : World} {s c : Nat} {X : Nat → Iq} (h : IT w s c X) (f : Fr B S w w') (hB : s < B) (hS : s ∉ S) : IT w' s c X := by
  obtain ⟨cs, hb, hc⟩ := h.bk
  exact ⟨⟨cs, hb.keep f hB hS, hc⟩, h.c1, h.c2⟩
theorem IT.below {w w' : World} {s c : Nat} {X : Nat → Iq} (h : IT w s c X) (f : Below w.heap.size w w') : IT w' s c X := h.keep (Fr.of_below f) h.lt (by simp)
theorem IT.free {w : World} {s c : Nat} {X : Nat → Iq} (h : IT w s c X) (k : Nat) : w.frozen? ⟨s, k, none⟩ = false := by
  obtain ⟨cs, hb, hc⟩ := h.bk
  exact hb.free k
/-- The cells of an interrupt. -/
theorem IT.four {w : World} {s c i : Nat} {X : Nat → Iq} (h : IT w s c X) (hi : i < 16) :
    w.cell? ⟨s, 1 + i * 4, none⟩ = some (.bool (X i).wt) ∧ w.cell? ⟨s, 1 + i * 4 + 1, none⟩ = some (.bool (X i).ms) ∧ w.cell? ⟨s, 1 + i * 4 + 2, none⟩ = some (.bool (X i).pd) ∧ w.cell? ⟨s, 1 + i * 4 + 3, none⟩ = some (.int .u64 ((X i).bs : Int)) := by
  obtain ⟨cs, hb, hc⟩ := h.bk
  obtain ⟨a0, a1, a2, a3⟩ := hc.t i hi
  exact ⟨(hb.cell _).trans a0, (hb.cell _).trans a1, (hb.cell _).trans a2, (hb.cell _).trans a3⟩
theorem irep_at (L : List Value) (hL : L.length = 4) : ∀ n i j, i < n → j < 4 → (List.replicate n L).flatten[i * 4 + j]? = L[j]?
  | 0, i, j, h, _ => by omega
  | n + 1, i, j, h, hj => by
    rw [List.replicate_succ, List.flatten_cons]
    cases i with
    | zero => rw [List.getElem?_append_left (by omega), Nat.zero_mul, Nat.zero_add]
    | succ i => rw [List.getElem?_append_right (by omega), show (i + 1) * 4 + j - L.length = i * 4 + j by omega]; exact irep_at L hL n i j (by omega) hj
def z4 : List Value := [.bool false, .bool false, .bool false, .int .u64 0]
theorem izeros : Tryz.zeroCells168.toList = .int .u64 0 :: (List.replicate 16 z4).flatten := by kernel_rfl
theorem ics_new (c : Nat) : Ics (Tryz.zeroCells168.setIfInBounds 0 (.int .u64 ((up (c : Int) : Nat) : Int))).toList c fun _ => zi := by
  rw [Array.toList_setIfInBounds, izeros]
  simp only [List.set_cons_zero]
  refine ⟨by rfl, rfl, fun i hi => ?_⟩
  have g : ∀ j, j < 4 → (.int .u64 ((up (c : Int) : Nat) : Int) :: (List.replicate 16 z4).flatten : List Value)[1 + i * 4 + j]? = z4[j]? := fun j hj => by
    rw [show 1 + i * 4 + j = i * 4 + j + 1 by omega, List.getElem?_cons_succ]
    exact irep_at z4 rfl 16 i j hi hj
  exact ⟨g 0 (by omega), g 1 (by omega), g 2 (by omega), g 3 (by omega)⟩
set_option maxRecDepth 100000 in
set_option maxHeartbeats 400000 in
theorem iqnew_any (c : Nat) (w : World) (h1 : (1 : Int) ≤ c) (h2 : (c : Int) ≤ 64) :
    Calls Tryz.prog 41 #[.int .i64 (c : Int)] w fun e w' => e = .returned (.tuple #[.pointer (some ⟨w.heap.size, 0, none⟩), .int .i64 0]) ∧ IT w' w.heap.size c (fun _ => zi) ∧ Below w.heap.size w w' ∧ w'.heap.size = w.heap.size + 1 := by
  have C2 : Hid (∀ w, _) := fun w => kupto_any (c : Int) w
  go_enter Tryz.func41, Tryz.ntmps41
  go_wp2_with fail
  refine (C2.out _).mono ?_
  rintro e w2 ⟨rfl, rfl⟩
  go_wp2
  go_ret2
  refine ⟨rfl, ⟨⟨_, ?_, ics_new c⟩, by omega, by omega⟩, (Below.refl _ _).alloc (Nat.le_refl _) _, by simp⟩
  have := Blk.new w2 (Tryz.zeroCells168.setIfInBounds 0 (.int .u64 ((up (c : Int) : Nat) : Int))).toList 168
  rw [Array.toArray_toList] at this
  exact this
end Go.Proofs.YtmlilgbochbbiaaGreatDoor.Irq
namespace Go.Proofs.YtmlilgbochbbiaaGreatDoor.Irq
open Go.ChangeShapes Go.WideShapes Go.ChangeAt Go.RowKit
open Mm Bm
end Go.Proofs.YtmlilgbochbbiaaGreatDoor.Irq
namespace Go.Proofs.YtmlilgbochbbiaaGreatDoor.Irq
open Go.ChangeShapes Go.WideShapes Go.ChangeAt Go.RowKit
open Mm Bm
/-- All interrupts as one value. -/
def q4 (t : Iq) : List Value := [.bool t.wt, .bool t.ms, .bool t.pd, .int .u64 (t.bs : Int)]
def qall (X : Nat → Iq) : List Value := (List.range 16).flatMap fun i => q4 (X i)
theorem fl_at (f : Nat → List Value) (hf : ∀ i, (f i).length = 4) : ∀ n i j, i < n → j < 4 → ((List.range n).flatMap f)[i * 4 + j]? = (f i)[j]?
  | 0, i, j, h, _ => by omega
  | n + 1, i, j, h, hj => by
    have hl : ∀ n, ((List.range n).flatMap f).length = n * 4 := fun n => by
      induction n with
      | zero => rfl
      | succ n ih => rw [List.range_succ, List.flatMap_append, List.length_append, ih]; simp [hf]; omega
    rw [List.range_succ, List.flatMap_append]
    by_cases e : i < n
    · rw [List.getElem?_append_left (by rw [hl]; omega)]
      exact fl_at f hf n i j e hj
    · obtain rfl : i = n := by omega
      rw [List.getElem?_append_right (by rw [hl]; omega), hl, show i * 4 + j - i * 4 = j by omega]
      simp
theorem fl_len (f : Nat → List Value) (hf : ∀ i, (f i).length = 4) (n : Nat) : ((List.range n).flatMap f).length = n * 4 := by
  induction n with
  | zero => rfl
  | succ n ih => rw [List.range_succ, List.flatMap_append, List.length_append, ih]; simp [hf]; omega
theorem IT.range {w : World} {s c : Nat} {X : Nat → Iq} (h : IT w s c X) : w.rangeAt s 1 (qall X) := by
  intro j v hv
  have hj : j < 64 := by
    have := (List.getElem?_eq_some_iff.1 hv).1
    unfold qall at this
    rw [fl_len _ (fun _ => rfl)] at this
    exact this
  obtain ⟨a0, a1, a2, a3⟩ := h.four (i := j / 4) (by omega)
  have e : j = j / 4 * 4 + j % 4 := by omega
  have hl := fl_at (fun i => q4 (X i)) (fun _ => rfl) 16 (j / 4) (j % 4) (by omega) (by omega)
  rw [← e] at hl
  rw [show qall X = (List.range 16).flatMap fun i => q4 (X i) from rfl, hl] at hv
  rw [← hv]
  generalize hr : j % 4 = r at *
  generalize j / 4 = i at *
  obtain rfl | rfl | rfl | rfl : r = 0 ∨ r = 1 ∨ r = 2 ∨ r = 3 := by omega
  · rw [show 1 + j = 1 + i * 4 by omega]; exact a0
  · rw [show 1 + j = 1 + i * 4 + 1 by omega]; exact a1
  · rw [show 1 + j = 1 + i * 4 + 2 by omega]; exact a2
  · rw [show 1 + j = 1 + i * 4 + 3 by omega]; exact a3
end Go.Proofs.YtmlilgbochbbiaaGreatDoor.Irq
