/- A table of interrupts as it lies in memory; what irq's New, at, wanted, canBe, ready, Ready and Get answer and leave. -/
import Derived.Test.YthhgmnkgeombhaaRows
import Derived.Test.YthhgmnkgeombhaaFw
import Derived.Test.YthhgmnkgeombhaaFg
import Derived.Test.YthhgmnkgeombhaaBm
import Derived.Test.YthhgmnkgeombhaaKc
import Derived.WalkKit
import Derived.ProofKit
import Derived.OpenShut
import Derived.BigQuiet
import Derived.Laws.ResultCell
namespace Go.Proofs.Ythhgmnkgeombhaa
open Go.ChangeShapes Go.WideShapes Go.ChangeAt Go.RowKit
open Mm Bm

/-- The four cells of an interrupt. -/
def Four (cs : List Value) (o : Nat) (t : Iq) : Prop :=
  cs[o]? = some (.bool t.wt) ∧ cs[o + 1]? = some (.bool t.ms) ∧ cs[o + 2]? = some (.bool t.pd) ∧ cs[o + 3]? = some (.int .u64 (t.bs : Int))

/-- The cells of a table. -/
structure Ics (cs : List Value) (c : Nat) (X : Nat → Iq) : Prop where
  len : cs.length = 65
  m : cs[0]? = some (.int .u64 ((up (c : Int) : Nat) : Int))
  t : ∀ i, i < 16 → Four cs (1 + i * 4) (X i)

theorem Ics.upd {cs cs' : List Value} {c i : Nat} {X : Nat → Iq} {t : Iq} (h : Ics cs c X) (hl : cs'.length = cs.length) (ho : ∀ k, (k < 1 + i * 4 ∨ 1 + i * 4 + 4 ≤ k) → cs'[k]? = cs[k]?) (h4 : Four cs' (1 + i * 4) t) : Ics cs' c (sx X i t) := by
  refine ⟨hl.trans h.len, (ho 0 (by omega)).trans h.m, fun j hj => ?_⟩
  by_cases e : j = i
  · subst e
    rw [sx_same]
    exact h4
  · rw [sx_other X e]
    obtain ⟨a0, a1, a2, a3⟩ := h.t j hj
    exact ⟨(ho _ (by omega)).trans a0, (ho _ (by omega)).trans a1, (ho _ (by omega)).trans a2, (ho _ (by omega)).trans a3⟩

/-- The table whose block is s. -/
structure IT (w : World) (s c : Nat) (X : Nat → Iq) : Prop where
  bk : ∃ cs, Blk w s cs 76 ∧ Ics cs c X
  c1 : 1 ≤ c
  c2 : c ≤ 64

theorem IT.lt {w : World} {s c : Nat} {X : Nat → Iq} (h : IT w s c X) : s < w.heap.size := by
  obtain ⟨cs, hb, _⟩ := h.bk
  exact hb.lt
theorem IT.heap {w w1 : World} {s c : Nat} {X : Nat → Iq} (h : IT w s c X) (e : w1.heap = w.heap) : IT w1 s c X := by
  obtain ⟨cs, hb, hc⟩ := h.bk
  exact ⟨⟨cs, hb.heap e, hc⟩, h.c1, h.c2⟩
theorem IT.keep {B : Nat} {S : List Nat} {w w' : World} {s c : Nat} {X : Nat → Iq} (h : IT w s c X) (f : Fr B S w w') (hB : s < B) (hS : s ∉ S) : IT w' s c X := by
  obtain ⟨cs, hb, hc⟩ := h.bk
  exact ⟨⟨cs, hb.keep f hB hS, hc⟩, h.c1, h.c2⟩
theorem IT.below {w w' : World} {s c : Nat} {X : Nat → Iq} (h : IT w s c X) (f : Below w.heap.size w w') : IT w' s c X := h.keep (Fr.of_below f) h.lt (by simp)
theorem IT.k0 {w : World} {s c : Nat} {X : Nat → Iq} (h : IT w s c X) : w.cell? ⟨s, 0, none⟩ = some (.int .u64 ((up (c : Int) : Nat) : Int)) := by
  obtain ⟨cs, hb, hc⟩ := h.bk
  rw [hb.cell, hc.m]
theorem IT.free {w : World} {s c : Nat} {X : Nat → Iq} (h : IT w s c X) (k : Nat) : w.frozen? ⟨s, k, none⟩ = false := by
  obtain ⟨cs, hb, hc⟩ := h.bk
  exact hb.free k
/-- The cells of an interrupt. -/
theorem IT.four {w : World} {s c i : Nat} {X : Nat → Iq} (h : IT w s c X) (hi : i < 16) :
    w.cell? ⟨s, 1 + i * 4, none⟩ = some (.bool (X i).wt) ∧ w.cell? ⟨s, 1 + i * 4 + 1, none⟩ = some (.bool (X i).ms) ∧ w.cell? ⟨s, 1 + i * 4 + 2, none⟩ = some (.bool (X i).pd) ∧ w.cell? ⟨s, 1 + i * 4 + 3, none⟩ = some (.int .u64 ((X i).bs : Int)) := by
  obtain ⟨cs, hb, hc⟩ := h.bk
  obtain ⟨a0, a1, a2, a3⟩ := hc.t i hi
  exact ⟨(hb.cell _).trans a0, (hb.cell _).trans a1, (hb.cell _).trans a2, (hb.cell _).trans a3⟩

set_option maxRecDepth 100000 in
set_option maxHeartbeats 400000 in
theorem iqcan_any {s c : Nat} {X : Nat → Iq} (m : Nat) (w : World) (hm : m < 18446744073709551616) (h : IT w s c X) :
    Calls Try.prog 51 #[.pointer (some ⟨s, 0, none⟩), .int .u64 (m : Int)] w fun e w' => e = .returned (.bool (can c m)) ∧ w' = w := by
  have C1 : Hid (∀ w, _) := fun w => kmany_any m w hm
  have k0 := h.k0
  by_cases h0 : m = 0
  · subst h0
    rw [show can c 0 = false from rfl]
    rw [show (ls 0).length = 0 by rw [ls_zero]; rfl] at C1
    clear h k0 hm
    go_enter Try.func51, Try.ntmps51
    go_wp2_with fail
    refine (C1.out _).mono ?_
    rintro e w' ⟨rfl, rfl⟩
    go_wp2
    go_ret
    exact ⟨rfl, rfl⟩
  · have C2 : Hid (∀ w, _) := fun w => kwithin_any m (up (c : Int)) w hm (up_lt _)
    have hp : (0 : Int) < ((ls m).length : Int) := by
      have : (ls m).length ≠ 0 := fun e => h0 (ls_nil m hm (List.eq_nil_of_length_eq_zero e))
      omega
    have hl := ls_le m
    rw [show can c m = (((nt m (up (c : Int)) : Nat) : Int) == 0) by
      unfold can
      rw [decide_eq_true h0, Bool.true_and]
      by_cases e : nt m (up (c : Int)) = 0
      · rw [e]; rfl
      · rw [decide_eq_false e]; symm; rw [beq_eq_false_iff_ne]; omega]
    generalize nt m (up (c : Int)) = P at *
    generalize up (c : Int) = U at *
    generalize (ls m).length = n at *
    clear h hm h0
    go_enter Try.func51, Try.ntmps51
    go_wp2_with fail
    refine (C1.out _).mono ?_
    rintro e w' ⟨rfl, rfl⟩
    go_wp2_with fail
    refine (C2.out _).mono ?_
    rintro e w' ⟨rfl, rfl⟩
    go_wp2
    go_ret
    exact ⟨rfl, rfl⟩

theorem irep_at (L : List Value) (hL : L.length = 4) : ∀ n i j, i < n → j < 4 → (List.replicate n L).flatten[i * 4 + j]? = L[j]?
  | 0, i, j, h, _ => by omega
  | n + 1, i, j, h, hj => by
    rw [List.replicate_succ, List.flatten_cons]
    cases i with
    | zero => rw [List.getElem?_append_left (by omega), Nat.zero_mul, Nat.zero_add]
    | succ i => rw [List.getElem?_append_right (by omega), show (i + 1) * 4 + j - L.length = i * 4 + j by omega]; exact irep_at L hL n i j (by omega) hj

def z4 : List Value := [.bool false, .bool false, .bool false, .int .u64 0]
theorem izeros : Try.zeroCells76.toList = .int .u64 0 :: (List.replicate 16 z4).flatten := by kernel_rfl
theorem ics_new (c : Nat) : Ics (Try.zeroCells76.setIfInBounds 0 (.int .u64 ((up (c : Int) : Nat) : Int))).toList c fun _ => zi := by
  rw [Array.toList_setIfInBounds, izeros]
  simp only [List.set_cons_zero]
  refine ⟨by rfl, rfl, fun i hi => ?_⟩
  have g : ∀ j, j < 4 → (.int .u64 ((up (c : Int) : Nat) : Int) :: (List.replicate 16 z4).flatten : List Value)[1 + i * 4 + j]? = z4[j]? := fun j hj => by
    rw [show 1 + i * 4 + j = i * 4 + j + 1 by omega, List.getElem?_cons_succ]
    exact irep_at z4 rfl 16 i j hi hj
  exact ⟨g 0 (by omega), g 1 (by omega), g 2 (by omega), g 3 (by omega)⟩

set_option maxRecDepth 100000 in
set_option maxHeartbeats 400000 in
theorem iqnew_any (c : Nat) (w : World) (h1 : (1 : Int) ≤ c) (h2 : (c : Int) ≤ 64) :
    Calls Try.prog 9 #[.int .i64 (c : Int)] w fun e w' => e = .returned (.tuple #[.pointer (some ⟨w.heap.size, 0, none⟩), .int .i64 0]) ∧ IT w' w.heap.size c (fun _ => zi) ∧ Below w.heap.size w w' ∧ w'.heap.size = w.heap.size + 1 := by
  have C2 : Hid (∀ w, _) := fun w => kupto_any (c : Int) w
  go_enter Try.func9, Try.ntmps9
  go_wp2_with fail
  refine (C2.out _).mono ?_
  rintro e w2 ⟨rfl, rfl⟩
  go_wp2
  go_ret2
  refine ⟨rfl, ⟨⟨_, ?_, ics_new c⟩, by omega, by omega⟩, (Below.refl _ _).alloc (Nat.le_refl _) _, by simp⟩
  have := Blk.new w2 (Try.zeroCells76.setIfInBounds 0 (.int .u64 ((up (c : Int) : Nat) : Int))).toList 76
  rw [Array.toArray_toList] at this
  exact this

set_option maxRecDepth 100000 in
theorem iqnew_bad (c : Int) (w : World) (h : c < 1 ∨ 64 < c) :
    Calls Try.prog 9 #[.int .i64 c] w fun e w' => e = .returned (.tuple #[.pointer none, .int .i64 2]) ∧ w' = w := by
  rcases h with h | h
  · go_enter Try.func9, Try.ntmps9
    go_wp2
    go_ret2
    exact ⟨rfl, rfl⟩
  · have h2 : (1 : Int) ≤ c := by omega
    go_enter Try.func9, Try.ntmps9
    go_wp2
    go_ret2
    exact ⟨rfl, rfl⟩

set_option maxRecDepth 100000 in
theorem iqat_yes {s i : Nat} (w : World) (hi : (i : Int) < 16) :
    Calls Try.prog 49 #[.pointer (some ⟨s, 0, none⟩), .int .i64 (i : Int)] w fun e w' => e = .returned (.tuple #[.pointer (some ⟨s, 1 + i * 4, none⟩), .int .i64 0]) ∧ w' = w := by
  go_enter Try.func49, Try.ntmps49
  go_wp2
  go_ret2
  exact ⟨rfl, rfl⟩
set_option maxRecDepth 100000 in
theorem iqat_no {s : Nat} (n : Int) (w : World) (h : n < 0 ∨ 16 ≤ n) :
    Calls Try.prog 49 #[.pointer (some ⟨s, 0, none⟩), .int .i64 n] w fun e w' => e = .returned (.tuple #[.pointer none, .int .i64 3]) ∧ w' = w := by
  rcases h with h | h
  · go_enter Try.func49, Try.ntmps49
    go_wp2
    go_ret2
    exact ⟨rfl, rfl⟩
  · have h2 : (0 : Int) ≤ n := by omega
    go_enter Try.func49, Try.ntmps49
    go_wp2
    go_ret2
    exact ⟨rfl, rfl⟩

set_option maxRecDepth 100000 in
theorem iqwa_yes {s c i : Nat} {X : Nat → Iq} (w : World) (h : IT w s c X) (hi : (i : Int) < 16) (q : (X i).wt = true) :
    Calls Try.prog 53 #[.pointer (some ⟨s, 0, none⟩), .int .i64 (i : Int)] w fun e w' => e = .returned (.tuple #[.pointer (some ⟨s, 1 + i * 4, none⟩), .int .i64 0]) ∧ w' = w := by
  have C : Hid (∀ w, _) := fun w => iqat_yes (s := s) w hi
  obtain ⟨a0, -, -, -⟩ := h.four (i := i) (by omega)
  rw [q] at a0
  clear h q
  go_enter Try.func53, Try.ntmps53
  go_wp2_with fail
  refine (C.out _).mono ?_
  rintro e w' ⟨rfl, rfl⟩
  go_wp2
  go_ret2
  exact ⟨rfl, rfl⟩
set_option maxRecDepth 100000 in
theorem iqwa_no {s c : Nat} {X : Nat → Iq} (n : Int) (w : World) (h : IT w s c X) (hn : waE X n ≠ 0) :
    Calls Try.prog 53 #[.pointer (some ⟨s, 0, none⟩), .int .i64 n] w fun e w' => e = .returned (.tuple #[.pointer none, .int .i64 (waE X n)]) ∧ w' = w := by
  cases e : is n with
  | false =>
    have C : Hid (∀ w, _) := fun w => iqat_no (s := s) n w (is_none e)
    rw [show waE X n = 3 by unfold waE; rw [e]; rfl]
    clear h e hn
    go_enter Try.func53, Try.ntmps53
    go_wp2_with fail
    refine (C.out _).mono ?_
    rintro e w' ⟨rfl, rfl⟩
    go_wp2
    go_ret2
    exact ⟨rfl, rfl⟩
  | true =>
    obtain ⟨i, hi, rfl, e2⟩ := is_some e
    have q : (X i).wt = false := by
      cases q : (X i).wt with
      | false => rfl
      | true => exact absurd (wa_nat hi q) hn
    rw [show waE X (i : Int) = 4 by unfold waE; rw [e, e2, q]; rfl]
    have hi2 : (i : Int) < 16 := by omega
    have C : Hid (∀ w, _) := fun w => iqat_yes (s := s) w hi2
    obtain ⟨a0, -, -, -⟩ := h.four hi
    rw [q] at a0
    clear h q e hn e2
    go_enter Try.func53, Try.ntmps53
    go_wp2_with fail
    refine (C.out _).mono ?_
    rintro e w' ⟨rfl, rfl⟩
    go_wp2
    go_ret2
    exact ⟨rfl, rfl⟩

/-- An interrupt as a value. -/
def iqv (t : Iq) : Value := .agg #[.bool t.wt, .bool t.ms, .bool t.pd, .int .u64 (t.bs : Int)]

set_option maxRecDepth 100000 in
theorem iqrdy_any (a b d : Bool) (m : Int) (w : World) :
    Calls Try.prog 50 #[.agg #[.bool a, .bool b, .bool d, .int .u64 m]] w fun e w' => e = .returned (.bool (a && d && !b)) ∧ Below w.heap.size w w' := by
  have BB : Hid (∀ o, Below w.heap.size w (w.alloc o)) := fun o => (Below.refl _ _).alloc (Nat.le_refl _) o
  cases a <;> cases d <;> cases b
  all_goals (
    go_enter Try.func50, Try.ntmps50
    go_wp2
    go_ret
    exact ⟨rfl, BB.out _⟩)

set_option maxRecDepth 100000 in
set_option maxHeartbeats 400000 in
theorem iqready_any {s c : Nat} {X : Nat → Iq} (n : Int) (w : World) (h : IT w s c X) :
    Calls Try.prog 13 #[.pointer (some ⟨s, 0, none⟩), .int .i64 n] w fun e w' => e = .returned (.bool (rdB X n)) ∧ Below w.heap.size w w' := by
  cases e : is n with
  | false =>
    have C : Hid (∀ w, _) := fun w => iqat_no (s := s) n w (is_none e)
    rw [show rdB X n = false by unfold rdB; rw [e]; rfl]
    clear h e
    go_enter Try.func13, Try.ntmps13
    go_wp2_with fail
    refine (C.out _).mono ?_
    rintro e w' ⟨rfl, rfl⟩
    go_wp2
    go_ret
    exact ⟨rfl, Below.refl _ _⟩
  | true =>
    obtain ⟨i, hi, rfl, e2⟩ := is_some e
    rw [show rdB X (i : Int) = rdy (X i) by unfold rdB; rw [e, e2]; rfl]
    have hi2 : (i : Int) < 16 := by omega
    have C : Hid (∀ w, _) := fun w => iqat_yes (s := s) w hi2
    have D : Hid (∀ w, _) := fun w => iqrdy_any (X i).wt (X i).ms (X i).pd ((X i).bs : Int) w
    obtain ⟨a0, a1, a2, a3⟩ := h.four hi
    unfold rdy
    generalize X i = t at *
    clear h e e2
    go_enter Try.func13, Try.ntmps13
    go_wp2_with fail
    refine (C.out _).mono ?_
    rintro e w' ⟨rfl, rfl⟩
    go_wp2_with fail
    refine (D.out _).mono ?_
    rintro e w2 ⟨rfl, b2⟩
    go_wp2
    go_ret
    exact ⟨rfl, b2⟩
end Go.Proofs.Ythhgmnkgeombhaa
