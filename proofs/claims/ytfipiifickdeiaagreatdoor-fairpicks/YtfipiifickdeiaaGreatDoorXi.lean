/- The texts Bm Ba Bb Bc of one layer, laid together. -/
import Derived.Test.YtfipiifickdeiaaGreatDoorRows
import Derived.Test.YtfipiifickdeiaaGreatDoorXb
import Derived.WalkKit
import Derived.ProofKit
import Derived.OpenShut
import Derived.BigQuiet
import Derived.Laws.ResultCell
import Derived.Deep.MidRow
namespace Go.Proofs.YtfipiifickdeiaaGreatDoor.Bm
open Mm
structure Iq where
  wt : Bool
  ms : Bool
  pd : Bool
  bs : Nat
/-- One that is not wanted; one that is wanted anew. -/
def zi : Iq := ⟨false, false, false, 0⟩
def nw (m : Nat) : Iq := ⟨true, false, false, m⟩
/-- One of them turned. -/
def sx (X : Nat → Iq) (i : Nat) (t : Iq) : Nat → Iq := fun j => if j = i then t else X j
/-- Is there such an interrupt? May it be for these cores? -/
def is (n : Int) : Bool := decide (0 ≤ n ∧ n < 16)
def can (c m : Nat) : Bool := decide (m ≠ 0) && decide (nt m (up (c : Int)) = 0)
/-- Can it be handled? -/
def rdy (t : Iq) : Bool := t.wt && t.pd && !t.ms
/- What the calls answer, and what is there then. -/
def atE (n : Int) : Int := if is n = true then 0 else 3
def waE (X : Nat → Iq) (n : Int) : Int := if is n = true then (if (X n.toNat).wt = true then 0 else 4) else 3
def rqE (c : Nat) (X : Nat → Iq) (n : Int) (m : Nat) : Int := if is n = true then (if (X n.toNat).wt = true then 6 else if can c m = true then 0 else 2) else 3
def amE (c : Nat) (X : Nat → Iq) (n : Int) (m : Nat) : Int := if waE X n = 0 then (if can c m = true then 0 else 2) else waE X n
def hsE (X : Nat → Iq) (n : Int) (b : Bool) : Int := if waE X n = 0 then (if (X n.toNat).ms = b then 6 else 0) else waE X n
def clE (X : Nat → Iq) (n : Int) : Int := if waE X n = 0 then (if rdy (X n.toNat) = true then 0 else 12) else waE X n
/-- What is there behind a call that ended so: one turned, or all as it was. -/
def stp (e : Int) (X : Nat → Iq) (n : Int) (t : Iq) : Nat → Iq := if e = 0 then sx X n.toNat t else X
def rdB (X : Nat → Iq) (n : Int) : Bool := is n && rdy (X n.toNat)
def gtX (X : Nat → Iq) (n : Int) : Iq := if is n = true then X n.toNat else zi
theorem is_some {n : Int} (h : is n = true) : ∃ i : Nat, i < 16 ∧ n = (i : Int) ∧ n.toNat = i := by
  have := of_decide_eq_true h
  exact ⟨n.toNat, by omega, by omega, rfl⟩
theorem is_none {n : Int} (h : is n = false) : n < 0 ∨ 16 ≤ n := by
  have := of_decide_eq_false h
  omega
end Go.Proofs.YtfipiifickdeiaaGreatDoor.Bm
namespace Go.Proofs.YtfipiifickdeiaaGreatDoor.Irq
open Go.ChangeShapes Go.WideShapes Go.ChangeAt Go.RowKit
open Mm Bm
/-- The four cells of an interrupt. -/
def Four (cs : List Value) (o : Nat) (t : Iq) : Prop :=
  cs[o]? = some (.bool t.wt) ∧ cs[o + 1]? = some (.bool t.ms) ∧ cs[o + 2]? = some (.bool t.pd) ∧ cs[o + 3]? = some (.int .u64 (t.bs : Int))
/-- The cells of a table. -/
structure Ics (cs : List Value) (c : Nat) (X : Nat → Iq) : Prop where
  len : cs.length = 65
  m : cs[0]? = some (.int .u64 ((up (c : Int) : Nat) : Int))
  t : ∀ i, i < 16 → Four cs (1 + i * 4) (X i)
/-- The table whose block is s. -/
structure IT (w : World) (s c : Nat) (X : Nat → Iq) : Prop where
  bk : ∃ cs, Blk w s cs 141 ∧ Ics cs c X
  c1 : 1 ≤ c
  c2 : c ≤ 64
theorem IT.lt {w : World} {s c : Nat} {X : Nat → Iq} (h : IT w s c X) : s < w.heap.size := by
  obtain ⟨cs, hb, _⟩ := h.bk
  exact hb.lt
theorem IT.heap {w w1 : World} {s c : Nat} {X : Nat → Iq} (h : IT w s c X) (e : w1.heap = w.heap) : IT w1 s c X := by
  obtain ⟨cs, hb, hc⟩ := h.bk
  exact ⟨⟨cs, hb.heap e, hc⟩, h.c1, h.c2⟩
theorem IT.keep {B : Nat} {S : List Nat} {w w' : World} {s c : Nat} {X : Nat → Iq} (h : IT w s c X) (f : Fr B S w w') (hB : s < B) (hS : s ∉ S) : IT w' s c X := by
  obtain ⟨cs, hb, hc⟩ := h.bk
  exact ⟨⟨cs, hb.keep f hB hS, hc⟩, h.c1, h.c2⟩
theorem IT.below {w w' : World} {s c : Nat} {X : Nat → Iq} (h : IT w s c X) (f : Below w.heap.size w w') : IT w' s c X := h.keep (Fr.of_below f) h.lt (by simp)
theorem IT.free {w : World} {s c : Nat} {X : Nat → Iq} (h : IT w s c X) (k : Nat) : w.frozen? ⟨s, k, none⟩ = false := by
  obtain ⟨cs, hb, hc⟩ := h.bk
  exact hb.free k
/-- The cells of an interrupt. -/
theorem IT.four {w : World} {s c i : Nat} {X : Nat → Iq} (h : IT w s c X) (hi : i < 16) :
    w.cell? ⟨s, 1 + i * 4, none⟩ = some (.bool (X i).wt) ∧ w.cell? ⟨s, 1 + i * 4 + 1, none⟩ = some (.bool (X i).ms) ∧ w.cell? ⟨s, 1 + i * 4 + 2, none⟩ = some (.bool (X i).pd) ∧ w.cell? ⟨s, 1 + i * 4 + 3, none⟩ = some (.int .u64 ((X i).bs : Int)) := by
  obtain ⟨cs, hb, hc⟩ := h.bk
  obtain ⟨a0, a1, a2, a3⟩ := hc.t i hi
  exact ⟨(hb.cell _).trans a0, (hb.cell _).trans a1, (hb.cell _).trans a2, (hb.cell _).trans a3⟩
theorem irep_at (L : List Value) (hL : L.length = 4) : ∀ n i j, i < n → j < 4 → (List.replicate n L).flatten[i * 4 + j]? = L[j]?
  | 0, i, j, h, _ => by omega
  | n + 1, i, j, h, hj => by
    rw [List.replicate_succ, List.flatten_cons]
    cases i with
    | zero => rw [List.getElem?_append_left (by omega), Nat.zero_mul, Nat.zero_add]
    | succ i => rw [List.getElem?_append_right (by omega), show (i + 1) * 4 + j - L.length = i * 4 + j by omega]; exact irep_at L hL n i j (by omega) hj
def z4 : List Value := [.bool false, .bool false, .bool false, .int .u64 0]
theorem izeros : Tryz.zeroCells141.toList = .int .u64 0 :: (List.replicate 16 z4).flatten := by kernel_rfl
theorem ics_new (c : Nat) : Ics (Tryz.zeroCells141.setIfInBounds 0 (.int .u64 ((up (c : Int) : Nat) : Int))).toList c fun _ => zi := by
  rw [Array.toList_setIfInBounds, izeros]
  simp only [List.set_cons_zero]
  refine ⟨by rfl, rfl, fun i hi => ?_⟩
  have g : ∀ j, j < 4 → (.int .u64 ((up (c : Int) : Nat) : Int) :: (List.replicate 16 z4).flatten : List Value)[1 + i * 4 + j]? = z4[j]? := fun j hj => by
    rw [show 1 + i * 4 + j = i * 4 + j + 1 by omega, List.getElem?_cons_succ]
    exact irep_at z4 rfl 16 i j hi hj
  exact ⟨g 0 (by omega), g 1 (by omega), g 2 (by omega), g 3 (by omega)⟩
set_option maxRecDepth 100000 in
set_option maxHeartbeats 400000 in
theorem iqnew_any (c : Nat) (w : World) (h1 : (1 : Int) ≤ c) (h2 : (c : Int) ≤ 64) :
    Calls Tryz.prog 22 #[.int .i64 (c : Int)] w fun e w' => e = .returned (.tuple #[.pointer (some ⟨w.heap.size, 0, none⟩), .int .i64 0]) ∧ IT w' w.heap.size c (fun _ => zi) ∧ Below w.heap.size w w' ∧ w'.heap.size = w.heap.size + 1 := by
  have C2 : Hid (∀ w, _) := fun w => kupto_any (c : Int) w
  go_enter Tryz.func22, Tryz.ntmps22
  go_wp2_with fail
  refine (C2.out _).mono ?_
  rintro e w2 ⟨rfl, rfl⟩
  go_wp2
  go_ret2
  refine ⟨rfl, ⟨⟨_, ?_, ics_new c⟩, by omega, by omega⟩, (Below.refl _ _).alloc (Nat.le_refl _) _, by simp⟩
  have := Blk.new w2 (Tryz.zeroCells141.setIfInBounds 0 (.int .u64 ((up (c : Int) : Nat) : Int))).toList 141
  rw [Array.toArray_toList] at this
  exact this
set_option maxRecDepth 100000 in
theorem iqat_yes {s i : Nat} (w : World) (hi : (i : Int) < 16) :
    Calls Tryz.prog 93 #[.pointer (some ⟨s, 0, none⟩), .int .i64 (i : Int)] w fun e w' => e = .returned (.tuple #[.pointer (some ⟨s, 1 + i * 4, none⟩), .int .i64 0]) ∧ w' = w := by
  go_enter Tryz.func93, Tryz.ntmps93
  go_wp2
  go_ret2
  exact ⟨rfl, rfl⟩
set_option maxRecDepth 100000 in
theorem iqat_no {s : Nat} (n : Int) (w : World) (h : n < 0 ∨ 16 ≤ n) :
    Calls Tryz.prog 93 #[.pointer (some ⟨s, 0, none⟩), .int .i64 n] w fun e w' => e = .returned (.tuple #[.pointer none, .int .i64 3]) ∧ w' = w := by
  rcases h with h | h
  · go_enter Tryz.func93, Tryz.ntmps93
    go_wp2
    go_ret2
    exact ⟨rfl, rfl⟩
  · have h2 : (0 : Int) ≤ n := by omega
    go_enter Tryz.func93, Tryz.ntmps93
    go_wp2
    go_ret2
    exact ⟨rfl, rfl⟩
set_option maxRecDepth 100000 in
theorem iqrdy_any (a b d : Bool) (m : Int) (w : World) :
    Calls Tryz.prog 94 #[.agg #[.bool a, .bool b, .bool d, .int .u64 m]] w fun e w' => e = .returned (.bool (a && d && !b)) ∧ Below w.heap.size w w' := by
  have BB : Hid (∀ o, Below w.heap.size w (w.alloc o)) := fun o => (Below.refl _ _).alloc (Nat.le_refl _) o
  cases a <;> cases d <;> cases b
  all_goals (
    go_enter Tryz.func94, Tryz.ntmps94
    go_wp2
    go_ret
    exact ⟨rfl, BB.out _⟩)
set_option maxRecDepth 100000 in
set_option maxHeartbeats 400000 in
theorem iqready_any {s c : Nat} {X : Nat → Iq} (n : Int) (w : World) (h : IT w s c X) :
    Calls Tryz.prog 57 #[.pointer (some ⟨s, 0, none⟩), .int .i64 n] w fun e w' => e = .returned (.bool (rdB X n)) ∧ Below w.heap.size w w' := by
  cases e : is n with
  | false =>
    have C : Hid (∀ w, _) := fun w => iqat_no (s := s) n w (is_none e)
    rw [show rdB X n = false by unfold rdB; rw [e]; rfl]
    clear h e
    go_enter Tryz.func57, Tryz.ntmps57
    go_wp2_with fail
    refine (C.out _).mono ?_
    rintro e w' ⟨rfl, rfl⟩
    go_wp2
    go_ret
    exact ⟨rfl, Below.refl _ _⟩
  | true =>
    obtain ⟨i, hi, rfl, e2⟩ := is_some e
    rw [show rdB X (i : Int) = rdy (X i) by unfold rdB; rw [e, e2]; rfl]
    have hi2 : (i : Int) < 16 := by omega
    have C : Hid (∀ w, _) := fun w => iqat_yes (s := s) w hi2
    have D : Hid (∀ w, _) := fun w => iqrdy_any (X i).wt (X i).ms (X i).pd ((X i).bs : Int) w
    obtain ⟨a0, a1, a2, a3⟩ := h.four hi
    unfold rdy
    generalize X i = t at *
    clear h e e2
    go_enter Tryz.func57, Tryz.ntmps57
    go_wp2_with fail
    refine (C.out _).mono ?_
    rintro e w' ⟨rfl, rfl⟩
    go_wp2_with fail
    refine (D.out _).mono ?_
    rintro e w2 ⟨rfl, b2⟩
    go_wp2
    go_ret
    exact ⟨rfl, b2⟩
end Go.Proofs.YtfipiifickdeiaaGreatDoor.Irq
namespace Go.Proofs.YtfipiifickdeiaaGreatDoor.Irq
open Go.ChangeShapes Go.WideShapes Go.ChangeAt Go.RowKit
open Mm Bm
end Go.Proofs.YtfipiifickdeiaaGreatDoor.Irq
namespace Go.Proofs.YtfipiifickdeiaaGreatDoor.Irq
open Go.ChangeShapes Go.WideShapes Go.ChangeAt Go.RowKit
open Mm Bm
/-- All interrupts as one value. -/
def q4 (t : Iq) : List Value := [.bool t.wt, .bool t.ms, .bool t.pd, .int .u64 (t.bs : Int)]
def qall (X : Nat → Iq) : List Value := (List.range 16).flatMap fun i => q4 (X i)
theorem fl_at (f : Nat → List Value) (hf : ∀ i, (f i).length = 4) : ∀ n i j, i < n → j < 4 → ((List.range n).flatMap f)[i * 4 + j]? = (f i)[j]?
  | 0, i, j, h, _ => by omega
  | n + 1, i, j, h, hj => by
    have hl : ∀ n, ((List.range n).flatMap f).length = n * 4 := fun n => by
      induction n with
      | zero => rfl
      | succ n ih => rw [List.range_succ, List.flatMap_append, List.length_append, ih]; simp [hf]; omega
    rw [List.range_succ, List.flatMap_append]
    by_cases e : i < n
    · rw [List.getElem?_append_left (by rw [hl]; omega)]
      exact fl_at f hf n i j e hj
    · obtain rfl : i = n := by omega
      rw [List.getElem?_append_right (by rw [hl]; omega), hl, show i * 4 + j - i * 4 = j by omega]
      simp
theorem fl_len (f : Nat → List Value) (hf : ∀ i, (f i).length = 4) (n : Nat) : ((List.range n).flatMap f).length = n * 4 := by
  induction n with
  | zero => rfl
  | succ n ih => rw [List.range_succ, List.flatMap_append, List.length_append, ih]; simp [hf]; omega
theorem IT.range {w : World} {s c : Nat} {X : Nat → Iq} (h : IT w s c X) : w.rangeAt s 1 (qall X) := by
  intro j v hv
  have hj : j < 64 := by
    have := (List.getElem?_eq_some_iff.1 hv).1
    unfold qall at this
    rw [fl_len _ (fun _ => rfl)] at this
    exact this
  obtain ⟨a0, a1, a2, a3⟩ := h.four (i := j / 4) (by omega)
  have e : j = j / 4 * 4 + j % 4 := by omega
  have hl := fl_at (fun i => q4 (X i)) (fun _ => rfl) 16 (j / 4) (j % 4) (by omega) (by omega)
  rw [← e] at hl
  rw [show qall X = (List.range 16).flatMap fun i => q4 (X i) from rfl, hl] at hv
  rw [← hv]
  generalize hr : j % 4 = r at *
  generalize j / 4 = i at *
  obtain rfl | rfl | rfl | rfl : r = 0 ∨ r = 1 ∨ r = 2 ∨ r = 3 := by omega
  · rw [show 1 + j = 1 + i * 4 by omega]; exact a0
  · rw [show 1 + j = 1 + i * 4 + 1 by omega]; exact a1
  · rw [show 1 + j = 1 + i * 4 + 2 by omega]; exact a2
  · rw [show 1 + j = 1 + i * 4 + 3 by omega]; exact a3
set_option maxRecDepth 100000 in
theorem iq_index (X : Nat → Iq) (k : Nat) (h : k < 16) (w : World) : (Instr.index 139 (.agg (qall X).toArray) (.int .i64 (k : Int))).run Tryz.prog w = .ok (.agg #[.bool (X k).wt, .bool (X k).ms, .bool (X k).pd, .int .u64 ((X k).bs : Int)]) w := by
  obtain rfl | rfl | rfl | rfl | rfl | rfl | rfl | rfl | rfl | rfl | rfl | rfl | rfl | rfl | rfl | rfl : k = 0 ∨ k = 1 ∨ k = 2 ∨ k = 3 ∨ k = 4 ∨ k = 5 ∨ k = 6 ∨ k = 7 ∨ k = 8 ∨ k = 9 ∨ k = 10 ∨ k = 11 ∨ k = 12 ∨ k = 13 ∨ k = 14 ∨ k = 15 := by omega
  all_goals rfl
theorem gat_alloc {w wr : World} {v : Value} {p : Nat → Bool} {k : Nat} (g : Gat w wr v p k) (o : Obj) : Gat w (wr.alloc o) v p k := ⟨g.own.alloc _, g.bel.alloc g.bel.size _⟩
set_option maxRecDepth 100000 in
set_option maxHeartbeats 1000000 in
theorem iqlist_any {s c : Nat} {X : Nat → Iq} (w : World) (h : IT w s c X) :
    Calls Tryz.prog 295 #[.pointer (some ⟨s, 0, none⟩)] w fun e w' => ∃ v, e = .returned v ∧ Gat w w' v (fun i => (X i).wt) 16 := by
  obtain ⟨i0, hi, hz0, hz1, hz2⟩ := info_parts Tryz.info3
  have HR : Hid (w.rangeAt s 1 (qall X)) := h.range
  have HN : Hid ((Tryz.prog.info? 139).map (·.size) = some (qall X).length) := by rw [show (qall X).length = 64 by unfold qall; rw [fl_len _ (fun _ => rfl)]]; unfold Hid; kernel_rfl
  have HI : Hid (∀ k : Nat, (k : Int) < 16 → ∀ w1 : World, _) := fun k hk w1 => iq_index X k (by omega) w1
  generalize qall X = Q at *
  clear h
  go_enter Tryz.func295, Tryz.ntmps295
  go_wp2_with (guard_target =~ wpList _ _ _ (Oper.mk (some 11) _ _ _ _ _ :: _) _ _; refine wpList_load_mid rfl 139 (.tmp 10) rfl s 1 rfl Q _ HR.out Tryz.underlying139 rfl HN.out ?_)
  go_loopw [3, 12] (fun v i wr => ∃ k : Nat, (k : Int) ≤ 16 ∧ Gat w wr v (fun i => (X i).wt) k ∧ i = .int .i64 (k : Int)) (fun _ i _ => 16 - (intOf i).toNat)
  case atStart => exact ⟨0, by omega, gat_start w _, rfl⟩
  case round =>
    obtain ⟨k, hk, g, rfl⟩ := hrel
    by_cases e : (k : Int) < 16
    · have hx := HI.out k e wr
      cases q : (X k).wt with
      | true =>
        rw [q] at hx
        have G1 := gat_alloc g (.cells #[.bool true, .bool (X k).ms, .bool (X k).pd, .int .u64 ((X k).bs : Int)] 138)
        have hsz := g.bel.size
        have hgl := KK_le (fun i => (X i).wt) k
        have HQ : Hid ((fun i => (X i).wt) k = true) := q
        clear g q
        generalize (X k).ms = b1 at *
        generalize (X k).pd = b2 at *
        generalize (X k).bs = b3 at *
        go_wp2_with (at_builtin; refine wpList_append_own _ rfl _ _ 22 rfl w.heap.size 3 i0 (.int .i64 0) 1 8 Tryz.underlying22 hi hz0 hz1 hz2 rfl (by decide) _ _ _ rfl (G1.own.alloc _) ⟨_, 0, none⟩ 1 1 [.int .i64 (k : Int)] rfl rfl ?c1 ?c2 ?c3 ?c4 ?c5 ?_)
        case c2 => first | rfl | (intro u hu; simp at hu; subst hu; rfl)
        case c3 => unfold maxLen; omega
        case c4 => omega
        case c5 => omega
        intro v' w2 hown' hgrow _
        have G3 := gat_keep G1 HQ.out hown' hgrow
        clear hown' hgrow
        go_wp2
        go_roundw
        case rel => exact ⟨k + 1, by omega, G3, by go_num⟩
        case measure => simp [intOf]; omega
      | false =>
        rw [q] at hx
        have G2 := gat_alloc (gat_drop g q) (.cells #[.bool false, .bool (X k).ms, .bool (X k).pd, .int .u64 ((X k).bs : Int)] 138)
        clear g q
        go_wp2
        go_roundw
        case rel => exact ⟨k + 1, by omega, G2, by go_num⟩
        case measure => simp [intOf]; omega
    · obtain rfl : k = 16 := by omega
      have G : Hid (Gat w wr _ (fun i => (X i).wt) 16) := g
      obtain ⟨a, cap, rfl⟩ := own_shape g.own
      clear g
      go_wp2
      go_ret
      exact ⟨_, rfl, G.out⟩
end Go.Proofs.YtfipiifickdeiaaGreatDoor.Irq
