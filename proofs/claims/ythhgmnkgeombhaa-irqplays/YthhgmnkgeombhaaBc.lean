/- What irq's Get and List answer and leave, for every table. -/
import Derived.Test.YthhgmnkgeombhaaRows
import Derived.Test.YthhgmnkgeombhaaBa
import Derived.Test.YthhgmnkgeombhaaKh
import Derived.WalkKit
import Derived.ProofKit
import Derived.OpenShut
import Derived.BigQuiet
import Derived.Laws.ResultCell
import Derived.Deep.MidRow
namespace Go.Proofs.Ythhgmnkgeombhaa
open Go.ChangeShapes Go.WideShapes Go.ChangeAt Go.RowKit
open Mm Bm

/-- The world with a new interrupt's cells. -/
def wi (w : World) : World := w.alloc (.cells #[.bool false, .bool false, .bool false, .int .u64 0] 41)
theorem wi_below (w : World) : Below w.heap.size w (wi w) := (Below.refl _ _).alloc (Nat.le_refl _) _
theorem wi_blk (w : World) : Blk (wi w) w.heap.size z4 41 := Blk.new w _ _

theorem blk_four {w : World} {z : Nat} {t : TypeId} (h : Blk w z z4 t) (v0 v1 v2 v3 : Value) : Blk ((((w.setCell ⟨z, 0, none⟩ v0).setCell ⟨z, 1, none⟩ v1).setCell ⟨z, 2, none⟩ v2).setCell ⟨z, 3, none⟩ v3) z [v0, v1, v2, v3] t :=
  (((h.set 0 v0).set 1 v1).set 2 v2).set 3 v3
theorem fr_4 {B : Nat} {S : List Nat} {a w : World} {g : Nat} (h : Fr B S a w) (hp : B ≤ g ∨ g ∈ S) (v0 v1 v2 v3 : Value) : Fr B S a ((((w.setCell ⟨g, 0, none⟩ v0).setCell ⟨g, 1, none⟩ v1).setCell ⟨g, 2, none⟩ v2).setCell ⟨g, 3, none⟩ v3) :=
  (((h.setCell (p := ⟨g, 0, none⟩) hp v0).setCell (p := ⟨g, 1, none⟩) hp v1).setCell (p := ⟨g, 2, none⟩) hp v2).setCell (p := ⟨g, 3, none⟩) hp v3

/-- What a call answers whose first result is an interrupt. -/
theorem iqget_ret {w : World} {z : Nat} {t : Iq} {e : Int} {tmps : Array Value} (h : Blk w z [.bool t.wt, .bool t.ms, .bool t.pd, .int .u64 (t.bs : Int)] 41) (h4 : tmps.getD 4 undef = .pointer (some ⟨z, 0, none⟩)) (h5 : tmps.getD 5 undef = .int .i64 e) :
    (results Try.f18 tmps).run Try.prog w = .ok (.tuple #[iqv t, .int .i64 e]) w := by
  have q0 : w.cell? ⟨z, 0, none⟩ = some (.bool t.wt) := h.cell 0
  have q1 : w.cell? ⟨z, 1, none⟩ = some (.bool t.ms) := h.cell 1
  have q2 : w.cell? ⟨z, 2, none⟩ = some (.bool t.pd) := h.cell 2
  have q3 : w.cell? ⟨z, 3, none⟩ = some (.int .u64 (t.bs : Int)) := h.cell 3
  rw [results_cell_tmp (p := 4) (u := 5) (ty := 41) rfl, h4, h5]
  simp [go_sem, q0, q1, q2, q3, iqv]

set_option maxRecDepth 100000 in
set_option maxHeartbeats 400000 in
theorem iqget_any {s c : Nat} {X : Nat → Iq} (n : Int) (w : World) (h : IT w s c X) :
    Calls Try.prog 18 #[.pointer (some ⟨s, 0, none⟩), .int .i64 n] w fun e w' => e = .returned (.tuple #[iqv (gtX X n), .int .i64 (atE n)]) ∧ Below w.heap.size w w' := by
  obtain ⟨wa, hwa⟩ : ∃ wa, wi w = wa := ⟨_, rfl⟩
  have HWA : Hid (w.alloc (.cells #[.bool false, .bool false, .bool false, .int .u64 0] 41) = wa) := hwa
  have hb := wi_below w
  have hk := wi_blk w
  rw [hwa] at hb hk
  have h1 := h.below hb
  have BL : Hid (Fr w.heap.size [] w wa) := Fr.of_below hb
  obtain ⟨z, hz⟩ : ∃ z, w.heap.size = z := ⟨_, rfl⟩
  have HZ : Hid (w.heap.size = z) := hz
  rw [hz] at hk BL ⊢
  have KB : Hid (∀ v0 v1 v2 v3 : Value, _) := blk_four hk
  have z0 : wa.cell? ⟨z, 0, none⟩ = some (.bool false) := hk.cell 0
  have z1 : wa.cell? ⟨z, 1, none⟩ = some (.bool false) := hk.cell 1
  have z2 : wa.cell? ⟨z, 2, none⟩ = some (.bool false) := hk.cell 2
  have z3 : wa.cell? ⟨z, 3, none⟩ = some (.int .u64 0) := hk.cell 3
  have f0 := hk.free 0
  have f1 := hk.free 1
  have f2 := hk.free 2
  have f3 := hk.free 3
  clear hwa hb hk h hz
  cases e : is n with
  | false =>
    have C1 : Hid (∀ w, _) := fun w => iqat_no (s := s) n w (is_none e)
    rw [show gtX X n = zi by unfold gtX; rw [e]; rfl, show atE n = 3 by unfold atE; rw [e]; rfl]
    clear h1 e
    go_enter Try.func18, Try.ntmps18
    go_wp2_with fail
    rw [HWA.out, HZ.out]
    refine (C1.out _).mono ?_
    rintro e w' ⟨rfl, rfl⟩
    go_wp2
    exact bodyPost_ret (iqget_ret (t := zi) (KB.out _ _ _ _) rfl rfl) rfl ⟨rfl, (fr_4 BL.out (Or.inl (Nat.le_refl _)) _ _ _ _).below (by simp)⟩
  | true =>
    obtain ⟨i, hi, rfl, e2⟩ := is_some e
    rw [show gtX X (i : Int) = X i by unfold gtX; rw [e, e2]; rfl, show atE (i : Int) = 0 by unfold atE; rw [e]; rfl]
    have hi2 : (i : Int) < 16 := by omega
    have C1 : Hid (∀ w, _) := fun w => iqat_yes (s := s) w hi2
    obtain ⟨a0, a1, a2, a3⟩ := h1.four hi
    clear h1 e e2
    go_enter Try.func18, Try.ntmps18
    go_wp2_with fail
    rw [HWA.out, HZ.out]
    refine (C1.out _).mono ?_
    rintro e w' ⟨rfl, rfl⟩
    go_wp2
    exact bodyPost_ret (iqget_ret (t := X i) (KB.out _ _ _ _) rfl rfl) rfl ⟨rfl, (fr_4 BL.out (Or.inl (Nat.le_refl _)) _ _ _ _).below (by simp)⟩

/-- All interrupts as one value. -/
def q4 (t : Iq) : List Value := [.bool t.wt, .bool t.ms, .bool t.pd, .int .u64 (t.bs : Int)]
def qall (X : Nat → Iq) : List Value := (List.range 16).flatMap fun i => q4 (X i)

theorem fl_at (f : Nat → List Value) (hf : ∀ i, (f i).length = 4) : ∀ n i j, i < n → j < 4 → ((List.range n).flatMap f)[i * 4 + j]? = (f i)[j]?
  | 0, i, j, h, _ => by omega
  | n + 1, i, j, h, hj => by
    have hl : ∀ n, ((List.range n).flatMap f).length = n * 4 := fun n => by
      induction n with
      | zero => rfl
      | succ n ih => rw [List.range_succ, List.flatMap_append, List.length_append, ih]; simp [hf]; omega
    rw [List.range_succ, List.flatMap_append]
    by_cases e : i < n
    · rw [List.getElem?_append_left (by rw [hl]; omega)]
      exact fl_at f hf n i j e hj
    · obtain rfl : i = n := by omega
      rw [List.getElem?_append_right (by rw [hl]; omega), hl, show i * 4 + j - i * 4 = j by omega]
      simp
theorem fl_len (f : Nat → List Value) (hf : ∀ i, (f i).length = 4) (n : Nat) : ((List.range n).flatMap f).length = n * 4 := by
  induction n with
  | zero => rfl
  | succ n ih => rw [List.range_succ, List.flatMap_append, List.length_append, ih]; simp [hf]; omega

theorem IT.range {w : World} {s c : Nat} {X : Nat → Iq} (h : IT w s c X) : w.rangeAt s 1 (qall X) := by
  intro j v hv
  have hj : j < 64 := by
    have := (List.getElem?_eq_some_iff.1 hv).1
    unfold qall at this
    rw [fl_len _ (fun _ => rfl)] at this
    exact this
  obtain ⟨a0, a1, a2, a3⟩ := h.four (i := j / 4) (by omega)
  have e : j = j / 4 * 4 + j % 4 := by omega
  have hl := fl_at (fun i => q4 (X i)) (fun _ => rfl) 16 (j / 4) (j % 4) (by omega) (by omega)
  rw [← e] at hl
  rw [show qall X = (List.range 16).flatMap fun i => q4 (X i) from rfl, hl] at hv
  rw [← hv]
  generalize hr : j % 4 = r at *
  generalize j / 4 = i at *
  obtain rfl | rfl | rfl | rfl : r = 0 ∨ r = 1 ∨ r = 2 ∨ r = 3 := by omega
  · rw [show 1 + j = 1 + i * 4 by omega]; exact a0
  · rw [show 1 + j = 1 + i * 4 + 1 by omega]; exact a1
  · rw [show 1 + j = 1 + i * 4 + 2 by omega]; exact a2
  · rw [show 1 + j = 1 + i * 4 + 3 by omega]; exact a3

set_option maxRecDepth 100000 in
theorem iq_index (X : Nat → Iq) (k : Nat) (h : k < 16) (w : World) : (Instr.index 74 (.agg (qall X).toArray) (.int .i64 (k : Int))).run Try.prog w = .ok (.agg #[.bool (X k).wt, .bool (X k).ms, .bool (X k).pd, .int .u64 ((X k).bs : Int)]) w := by
  obtain rfl | rfl | rfl | rfl | rfl | rfl | rfl | rfl | rfl | rfl | rfl | rfl | rfl | rfl | rfl | rfl : k = 0 ∨ k = 1 ∨ k = 2 ∨ k = 3 ∨ k = 4 ∨ k = 5 ∨ k = 6 ∨ k = 7 ∨ k = 8 ∨ k = 9 ∨ k = 10 ∨ k = 11 ∨ k = 12 ∨ k = 13 ∨ k = 14 ∨ k = 15 := by omega
  all_goals rfl

theorem gat_alloc {w wr : World} {v : Value} {p : Nat → Bool} {k : Nat} (g : Gat w wr v p k) (o : Obj) : Gat w (wr.alloc o) v p k := ⟨g.own.alloc _, g.bel.alloc g.bel.size _⟩

set_option maxRecDepth 100000 in
set_option maxHeartbeats 1000000 in
theorem iqlist_any {s c : Nat} {X : Nat → Iq} (w : World) (h : IT w s c X) :
    Calls Try.prog 16 #[.pointer (some ⟨s, 0, none⟩)] w fun e w' => ∃ v, e = .returned v ∧ Gat w w' v (fun i => (X i).wt) 16 := by
  obtain ⟨i0, hi, hz0, hz1, hz2⟩ := info_parts Try.info3
  have HR : Hid (w.rangeAt s 1 (qall X)) := h.range
  have HN : Hid ((Try.prog.info? 74).map (·.size) = some (qall X).length) := by rw [show (qall X).length = 64 by unfold qall; rw [fl_len _ (fun _ => rfl)]]; unfold Hid; kernel_rfl
  have HI : Hid (∀ k : Nat, (k : Int) < 16 → ∀ w1 : World, _) := fun k hk w1 => iq_index X k (by omega) w1
  generalize qall X = Q at *
  clear h
  go_enter Try.func16, Try.ntmps16
  go_wp2_with (guard_target =~ wpList _ _ _ (Oper.mk (some 11) _ _ _ _ _ :: _) _ _; refine wpList_load_mid rfl 74 (.tmp 10) rfl s 1 rfl Q _ HR.out Try.underlying74 rfl HN.out ?_)
  go_loopw [3, 12] (fun v i wr => ∃ k : Nat, (k : Int) ≤ 16 ∧ Gat w wr v (fun i => (X i).wt) k ∧ i = .int .i64 (k : Int)) (fun _ i _ => 16 - (intOf i).toNat)
  case atStart => exact ⟨0, by omega, gat_start w _, rfl⟩
  case round =>
    obtain ⟨k, hk, g, rfl⟩ := hrel
    by_cases e : (k : Int) < 16
    · have hx := HI.out k e wr
      cases q : (X k).wt with
      | true =>
        rw [q] at hx
        have G1 := gat_alloc g (.cells #[.bool true, .bool (X k).ms, .bool (X k).pd, .int .u64 ((X k).bs : Int)] 41)
        have hsz := g.bel.size
        have hgl := KK_le (fun i => (X i).wt) k
        have HQ : Hid ((fun i => (X i).wt) k = true) := q
        clear g q
        generalize (X k).ms = b1 at *
        generalize (X k).pd = b2 at *
        generalize (X k).bs = b3 at *
        go_wp2_with (at_builtin; refine wpList_append_own _ rfl _ _ 37 rfl w.heap.size 3 i0 (.int .i64 0) 1 8 Try.underlying37 hi hz0 hz1 hz2 rfl (by decide) _ _ _ rfl (G1.own.alloc _) ⟨_, 0, none⟩ 1 1 [.int .i64 (k : Int)] rfl rfl ?c1 ?c2 ?c3 ?c4 ?c5 ?_)
        case c2 => first | rfl | (intro u hu; simp at hu; subst hu; rfl)
        case c3 => unfold maxLen; omega
        case c4 => omega
        case c5 => omega
        intro v' w2 hown' hgrow _
        have G3 := gat_keep G1 HQ.out hown' hgrow
        clear hown' hgrow
        go_wp2
        go_roundw
        case rel => exact ⟨k + 1, by omega, G3, by go_num⟩
        case measure => simp [intOf]; omega
      | false =>
        rw [q] at hx
        have G2 := gat_alloc (gat_drop g q) (.cells #[.bool false, .bool (X k).ms, .bool (X k).pd, .int .u64 ((X k).bs : Int)] 41)
        clear g q
        go_wp2
        go_roundw
        case rel => exact ⟨k + 1, by omega, G2, by go_num⟩
        case measure => simp [intOf]; omega
    · obtain rfl : k = 16 := by omega
      have G : Hid (Gat w wr _ (fun i => (X i).wt) 16) := g
      obtain ⟨a, cap, rfl⟩ := own_shape g.own
      clear g
      go_wp2
      go_ret
      exact ⟨_, rfl, G.out⟩
end Go.Proofs.Ythhgmnkgeombhaa
