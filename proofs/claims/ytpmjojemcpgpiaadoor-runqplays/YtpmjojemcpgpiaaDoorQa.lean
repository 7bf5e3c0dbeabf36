/- A queue by priorities as it lies in memory; what prio's down, greatest, Prio and Len answer, for every queue. -/
import Derived.Test.YtpmjojemcpgpiaaDoorRows
import Derived.Test.YtpmjojemcpgpiaaDoorFc
import Derived.Test.YtpmjojemcpgpiaaDoorFg
import Derived.Test.YtpmjojemcpgpiaaDoorRf
import Derived.Test.YtpmjojemcpgpiaaDoorQm
import Derived.WalkKit
import Derived.ProofKit
import Derived.OpenShut
import Derived.BigQuiet
import Derived.Shelf.Abstract
namespace Go.Proofs.YtpmjojemcpgpiaaDoor
open Go.ChangeShapes Go.WideShapes Go.ChangeAt Go.RowKit
open Fm Qm

attribute [local go_sem] Oper.semAt_some

/-- The pointers to the eight levels of a queue at block s: each level's struct, behind its ring. -/
def pt (s k : Nat) : Value := .pointer (some ⟨s + 2 + 2 * k, 0, none⟩)
def pts (s : Nat) : List Value := [pt s 0, pt s 1, pt s 2, pt s 3, pt s 4, pt s 5, pt s 6, pt s 7]
theorem pts_at (s k : Nat) (h : k < 8) : (pts s)[k]? = some (pt s k) := by
  obtain rfl | rfl | rfl | rfl | rfl | rfl | rfl | rfl : k = 0 ∨ k = 1 ∨ k = 2 ∨ k = 3 ∨ k = 4 ∨ k = 5 ∨ k = 6 ∨ k = 7 := by omega
  all_goals rfl

/-- The blocks of a queue at block s. -/
def zn (s : Nat) : List Nat := List.range' s 17
theorem mem_zn (s k : Nat) : k ∈ zn s ↔ s ≤ k ∧ k < s + 17 := by unfold zn; rw [List.mem_range'_1]

/-- The queue at block s, for m things, holds X. -/
structure PQ (w : World) (s m : Nat) (X : Its) : Prop where
  sb : Blk w s (pts s) 72
  lv : ∀ k, k < 8 → ∃ f r, Q w (s + 2 + 2 * k) (s + 1 + 2 * k) m f r (lv X k)
  ok : Ok m X

theorem PQ.hi {w : World} {s m : Nat} {X : Its} (h : PQ w s m X) : s + 17 ≤ w.heap.size := by
  obtain ⟨f, r, q⟩ := h.lv 7 (by omega)
  have := q.sb.lt
  omega
theorem PQ.keep {B : Nat} {S : List Nat} {w w' : World} {s m : Nat} {X : Its} (h : PQ w s m X) (f : Fr B S w w') (hB : s + 17 ≤ B) (hS : ∀ k, s ≤ k → k < s + 17 → k ∉ S) : PQ w' s m X :=
  ⟨h.sb.keep f (by omega) (hS s (by omega) (by omega)), fun k hk => by
    obtain ⟨a, r, q⟩ := h.lv k hk
    exact ⟨a, r, q.keep f ⟨by omega, by omega⟩ ⟨hS _ (by omega) (by omega), hS _ (by omega) (by omega)⟩⟩, h.ok⟩
theorem PQ.below {w w' : World} {s m : Nat} {X : Its} (h : PQ w s m X) (f : Below w.heap.size w w') : PQ w' s m X :=
  h.keep (Fr.of_below f) h.hi (fun _ _ _ => by simp)
theorem PQ.m1 {w : World} {s m : Nat} {X : Its} (h : PQ w s m X) : (1 : Int) ≤ m ∧ (m : Int) ≤ 1024 := by
  obtain ⟨f, r, q⟩ := h.lv 0 (by omega)
  have := q.rg.m1
  have := q.rg.m2
  omega
theorem PQ.cell {w : World} {s m : Nat} {X : Its} (h : PQ w s m X) (k : Nat) (hk : k < 8) : w.cell? ⟨s, k, none⟩ = some (pt s k) := by rw [h.sb.cell k, pts_at s k hk]

/-- 'Below N of w' abides what a range over a function does to its own blocks. -/
theorem abd_below {N B : Nat} {w : World} (h : N ≤ w.heap.size) (hB : N ≤ B) : Abd B fun W => Below N w W :=
  ⟨fun W o x => x.alloc (Nat.le_trans h x.size) o, fun W l o o' hl _ _ x => ⟨x.os, x.tape, x.output, by simpa using x.size, fun k hk => (World.putObj_heap_other (by omega)).trans (x.block k hk)⟩⟩

/-- What down hands to the round k. -/
def dx (s k : Nat) : Array Value := #[.int .i64 ((7 - k : Nat) : Int), pt s (7 - k)]

set_option maxHeartbeats 1000000 in
theorem down_it {s : Nat} (l : Nat) (J : Nat → World → Prop) (Jx : World → Prop) (W : World) (hJ : ∀ k W, J k W → ∀ j, j < 8 → W.cell? ⟨s, j, none⟩ = some (pt s j)) (h0 : J 0 W)
    (hY : ∀ k W, k < 8 → J k W → YieldAt Fence.wide 2 Tryd.prog l (dx s k) W fun e W' => (e = .returned (.bool true) ∧ J (k + 1) W') ∨ (e = .returned (.bool false) ∧ Jx W')) :
    CallsIn Fence.wide 3 Tryd.prog 56 (#[.pointer (some ⟨s, 0, none⟩)] ++ #[.func (.yield l) #[] #[]]) W fun e W' => (∃ v, e = .returned v) ∧ (J 8 W' ∨ Jx W') := by
  refine callsIn_of_wp Tryd.func56 rfl trivial ?_ rfl
  simp only [Tryd.ntmps56, List.size_toArray, List.length_cons, List.length_nil, Nat.reduceAdd, Nat.reduceSub, Array.replicate_succ, Array.replicate_zero, List.push_toArray, List.append_toArray, List.nil_append, List.cons_append]
  gi_wp2
  gi_loopw [4] (fun i wr => (∃ p k : Nat, p + k = 7 ∧ i = .int .i64 (p : Int) ∧ J k wr) ∨ (i = .int .i64 (-1) ∧ J 8 wr)) (fun i _ => (intOf i + 1).toNat)
  case atStart => exact Or.inl ⟨7, 0, rfl, rfl, h0⟩
  case round =>
    rcases hrel with ⟨p, k, hp, rfl, hj⟩ | ⟨rfl, hj⟩
    · have hc := hJ k wr hj p (by omega)
      obtain ⟨fn, tmps, assign, body, hy, hR⟩ := hY k wr (by omega) hj
      rw [show dx s k = #[.int .i64 (p : Int), pt s p] by unfold dx; rw [show 7 - k = p by omega]] at hy
      unfold pt at hc hy
      have hp2 : (p : Int) ≤ 7 := by omega
      have E : Hid (∀ W', J (k + 1) W' → ∀ q : Int, q = (p : Int) - 1 → (∃ p k : Nat, p + k = 7 ∧ Value.int .i64 q = .int .i64 (p : Int) ∧ J k W') ∨ (Value.int .i64 q = .int .i64 (-1) ∧ J 8 W')) := fun W' h q e => by
        by_cases c : p = 0
        · refine Or.inr ⟨by rw [e, c]; rfl, ?_⟩
          rw [show k + 1 = 8 by omega] at h
          exact h
        · exact Or.inl ⟨p - 1, k + 1, by omega, by rw [e]; congr 1; omega, h⟩
      clear hp
      gi_wp2
      refine hR.mono ?_
      rintro e W3 (⟨rfl, hJ3⟩ | ⟨rfl, hJx3⟩)
      · gi_wp2
        go_roundw
        case rel => exact E.out _ hJ3 _ (by go_num)
        case measure => simp [intOf]
      · gi_wp2
        refine bodyPost_ret (results_none rfl _ _ _) rfl ?_
        exact ⟨⟨_, rfl⟩, .inr hJx3⟩
    · gi_wp2
      go_end0
      exact ⟨⟨_, rfl⟩, .inl hj⟩

theorem abd_blk (B b : Nat) (cs : List Value) (t : TypeId) : Abd B fun W => Blk W b cs t :=
  ⟨fun W o h => h.alloc o, fun W l o o' _ ho hc h => by
    by_cases e : b = l
    · subst e
      rw [show W.heap[b]? = _ from h] at ho
      cases ho
      cases hc
    · exact (World.putObj_heap_other e).trans h⟩

theorem blk_put {W : World} {b l : Nat} {cs : List Value} {t : TypeId} (h : Blk W b cs t) {ds : List Deferred} (hk : W.heap[l]? = some (.deferred (some ds))) (o : Obj) : Blk (W.putObj l o) b cs t :=
  (abd_blk l b cs t).turn W l _ o (Nat.le_refl _) hk rfl h

theorem tw_set {B : Nat} {W W' : World} (h : Tw2 B W W') {p : Addr} (hp : p.block < B) (v : Value) : Tw2 B W (W'.setCell p v) :=
  ⟨(Below.heap_setCell _ _ _ _ (by omega)).trans h.1, (Below.heap_setCell _ _ _ _ (by omega)).trans h.2⟩
theorem tw_below {B : Nat} {W W' : World} (h : Below W.heap.size W W') (hB : B + 1 < W.heap.size) : Tw2 B W W' := ⟨h.block B (by omega), h.block (B + 1) hB⟩

/-- Two boxes, and all that was there before. -/
def Bx2 (w W : World) (v0 v1 : Value) (t0 t1 : TypeId) : Prop := Below w.heap.size w W ∧ Blk W w.heap.size [v0] t0 ∧ Blk W (w.heap.size + 1) [v1] t1

theorem abd_bx2 {w : World} {v0 v1 : Value} {t0 t1 : TypeId} {B : Nat} (hB : w.heap.size ≤ B) : Abd B fun W => Bx2 w W v0 v1 t0 t1 :=
  (abd_below (Nat.le_refl _) hB).both ((abd_blk B _ _ _).both (abd_blk B _ _ _))

/-- Two boxes that are written, at the end of a function that ranges over a function: what they hold, and what lies behind. -/
theorem bx2_set {w W : World} {v0 v1 : Value} {t0 t1 : TypeId} (h : Bx2 w W v0 v1 t0 t1) (u0 u1 : Value) : Bx2 w ((W.setCell ⟨w.heap.size, 0, none⟩ u0).setCell ⟨w.heap.size + 1, 0, none⟩ u1) u0 u1 t0 t1 := by
  obtain ⟨hb, b0, b1⟩ := h
  refine ⟨(hb.setCell (p := ⟨w.heap.size, 0, none⟩) (Nat.le_refl _) _).setCell (p := ⟨w.heap.size + 1, 0, none⟩) (by simp) _, ?_, ?_⟩
  · exact (b0.set 0 u0).other (p := ⟨w.heap.size + 1, 0, none⟩) (by simp) _
  · exact (b1.other (p := ⟨w.heap.size, 0, none⟩) (by simp) _).set 0 u1
theorem bx2_end {w W : World} {v0 v1 : Value} {t0 t1 : TypeId} {D : Nat} (h : Bx2 w W v0 v1 t0 t1) (hD : w.heap.size ≤ D) {ds : List Deferred} (hK : W.heap[D]? = some (.deferred (some ds))) (o : Obj) : Bx2 w (W.putObj D o) v0 v1 t0 t1 :=
  (abd_bx2 hD).turn W D _ o (Nat.le_refl _) hK rfl h
theorem set2_keep {W : World} {D : Nat} {p q : Addr} {u0 u1 : Value} {o : Obj} (hK : W.heap[D]? = some o) (hp : p.block ≠ D) (hq : q.block ≠ D) : ((W.setCell p u0).setCell q u1).heap[D]? = some o :=
  (Below.heap_setCell _ _ _ _ (Ne.symm hq)).trans ((Below.heap_setCell _ _ _ _ (Ne.symm hp)).trans hK)
theorem bx2_new (w : World) (v0 v1 : Value) (t0 t1 : TypeId) : Bx2 w ((w.alloc (.cells #[v0] t0)).alloc (.cells #[v1] t1)) v0 v1 t0 t1 := by
  refine ⟨((Below.refl _ w).alloc (Nat.le_refl _) _).alloc (by simp) _, ?_, ?_⟩
  · exact (Blk.new w [v0] t0).alloc _
  · have := Blk.new (w.alloc (.cells #[v0] t0)) [v1] t1
    rwa [World.size_alloc] at this

set_option maxHeartbeats 1000000 in
theorem greatest_none {s m : Nat} {X : Its} (w : World) (h : PQ w s m X) (hX : X = []) :
    Calls Tryd.prog 67 #[.pointer (some ⟨s, 0, none⟩)] w fun e w' => e = .returned (.tuple #[.pointer none, .int .i64 12]) ∧ Below w.heap.size w w' := by
  have HP : Hid (PQ w s m X) := h
  have HX : Hid (X = []) := hX
  clear h hX
  refine (callsIn_wide (n := 4)).1 ?_
  refine callsIn_of_wp_marks Tryd.func67 rfl trivial ?_ rfl
  simp only [Tryd.ntmps67, List.size_toArray, List.length_cons, List.length_nil, Nat.reduceAdd, Nat.reduceSub, Array.replicate_succ, Array.replicate_zero, List.push_toArray, List.append_toArray, List.nil_append, List.cons_append]
  gi_wp2
  refine range_bound (gf := 56) (fs := #[.pointer (some ⟨s, 0, none⟩)]) rfl (enters_of Tryd.func56 (by kernel_rfl) rfl) 8 (dx s) (fun _ => rfl)
    (fun _ W => Bx2 w W (.pointer none) (.int .i64 0) 69 25) (fun _ => False) (fun _ => abd_bx2 (by simp; omega)) (Abd.pure _ _) (bx2_new _ _ _ _ _) (fun k => { tmps := #[.pointer (some ⟨s, 0, none⟩), undef, .pointer (some ⟨w.heap.size, 0, none⟩), .pointer (some ⟨w.heap.size + 1, 0, none⟩), undef, pt s (7 - k), .pointer (some ⟨s, 0, none⟩), .bool false, .pointer (some ⟨s, 0, none⟩), .func (.func 56) #[.pointer (some ⟨s, 0, none⟩)] #[], .int .i64 ((7 - k : Nat) : Int), pt s (7 - k), undef, undef, undef, undef], defers := [] }) (fun l J Jx W hJ h0 hY => down_it l J Jx W (fun k W hj j hj8 => (HP.out.below (hJ k W hj).1).cell j hj8) h0 hY) ?assign ?body ?done ?stop
  case assign =>
    intro l k W K hk hK
    unfold dx
    gi_wp2
    exact hK
  case body =>
    intro l k W hk hsz hI
    obtain ⟨f, r, q⟩ := (HP.out.below hI.1).lv (7 - k) (by omega)
    have C : Hid (∀ _ : Unit, _) := fun _ => len_any W q
    rw [HX.out, lv_nil] at C
    unfold pt
    clear q
    gi_wp2_with fail
    refine ⟨trivial, (CallsIn.inRound l (callsIn_wide.2 (C.out ()))).mono ?_⟩
    rintro e w' ⟨rfl, rfl⟩
    gi_wp2
    exact ⟨⟨rfl, rfl⟩, hI⟩
  case done =>
    rintro W hI hK
    rw [World.size_alloc, World.size_alloc] at hK ⊢
    have c0 := hI.2.1.cell 0
    have c1 := hI.2.2.cell 0
    have f0 := hI.2.1.free 0
    have f1 := hI.2.2.free 0
    have K2 := set2_keep (p := ⟨w.heap.size, 0, none⟩) (q := ⟨w.heap.size + 1, 0, none⟩) (u0 := .pointer none) (u1 := .int .i64 12) hK (by simp; omega) (by simp)
    have I2 := bx2_end (bx2_set hI (.pointer none) (.int .i64 12)) (by omega) K2 (.deferred none)
    have e0 := I2.2.1.cell 0
    have e1 := I2.2.2.cell 0
    have HB := I2.1
    clear hI I2
    gi_wp2
    refine ⟨by simp, .inl ⟨_, _, rfl, run_takeDeferred K2, ?_⟩⟩
    refine ⟨.tuple #[.pointer none, .int .i64 12], ?_, rfl, HB⟩
    simp [results, Tryd.f67, go_sem, e0, e1]
  case stop =>
    intro W h _
    exact h.elim

set_option maxHeartbeats 1000000 in
theorem greatest_some {s m g : Nat} {X : Its} (w : World) (h : PQ w s m X) (hG : Gr X g) :
    Calls Tryd.prog 67 #[.pointer (some ⟨s, 0, none⟩)] w fun e w' => e = .returned (.tuple #[pt s g, .int .i64 0]) ∧ Below w.heap.size w w' := by
  have HP : Hid (PQ w s m X) := h
  have HG : Hid (Gr X g) := hG
  clear h hG
  refine (callsIn_wide (n := 4)).1 ?_
  refine callsIn_of_wp_marks Tryd.func67 rfl trivial ?_ rfl
  simp only [Tryd.ntmps67, List.size_toArray, List.length_cons, List.length_nil, Nat.reduceAdd, Nat.reduceSub, Array.replicate_succ, Array.replicate_zero, List.push_toArray, List.append_toArray, List.nil_append, List.cons_append]
  gi_wp2
  refine range_bound (gf := 56) (fs := #[.pointer (some ⟨s, 0, none⟩)]) rfl (enters_of Tryd.func56 (by kernel_rfl) rfl) 8 (dx s) (fun _ => rfl)
    (fun k W => Bx2 w W (.pointer none) (.int .i64 0) 69 25 ∧ g + k ≤ 7) (fun W => Bx2 w W (pt s g) (.int .i64 0) 69 25) (fun _ => (abd_bx2 (by simp; omega)).both (Abd.pure _ _)) (abd_bx2 (by simp; omega)) ⟨bx2_new _ _ _ _ _, by have := HG.out.1; omega⟩ (fun k => { tmps := #[.pointer (some ⟨s, 0, none⟩), undef, .pointer (some ⟨w.heap.size, 0, none⟩), .pointer (some ⟨w.heap.size + 1, 0, none⟩), undef, pt s (7 - k), .pointer (some ⟨s, 0, none⟩), .bool false, .pointer (some ⟨s, 0, none⟩), .func (.func 56) #[.pointer (some ⟨s, 0, none⟩)] #[], .int .i64 ((7 - k : Nat) : Int), pt s (7 - k), undef, undef, undef, undef], defers := [] }) (fun l J Jx W hJ h0 hY => down_it l J Jx W (fun k W hj j hj8 => (HP.out.below (hJ k W hj).1.1).cell j hj8) h0 hY) ?assign ?body ?done ?stop
  case assign =>
    intro l k W K hk hK
    unfold dx
    gi_wp2
    exact hK
  case body =>
    intro l k W hk hsz hI
    obtain ⟨hI, hgk⟩ := hI
    obtain ⟨f, r, q⟩ := (HP.out.below hI.1).lv (7 - k) (by omega)
    have C : Hid (∀ _ : Unit, _) := fun _ => len_any W q
    have c0 := hI.2.1.cell 0
    have c1 := hI.2.2.cell 0
    have f0 := hI.2.1.free 0
    have f1 := hI.2.2.free 0
    have HI : Hid (Bx2 w W (.pointer none) (.int .i64 0) 69 25) := hI
    rw [World.size_alloc, World.size_alloc]
    unfold pt
    clear q hsz hI
    by_cases c : g + k = 7
    · have e : 7 - k = g := by omega
      have hl : (0 : Int) < (lv X g).length := by have := List.length_pos_iff.2 HG.out.2.1; omega
      rw [e] at C ⊢
      generalize (lv X g).length = n at *
      clear e c hgk
      gi_wp2_with fail
      refine ⟨trivial, (CallsIn.inRound l (callsIn_wide.2 (C.out ()))).mono ?_⟩
      rintro e w' ⟨rfl, rfl⟩
      gi_wp2
      exact ⟨tw_set (tw_set ⟨rfl, rfl⟩ (by simp; omega) _) (by simp) _, bx2_set HI.out _ _⟩
    · rw [HG.out.2.2 (7 - k) (by omega) (by omega)] at C
      have hn : g + (k + 1) ≤ 7 := by omega
      clear hgk c
      gi_wp2_with fail
      refine ⟨trivial, (CallsIn.inRound l (callsIn_wide.2 (C.out ()))).mono ?_⟩
      rintro e w' ⟨rfl, rfl⟩
      gi_wp2
      exact ⟨⟨rfl, rfl⟩, HI.out, hn⟩
  case done =>
    rintro W ⟨_, hI⟩ hK
    omega
  case stop =>
    intro W hI hK
    rw [World.size_alloc, World.size_alloc] at hK ⊢
    have I2 := bx2_end hI (by omega) hK (.deferred none)
    have e0 := I2.2.1.cell 0
    have e1 := I2.2.2.cell 0
    have HB := I2.1
    clear hI I2
    gi_wp2
    refine ⟨by simp, .inl ⟨_, _, rfl, run_takeDeferred hK, ?_⟩⟩
    refine ⟨.tuple #[pt s g, .int .i64 0], ?_, rfl, HB⟩
    simp [results, Tryd.f67, go_sem, e0, e1]
end Go.Proofs.YtpmjojemcpgpiaaDoor
