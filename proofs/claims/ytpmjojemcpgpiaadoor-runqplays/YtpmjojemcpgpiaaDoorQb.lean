/- What prio's Prio, Len and List answer, for every queue. -/
import Derived.Test.YtpmjojemcpgpiaaDoorQa
import Derived.WalkKit
import Derived.ProofKit
import Derived.OpenShut
import Derived.BigQuiet
import Derived.Shelf.Abstract
import Derived.Shelf.RegionOpen
namespace Go.Proofs.YtpmjojemcpgpiaaDoor
open Go.ChangeShapes Go.WideShapes Go.ChangeAt Go.RowKit
open Fm Qm

attribute [local go_sem] Oper.semAt_some

/-- Three boxes, and all that was there before. -/
structure Bx3 (w W : World) (v0 v1 v2 : Value) (t0 t1 t2 : TypeId) : Prop where
  bel : Below w.heap.size w W
  b0 : Blk W w.heap.size [v0] t0
  b1 : Blk W (w.heap.size + 1) [v1] t1
  b2 : Blk W (w.heap.size + 1 + 1) [v2] t2

theorem abd_bx3 {w : World} {v0 v1 v2 : Value} {t0 t1 t2 : TypeId} {B : Nat} (hB : w.heap.size ≤ B) : Abd B fun W => Bx3 w W v0 v1 v2 t0 t1 t2 :=
  ⟨fun W o h => ⟨(abd_below (Nat.le_refl _) hB).new W o h.bel, h.b0.alloc o, h.b1.alloc o, h.b2.alloc o⟩,
   fun W l o o' a b c h => ⟨(abd_below (Nat.le_refl _) hB).turn W l o o' a b c h.bel, (abd_blk B _ _ _).turn W l o o' a b c h.b0, (abd_blk B _ _ _).turn W l o o' a b c h.b1, (abd_blk B _ _ _).turn W l o o' a b c h.b2⟩⟩
theorem Bx3.drewN {w W : World} {v0 v1 v2 : Value} {t0 t1 t2 : TypeId} (h : Bx3 w W v0 v1 v2 t0 t1 t2) (n : Nat) : Bx3 w (W.drewN n) v0 v1 v2 t0 t1 t2 := ⟨⟨h.bel.os, h.bel.tape, h.bel.output, h.bel.size, h.bel.block⟩, h.b0, h.b1, h.b2⟩
theorem Bx3.set {w W : World} {v0 v1 v2 : Value} {t0 t1 t2 : TypeId} (h : Bx3 w W v0 v1 v2 t0 t1 t2) (u1 u2 : Value) : Bx3 w ((W.setCell ⟨w.heap.size + 1, 0, none⟩ u1).setCell ⟨w.heap.size + 1 + 1, 0, none⟩ u2) v0 u1 u2 t0 t1 t2 := by
  refine ⟨(h.bel.setCell (p := ⟨w.heap.size + 1, 0, none⟩) (by simp) _).setCell (p := ⟨w.heap.size + 1 + 1, 0, none⟩) (by simp; omega) _, ?_, ?_, ?_⟩
  · exact (h.b0.other (p := ⟨w.heap.size + 1, 0, none⟩) (by simp) _).other (p := ⟨w.heap.size + 1 + 1, 0, none⟩) (by simp; omega) _
  · exact (h.b1.set 0 u1).other (p := ⟨w.heap.size + 1 + 1, 0, none⟩) (by simp) _
  · exact (h.b2.other (p := ⟨w.heap.size + 1, 0, none⟩) (by simp) _).set 0 u2
theorem Bx3.new (w : World) (v0 v1 v2 : Value) (t0 t1 t2 : TypeId) : Bx3 w (((w.alloc (.cells #[v0] t0)).alloc (.cells #[v1] t1)).alloc (.cells #[v2] t2)) v0 v1 v2 t0 t1 t2 := by
  refine ⟨(((Below.refl _ w).alloc (Nat.le_refl _) _).alloc (by simp) _).alloc (by simp; omega) _, ?_, ?_, ?_⟩
  · exact ((Blk.new w [v0] t0).alloc _).alloc _
  · have := Blk.new (w.alloc (.cells #[v0] t0)) [v1] t1
    rw [World.size_alloc] at this
    exact this.alloc _
  · have := Blk.new ((w.alloc (.cells #[v0] t0)).alloc (.cells #[v1] t1)) [v2] t2
    rwa [World.size_alloc, World.size_alloc] at this
theorem Bx3.fin {w W : World} {v0 v1 v2 : Value} {t0 t1 t2 : TypeId} {D : Nat} (h : Bx3 w W v0 v1 v2 t0 t1 t2) (hD : w.heap.size ≤ D) {ds : List Deferred} (hK : W.heap[D]? = some (.deferred (some ds))) (o : Obj) : Bx3 w (W.putObj D o) v0 v1 v2 t0 t1 t2 :=
  (abd_bx3 hD).turn W D _ o (Nat.le_refl _) hK rfl h

set_option maxHeartbeats 1000000 in
theorem prio_miss {s m : Nat} {X : Its} (n : Int) (w : World) (h : PQ w s m X) (hn : n ∉ ids X) :
    Calls Tryd.prog 34 #[.pointer (some ⟨s, 0, none⟩), .int .i64 n] w fun e w' => e = .returned (.tuple #[.int .i64 0, .bool false]) ∧ Below w.heap.size w w' := by
  have HP : Hid (PQ w s m X) := h
  have HN : Hid (∀ k, n ∉ lv X k) := no_lv hn
  clear h hn
  refine (callsIn_wide (n := 4)).1 ?_
  refine callsIn_of_wp_marks Tryd.func34 rfl trivial ?_ rfl
  simp only [Tryd.ntmps34, List.size_toArray, List.length_cons, List.length_nil, Nat.reduceAdd, Nat.reduceSub, Array.replicate_succ, Array.replicate_zero, List.push_toArray, List.append_toArray, List.nil_append, List.cons_append]
  gi_wp2
  refine range_bound (gf := 56) (fs := #[.pointer (some ⟨s, 0, none⟩)]) rfl (enters_of Tryd.func56 (by kernel_rfl) rfl) 8 (dx s) (fun _ => rfl)
    (fun _ W => Bx3 w W (.int .i64 n) (.int .i64 0) (.bool false) 3 3 4) (fun _ => False) (fun _ => abd_bx3 (by simp; omega)) (Abd.pure _ _) (Bx3.new _ _ _ _ _ _ _) (fun k => { tmps := #[.pointer (some ⟨s, 0, none⟩), .int .i64 n, undef, .pointer (some ⟨w.heap.size, 0, none⟩), .pointer (some ⟨w.heap.size + 1, 0, none⟩), .pointer (some ⟨w.heap.size + 1 + 1, 0, none⟩), .int .i64 ((7 - k : Nat) : Int), pt s (7 - k), .pointer (some ⟨s, 0, none⟩), .bool false, .pointer (some ⟨s, 0, none⟩), .func (.func 56) #[.pointer (some ⟨s, 0, none⟩)] #[], .int .i64 ((7 - k : Nat) : Int), pt s (7 - k), undef, undef, undef, undef], defers := [] }) (fun l J Jx W hJ h0 hY => down_it l J Jx W (fun k W hj j hj8 => (HP.out.below (hJ k W hj).bel).cell j hj8) h0 hY) ?assign ?body ?done ?stop
  case assign =>
    intro l k W K hk hK
    unfold dx
    gi_wp2
    exact hK
  case body =>
    intro l k W hk hsz hI
    obtain ⟨f, r, q⟩ := (HP.out.below hI.bel).lv (7 - k) (by omega)
    have C : Hid (∀ _ : Unit, _) := fun _ => has_any n W q
    rw [decide_eq_false (HN.out (7 - k))] at C
    have c0 := hI.b0.cell 0
    have HI : Hid (Bx3 w W (.int .i64 n) (.int .i64 0) (.bool false) 3 3 4) := hI
    unfold pt
    clear q hI hsz
    gi_wp2_with fail
    refine ⟨trivial, (CallsIn.inRound l (callsIn_wide.2 (C.out ()))).mono ?_⟩
    rintro e w' ⟨rfl, d, rfl⟩
    gi_wp2
    exact ⟨⟨rfl, rfl⟩, HI.out.drewN d⟩
  case done =>
    rintro W hI hK
    rw [World.size_alloc, World.size_alloc, World.size_alloc] at hK ⊢
    have c0 := hI.b1.cell 0
    have c1 := hI.b2.cell 0
    have f0 := hI.b1.free 0
    have f1 := hI.b2.free 0
    have K2 := set2_keep (p := ⟨w.heap.size + 1, 0, none⟩) (q := ⟨w.heap.size + 1 + 1, 0, none⟩) (u0 := .int .i64 0) (u1 := .bool false) hK (by simp <;> omega) (by simp <;> omega)
    have I2 := (hI.set (.int .i64 0) (.bool false)).fin (by omega) K2 (.deferred none)
    have e0 := I2.b1.cell 0
    have e1 := I2.b2.cell 0
    have HB := I2.bel
    clear hI I2
    gi_wp2
    refine ⟨by simp, .inl ⟨_, _, rfl, run_takeDeferred K2, ?_⟩⟩
    refine ⟨.tuple #[.int .i64 0, .bool false], ?_, rfl, HB⟩
    simp [results, Tryd.f34, go_sem, e0, e1]
  case stop =>
    intro W h _
    exact h.elim

set_option maxHeartbeats 1000000 in
theorem prio_hit {s m g : Nat} {X : Its} (n : Int) (w : World) (h : PQ w s m X) (hg : g < 8) (h1 : n ∈ lv X g) (h2 : ∀ j, j ≠ g → n ∉ lv X j) :
    Calls Tryd.prog 34 #[.pointer (some ⟨s, 0, none⟩), .int .i64 n] w fun e w' => e = .returned (.tuple #[.int .i64 (g : Int), .bool true]) ∧ Below w.heap.size w w' := by
  have HP : Hid (PQ w s m X) := h
  have H1 : Hid (n ∈ lv X g) := h1
  have H2 : Hid (∀ j, j ≠ g → n ∉ lv X j) := h2
  clear h h1 h2
  refine (callsIn_wide (n := 4)).1 ?_
  refine callsIn_of_wp_marks Tryd.func34 rfl trivial ?_ rfl
  simp only [Tryd.ntmps34, List.size_toArray, List.length_cons, List.length_nil, Nat.reduceAdd, Nat.reduceSub, Array.replicate_succ, Array.replicate_zero, List.push_toArray, List.append_toArray, List.nil_append, List.cons_append]
  gi_wp2
  refine range_bound (gf := 56) (fs := #[.pointer (some ⟨s, 0, none⟩)]) rfl (enters_of Tryd.func56 (by kernel_rfl) rfl) 8 (dx s) (fun _ => rfl)
    (fun k W => Bx3 w W (.int .i64 n) (.int .i64 0) (.bool false) 3 3 4 ∧ g + k ≤ 7) (fun W => Bx3 w W (.int .i64 n) (.int .i64 (g : Int)) (.bool true) 3 3 4) (fun _ => (abd_bx3 (by simp; omega)).both (Abd.pure _ _)) (abd_bx3 (by simp; omega)) ⟨Bx3.new _ _ _ _ _ _ _, by omega⟩ (fun k => { tmps := #[.pointer (some ⟨s, 0, none⟩), .int .i64 n, undef, .pointer (some ⟨w.heap.size, 0, none⟩), .pointer (some ⟨w.heap.size + 1, 0, none⟩), .pointer (some ⟨w.heap.size + 1 + 1, 0, none⟩), .int .i64 ((7 - k : Nat) : Int), pt s (7 - k), .pointer (some ⟨s, 0, none⟩), .bool false, .pointer (some ⟨s, 0, none⟩), .func (.func 56) #[.pointer (some ⟨s, 0, none⟩)] #[], .int .i64 ((7 - k : Nat) : Int), pt s (7 - k), undef, undef, undef, undef], defers := [] }) (fun l J Jx W hJ h0 hY => down_it l J Jx W (fun k W hj j hj8 => (HP.out.below (hJ k W hj).1.bel).cell j hj8) h0 hY) ?assign ?body ?done ?stop
  case assign =>
    intro l k W K hk hK
    unfold dx
    gi_wp2
    exact hK
  case body =>
    intro l k W hk hsz hI
    obtain ⟨hI, hgk⟩ := hI
    obtain ⟨f, r, q⟩ := (HP.out.below hI.bel).lv (7 - k) (by omega)
    have C : Hid (∀ _ : Unit, _) := fun _ => has_any n W q
    have c0 := hI.b0.cell 0
    have c1 := hI.b1.cell 0
    have c2 := hI.b2.cell 0
    have f1 := hI.b1.free 0
    have f2 := hI.b2.free 0
    have HI : Hid (Bx3 w W (.int .i64 n) (.int .i64 0) (.bool false) 3 3 4) := hI
    rw [World.size_alloc, World.size_alloc, World.size_alloc]
    unfold pt
    clear q hsz hI
    by_cases c : g + k = 7
    · have e : 7 - k = g := by omega
      rw [e] at C ⊢
      rw [decide_eq_true H1.out] at C
      clear e c hgk
      gi_wp2_with fail
      refine ⟨trivial, (CallsIn.inRound l (callsIn_wide.2 (C.out ()))).mono ?_⟩
      rintro e w' ⟨rfl, d, rfl⟩
      gi_wp2
      exact ⟨tw_set (tw_set ⟨rfl, rfl⟩ (by simp <;> omega) _) (by simp <;> omega) _, (HI.out.drewN d).set _ _⟩
    · rw [decide_eq_false (H2.out (7 - k) (by omega))] at C
      have hn : g + (k + 1) ≤ 7 := by omega
      clear hgk c
      gi_wp2_with fail
      refine ⟨trivial, (CallsIn.inRound l (callsIn_wide.2 (C.out ()))).mono ?_⟩
      rintro e w' ⟨rfl, d, rfl⟩
      gi_wp2
      exact ⟨⟨rfl, rfl⟩, HI.out.drewN d, hn⟩
  case done =>
    rintro W ⟨_, hI⟩ hK
    omega
  case stop =>
    intro W hI hK
    rw [World.size_alloc, World.size_alloc, World.size_alloc] at hK ⊢
    have I2 := hI.fin (by omega) hK (.deferred none)
    have e0 := I2.b1.cell 0
    have e1 := I2.b2.cell 0
    have HB := I2.bel
    clear hI I2
    gi_wp2
    refine ⟨by simp, .inl ⟨_, _, rfl, run_takeDeferred hK, ?_⟩⟩
    refine ⟨.tuple #[.int .i64 (g : Int), .bool true], ?_, rfl, HB⟩
    simp [results, Tryd.f34, go_sem, e0, e1]

theorem prio_any {s m : Nat} {X : Its} (n : Int) (w : World) (h : PQ w s m X) :
    Calls Tryd.prog 34 #[.pointer (some ⟨s, 0, none⟩), .int .i64 n] w fun e w' => e = .returned (.tuple #[.int .i64 (prP X n), .bool (decide (n ∈ ids X))]) ∧ Below w.heap.size w w' := by
  by_cases c : n ∈ ids X
  · obtain ⟨k, hk, e, h1, h2⟩ := has_lv h.ok c
    rw [e, decide_eq_true c]
    exact prio_hit n w h hk h1 h2
  · rw [prP_miss c, decide_eq_false c]
    exact prio_miss n w h c

theorem idx_run (s k : Nat) (h : k < 8) (w : World) : (Instr.index 70 (.agg #[pt s 0, pt s 1, pt s 2, pt s 3, pt s 4, pt s 5, pt s 6, pt s 7]) (.int .i64 (k : Int))).run Tryd.prog w = .ok (pt s k) w := by
  obtain rfl | rfl | rfl | rfl | rfl | rfl | rfl | rfl : k = 0 ∨ k = 1 ∨ k = 2 ∨ k = 3 ∨ k = 4 ∨ k = 5 ∨ k = 6 ∨ k = 7 := by omega
  all_goals rfl

set_option maxHeartbeats 1000000 in
theorem plen_any {s m : Nat} {X : Its} (w : World) (h : PQ w s m X) :
    Calls Tryd.prog 36 #[.pointer (some ⟨s, 0, none⟩)] w fun e w' => e = .returned (.int .i64 (X.length : Int)) ∧ w' = w := by
  have c0 := h.cell 0 (by omega)
  have c1 := h.cell 1 (by omega)
  have c2 := h.cell 2 (by omega)
  have c3 := h.cell 3 (by omega)
  have c4 := h.cell 4 (by omega)
  have c5 := h.cell 5 (by omega)
  have c6 := h.cell 6 (by omega)
  have c7 := h.cell 7 (by omega)
  have HL : Hid (∀ k, k < 8 → cnt X (k + 1) ≤ 1024 ∧ cnt X k ≤ 1024) := fun k hk => by
    have := cnt_le h.ok.rg (k := k + 1) (by omega)
    have := cnt_le h.ok.rg (k := k) (by omega)
    have := h.ok.le
    have := h.m1
    omega
  have HE : Hid (cnt X 8 = X.length) := cnt_all h.ok.rg
  have C : Hid (∀ k, k < 8 → Calls Tryd.prog 58 #[pt s k] w fun e w' => e = .returned (.int .i64 ((lv X k).length : Int)) ∧ w' = w) := fun k hk => by
    obtain ⟨f, r, q⟩ := h.lv k hk
    exact len_any w q
  rw [← HE.out]
  clear h HE
  go_enter Tryd.func36, Tryd.ntmps36
  go_wp2
  go_loop [3, 12] (fun c i => ∃ k : Nat, (k : Int) ≤ 8 ∧ c = .int .i64 (cnt X k : Nat) ∧ i = .int .i64 (k : Int)) (fun _ i => 8 - (intOf i).toNat)
  case atStart => exact ⟨0, by omega, rfl, rfl⟩
  case round =>
    obtain ⟨k, hk, rfl, rfl⟩ := hrel
    by_cases c : (k : Int) < 8
    · have hC := C.out k (by omega)
      obtain ⟨b1, b2⟩ := HL.out k (by omega)
      have ec : cnt X (k + 1) = cnt X k + (lv X k).length := rfl
      obtain ⟨x, hx⟩ : ∃ x, cnt X k = x := ⟨_, rfl⟩
      obtain ⟨y, hy⟩ : ∃ y, (lv X k).length = y := ⟨_, rfl⟩
      rw [hx, hy] at ec
      rw [ec] at b1
      rw [hy] at hC
      rw [hx]
      have E : Hid (cnt X (k + 1) = x + y) := ec
      clear ec hx hy
      have gx : (x : Int) + y ≤ 1024 := by omega
      have hix := idx_run s k (by omega) w
      clear c0 c1 c2 c3 c4 c5 c6 c7 b1 b2
      go_wp2_with fail
      refine hC.mono ?_
      rintro e w' ⟨rfl, rfl⟩
      go_wp2
      go_round
      case rel => exact ⟨k + 1, by omega, by rw [E.out]; go_num, by go_num⟩
      case measure => simp [intOf]; omega
    · obtain rfl : k = 8 := by omega
      go_wp2
      go_ret
      exact ⟨rfl, rfl⟩
end Go.Proofs.YtpmjojemcpgpiaaDoor
