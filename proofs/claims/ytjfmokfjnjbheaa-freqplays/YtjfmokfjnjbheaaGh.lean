/- What a governor's Freq, Set, Feed and New answer and leave, for every one; and what nil answers. -/
import Derived.Test.YtjfmokfjnjbheaaRows
import Derived.Test.YtjfmokfjnjbheaaGg
import Derived.WalkKit
import Derived.ProofKit
import Derived.OpenShut
import Derived.BigQuiet
import Derived.Deep.RegionHeld3
namespace Go.Proofs.Ytjfmokfjnjbheaa
open Go.ChangeShapes Go.WideShapes Go.ChangeAt Go.RowKit

set_option maxHeartbeats 1000000 in
theorem gfreq_any {s p : Nat} {lo hi : Int} {q : List Fq} (w : World) (h : PG w s lo hi q p) (hl : Lim lo hi) :
    Calls Try.prog 27 #[.pointer (some ⟨s, 0, none⟩)] w fun e w' => e = .returned (.int .i64 (fr lo hi q)) ∧ Below w.heap.size w w' := by
  have c0 := h.c0
  have c1 := h.c1
  have HP : Hid (PG w s lo hi q p) := h
  unfold Lim at hl
  have C1 : Hid (∀ u, PG u s lo hi q p → _) := fun u t => gbusy_any u t
  have C2 : Hid (∀ w, _) := fun w => scale_any lo hi (bz q) w (by omega) (by omega) (by omega) (by omega)
  rw [show sc lo hi (bz q) = fr lo hi q from rfl] at C2
  generalize fr lo hi q = ans at *
  generalize bz q = y at *
  clear h hl
  go_enter Try.func27, Try.ntmps27
  go_wp2_with fail
  go_region_held3 (fun w' => w'.cell? ⟨s, 0, none⟩ = some (.int .i64 lo) ∧ w'.cell? ⟨s, 1, none⟩ = some (.int .i64 hi)) (go_keep)
    (first | (go_at_call 29; refine (C1.out _ ?_).mono ?_; exact HP.out.heap rfl; rintro e w' ⟨rfl, bq⟩; have bz : Below w.heap.size w w' := ⟨bq.os, bq.tape, bq.output, bq.size, bq.block⟩; have BZ : Hid (Below w.heap.size w w') := bz; have c0 := (HP.out.below bz).c0; have c1 := (HP.out.below bz).c1; clear bz bq) | (go_at_call 38; refine (C2.out _).mono ?_; rintro e w2 ⟨rfl, n, rfl⟩))
  go_wp2
  go_ret
  exact ⟨rfl, BZ.out.os, BZ.out.tape, BZ.out.output, BZ.out.size, BZ.out.block⟩

theorem gset_bad {s : Nat} (a b : Int) (w : World) (hl : ¬ Lim a b) :
    Calls Try.prog 22 #[.pointer (some ⟨s, 0, none⟩), .int .i64 a, .int .i64 b] w fun e w' => e = .returned (.int .i64 2) ∧ w' = w := by
  unfold Lim at hl
  by_cases h1 : a < 1
  · clear hl
    go_enter Try.func22, Try.ntmps22
    go_wp2
    go_ret
    exact ⟨rfl, rfl⟩
  by_cases h2 : b < a
  · clear hl
    go_enter Try.func22, Try.ntmps22
    go_wp2
    go_ret
    exact ⟨rfl, rfl⟩
  have h3 : 100000 < b := by omega
  clear hl
  go_enter Try.func22, Try.ntmps22
  go_wp2
  go_ret
  exact ⟨rfl, rfl⟩
theorem gset_ok {s p : Nat} {lo hi : Int} {q : List Fq} (a b : Int) (w : World) (h : PG w s lo hi q p) (hl : Lim a b) :
    Calls Try.prog 22 #[.pointer (some ⟨s, 0, none⟩), .int .i64 a, .int .i64 b] w fun e w' => e = .returned (.int .i64 0) ∧ PG w' s a b q p ∧ Fr w.heap.size [s] w w' := by
  have f0 := h.f0
  have f1 := h.f1
  have c0 := h.c0
  have c1 := h.c1
  have G : Hid _ := pg_set h a b
  have F : Hid (∀ u v, Fr w.heap.size [s] w ((w.setCell ⟨s, 0, none⟩ u).setCell ⟨s, 1, none⟩ v)) := fun u v => ((Fr.refl _ _ _).setCell (Or.inr (by simp)) _).setCell (Or.inr (by simp)) _
  unfold Lim at hl
  obtain ⟨l1, l2, l3⟩ := hl
  clear h
  go_enter Try.func22, Try.ntmps22
  go_wp2
  go_ret
  exact ⟨rfl, G.out, F.out _ _⟩

theorem gfeed_bad {s : Nat} (a b : Int) (w : World) (hl : ¬ Fok ⟨a, b⟩) :
    Calls Try.prog 24 #[.pointer (some ⟨s, 0, none⟩), .int .i64 a, .int .i64 b] w fun e w' => e = .returned (.tuple #[.int .i64 0, .int .i64 2]) ∧ w' = w := by
  unfold Fok at hl
  dsimp only at hl
  by_cases h1 : a < 0
  · clear hl
    go_enter Try.func24, Try.ntmps24
    go_wp2
    go_ret2
    exact ⟨rfl, rfl⟩
  by_cases h2 : b < a
  · clear hl
    go_enter Try.func24, Try.ntmps24
    go_wp2
    go_ret2
    exact ⟨rfl, rfl⟩
  have h3 : 1099511627776 < b := by omega
  clear hl
  go_enter Try.func24, Try.ntmps24
  go_wp2
  go_ret2
  exact ⟨rfl, rfl⟩

set_option maxHeartbeats 2000000 in
theorem gfeed_ok {s p : Nat} {lo hi : Int} {q : List Fq} (a b : Int) (w : World) (h : PG w s lo hi q p) (hl : Lim lo hi) (hx : Fok ⟨a, b⟩) :
    Calls Try.prog 24 #[.pointer (some ⟨s, 0, none⟩), .int .i64 a, .int .i64 b] w fun e w' => e = .returned (.tuple #[.int .i64 (fr lo hi (nxt q ⟨a, b⟩)), .int .i64 0]) ∧ PG w' s lo hi (nxt q ⟨a, b⟩) ((p + 1) % 4) ∧ Fr w.heap.size [s] w w' := by
  have HO : Hid (∀ y ∈ nxt q ⟨a, b⟩, Fok y) := nxt_ok h.ok hx
  have HN : Hid ((nxt q ⟨a, b⟩).length = 4) := nxt_len h.ln _
  have HL : Hid (Lim lo hi) := hl
  have hb := h.sb
  have hp := h.pl
  obtain ⟨x0, x1, x2, x3, rfl⟩ := four_of h.ln
  unfold Fok at hx
  dsimp only at hx
  obtain ⟨l1, l2, l3⟩ := hx
  clear h hl
  obtain rfl | rfl | rfl | rfl : p = 0 ∨ p = 1 ∨ p = 2 ∨ p = 3 := by omega
  · have c0 := hb.cell 10
    have f0 := hb.free 2
    have f1 := hb.free 3
    have f2 := hb.free 10
    have cz : w.cell? ⟨s, 10, none⟩ = some (.int .i64 0) := c0
    have cx : ∃ u, w.cell? ⟨s, 2, none⟩ = some u := ⟨_, hb.cell 2⟩
    have cy : ∃ u, w.cell? ⟨s, 3, none⟩ = some u := ⟨_, hb.cell 3⟩
    obtain ⟨ux, cx⟩ := cx
    obtain ⟨uy, cy⟩ := cy
    have G : Hid (PG (((w.setCell ⟨s, 2, none⟩ (.int .i64 a)).setCell ⟨s, 3, none⟩ (.int .i64 b)).setCell ⟨s, 10, none⟩ (.int .i64 1)) s lo hi (nxt [x0, x1, x2, x3] ⟨a, b⟩) ((0 + 1) % 4)) := ⟨((hb.set 2 _).set 3 _).set 10 _, HN.out, by decide, HO.out⟩
    have F : Hid (Fr w.heap.size [s] w (((w.setCell ⟨s, 2, none⟩ (.int .i64 a)).setCell ⟨s, 3, none⟩ (.int .i64 b)).setCell ⟨s, 10, none⟩ (.int .i64 1))) := (((Fr.refl _ _ _).setCell (Or.inr (by simp)) _).setCell (Or.inr (by simp)) _).setCell (Or.inr (by simp)) _
    have C : Hid (∀ u, PG u s lo hi (nxt [x0, x1, x2, x3] ⟨a, b⟩) ((0 + 1) % 4) → _) := fun u t => gfreq_any u t HL.out
    generalize fr lo hi (nxt [x0, x1, x2, x3] ⟨a, b⟩) = ans at *
    clear hb hp c0
    go_enter Try.func24, Try.ntmps24
    go_wp2_with fail
    go_region
    go_wp2_with fail
    refine (C.out _ ?_).mono ?_
    · exact G.out.heap rfl
    rintro e w' ⟨rfl, bz⟩
    have bq : Below (((w.setCell ⟨s, 2, none⟩ (.int .i64 a)).setCell ⟨s, 3, none⟩ (.int .i64 b)).setCell ⟨s, 10, none⟩ (.int .i64 1)).heap.size (((w.setCell ⟨s, 2, none⟩ (.int .i64 a)).setCell ⟨s, 3, none⟩ (.int .i64 b)).setCell ⟨s, 10, none⟩ (.int .i64 1)) w' := ⟨bz.os, bz.tape, bz.output, bz.size, bz.block⟩
    have H : Hid (PG w' s lo hi (nxt [x0, x1, x2, x3] ⟨a, b⟩) ((0 + 1) % 4) ∧ Fr w.heap.size [s] w w') := ⟨G.out.below bq, F.out.trans ((Fr.of_below bq).mono F.out.size (fun _ _ _ => by simp))⟩
    clear bz
    clear bq
    go_wp2
    go_ret2
    exact ⟨rfl, H.out.1, H.out.2⟩
  · have c0 := hb.cell 10
    have f0 := hb.free 4
    have f1 := hb.free 5
    have f2 := hb.free 10
    have cz : w.cell? ⟨s, 10, none⟩ = some (.int .i64 1) := c0
    have cx : ∃ u, w.cell? ⟨s, 4, none⟩ = some u := ⟨_, hb.cell 4⟩
    have cy : ∃ u, w.cell? ⟨s, 5, none⟩ = some u := ⟨_, hb.cell 5⟩
    obtain ⟨ux, cx⟩ := cx
    obtain ⟨uy, cy⟩ := cy
    have G : Hid (PG (((w.setCell ⟨s, 4, none⟩ (.int .i64 a)).setCell ⟨s, 5, none⟩ (.int .i64 b)).setCell ⟨s, 10, none⟩ (.int .i64 2)) s lo hi (nxt [x0, x1, x2, x3] ⟨a, b⟩) ((1 + 1) % 4)) := ⟨((hb.set 4 _).set 5 _).set 10 _, HN.out, by decide, HO.out⟩
    have F : Hid (Fr w.heap.size [s] w (((w.setCell ⟨s, 4, none⟩ (.int .i64 a)).setCell ⟨s, 5, none⟩ (.int .i64 b)).setCell ⟨s, 10, none⟩ (.int .i64 2))) := (((Fr.refl _ _ _).setCell (Or.inr (by simp)) _).setCell (Or.inr (by simp)) _).setCell (Or.inr (by simp)) _
    have C : Hid (∀ u, PG u s lo hi (nxt [x0, x1, x2, x3] ⟨a, b⟩) ((1 + 1) % 4) → _) := fun u t => gfreq_any u t HL.out
    generalize fr lo hi (nxt [x0, x1, x2, x3] ⟨a, b⟩) = ans at *
    clear hb hp c0
    go_enter Try.func24, Try.ntmps24
    go_wp2_with fail
    go_region
    go_wp2_with fail
    refine (C.out _ ?_).mono ?_
    · exact G.out.heap rfl
    rintro e w' ⟨rfl, bz⟩
    have bq : Below (((w.setCell ⟨s, 4, none⟩ (.int .i64 a)).setCell ⟨s, 5, none⟩ (.int .i64 b)).setCell ⟨s, 10, none⟩ (.int .i64 2)).heap.size (((w.setCell ⟨s, 4, none⟩ (.int .i64 a)).setCell ⟨s, 5, none⟩ (.int .i64 b)).setCell ⟨s, 10, none⟩ (.int .i64 2)) w' := ⟨bz.os, bz.tape, bz.output, bz.size, bz.block⟩
    have H : Hid (PG w' s lo hi (nxt [x0, x1, x2, x3] ⟨a, b⟩) ((1 + 1) % 4) ∧ Fr w.heap.size [s] w w') := ⟨G.out.below bq, F.out.trans ((Fr.of_below bq).mono F.out.size (fun _ _ _ => by simp))⟩
    clear bz
    clear bq
    go_wp2
    go_ret2
    exact ⟨rfl, H.out.1, H.out.2⟩
  · have c0 := hb.cell 10
    have f0 := hb.free 6
    have f1 := hb.free 7
    have f2 := hb.free 10
    have cz : w.cell? ⟨s, 10, none⟩ = some (.int .i64 2) := c0
    have cx : ∃ u, w.cell? ⟨s, 6, none⟩ = some u := ⟨_, hb.cell 6⟩
    have cy : ∃ u, w.cell? ⟨s, 7, none⟩ = some u := ⟨_, hb.cell 7⟩
    obtain ⟨ux, cx⟩ := cx
    obtain ⟨uy, cy⟩ := cy
    have G : Hid (PG (((w.setCell ⟨s, 6, none⟩ (.int .i64 a)).setCell ⟨s, 7, none⟩ (.int .i64 b)).setCell ⟨s, 10, none⟩ (.int .i64 3)) s lo hi (nxt [x0, x1, x2, x3] ⟨a, b⟩) ((2 + 1) % 4)) := ⟨((hb.set 6 _).set 7 _).set 10 _, HN.out, by decide, HO.out⟩
    have F : Hid (Fr w.heap.size [s] w (((w.setCell ⟨s, 6, none⟩ (.int .i64 a)).setCell ⟨s, 7, none⟩ (.int .i64 b)).setCell ⟨s, 10, none⟩ (.int .i64 3))) := (((Fr.refl _ _ _).setCell (Or.inr (by simp)) _).setCell (Or.inr (by simp)) _).setCell (Or.inr (by simp)) _
    have C : Hid (∀ u, PG u s lo hi (nxt [x0, x1, x2, x3] ⟨a, b⟩) ((2 + 1) % 4) → _) := fun u t => gfreq_any u t HL.out
    generalize fr lo hi (nxt [x0, x1, x2, x3] ⟨a, b⟩) = ans at *
    clear hb hp c0
    go_enter Try.func24, Try.ntmps24
    go_wp2_with fail
    go_region
    go_wp2_with fail
    refine (C.out _ ?_).mono ?_
    · exact G.out.heap rfl
    rintro e w' ⟨rfl, bz⟩
    have bq : Below (((w.setCell ⟨s, 6, none⟩ (.int .i64 a)).setCell ⟨s, 7, none⟩ (.int .i64 b)).setCell ⟨s, 10, none⟩ (.int .i64 3)).heap.size (((w.setCell ⟨s, 6, none⟩ (.int .i64 a)).setCell ⟨s, 7, none⟩ (.int .i64 b)).setCell ⟨s, 10, none⟩ (.int .i64 3)) w' := ⟨bz.os, bz.tape, bz.output, bz.size, bz.block⟩
    have H : Hid (PG w' s lo hi (nxt [x0, x1, x2, x3] ⟨a, b⟩) ((2 + 1) % 4) ∧ Fr w.heap.size [s] w w') := ⟨G.out.below bq, F.out.trans ((Fr.of_below bq).mono F.out.size (fun _ _ _ => by simp))⟩
    clear bz
    clear bq
    go_wp2
    go_ret2
    exact ⟨rfl, H.out.1, H.out.2⟩
  · have c0 := hb.cell 10
    have f0 := hb.free 8
    have f1 := hb.free 9
    have f2 := hb.free 10
    have cz : w.cell? ⟨s, 10, none⟩ = some (.int .i64 3) := c0
    have cx : ∃ u, w.cell? ⟨s, 8, none⟩ = some u := ⟨_, hb.cell 8⟩
    have cy : ∃ u, w.cell? ⟨s, 9, none⟩ = some u := ⟨_, hb.cell 9⟩
    obtain ⟨ux, cx⟩ := cx
    obtain ⟨uy, cy⟩ := cy
    have G : Hid (PG (((w.setCell ⟨s, 8, none⟩ (.int .i64 a)).setCell ⟨s, 9, none⟩ (.int .i64 b)).setCell ⟨s, 10, none⟩ (.int .i64 0)) s lo hi (nxt [x0, x1, x2, x3] ⟨a, b⟩) ((3 + 1) % 4)) := ⟨((hb.set 8 _).set 9 _).set 10 _, HN.out, by decide, HO.out⟩
    have F : Hid (Fr w.heap.size [s] w (((w.setCell ⟨s, 8, none⟩ (.int .i64 a)).setCell ⟨s, 9, none⟩ (.int .i64 b)).setCell ⟨s, 10, none⟩ (.int .i64 0))) := (((Fr.refl _ _ _).setCell (Or.inr (by simp)) _).setCell (Or.inr (by simp)) _).setCell (Or.inr (by simp)) _
    have C : Hid (∀ u, PG u s lo hi (nxt [x0, x1, x2, x3] ⟨a, b⟩) ((3 + 1) % 4) → _) := fun u t => gfreq_any u t HL.out
    generalize fr lo hi (nxt [x0, x1, x2, x3] ⟨a, b⟩) = ans at *
    clear hb hp c0
    go_enter Try.func24, Try.ntmps24
    go_wp2_with fail
    go_region
    go_wp2_with fail
    refine (C.out _ ?_).mono ?_
    · exact G.out.heap rfl
    rintro e w' ⟨rfl, bz⟩
    have bq : Below (((w.setCell ⟨s, 8, none⟩ (.int .i64 a)).setCell ⟨s, 9, none⟩ (.int .i64 b)).setCell ⟨s, 10, none⟩ (.int .i64 0)).heap.size (((w.setCell ⟨s, 8, none⟩ (.int .i64 a)).setCell ⟨s, 9, none⟩ (.int .i64 b)).setCell ⟨s, 10, none⟩ (.int .i64 0)) w' := ⟨bz.os, bz.tape, bz.output, bz.size, bz.block⟩
    have H : Hid (PG w' s lo hi (nxt [x0, x1, x2, x3] ⟨a, b⟩) ((3 + 1) % 4) ∧ Fr w.heap.size [s] w w') := ⟨G.out.below bq, F.out.trans ((Fr.of_below bq).mono F.out.size (fun _ _ _ => by simp))⟩
    clear bz
    clear bq
    go_wp2
    go_ret2
    exact ⟨rfl, H.out.1, H.out.2⟩

theorem pg_zero (w : World) : PG (w.alloc (.cells #[.int .i64 0, .int .i64 0, .int .i64 0, .int .i64 0, .int .i64 0, .int .i64 0, .int .i64 0, .int .i64 0, .int .i64 0, .int .i64 0, .int .i64 0] 71)) w.heap.size 0 0 (lf []) 0 :=
  ⟨Blk.new w [.int .i64 0, .int .i64 0, .int .i64 0, .int .i64 0, .int .i64 0, .int .i64 0, .int .i64 0, .int .i64 0, .int .i64 0, .int .i64 0, .int .i64 0] _, rfl, by decide, fun x hx => by
    have : x = fz := by simpa [lf] using hx
    rw [this]
    exact ⟨by decide, by decide, by decide⟩⟩

theorem gnew_bad (a b : Int) (w : World) (hl : ¬ Lim a b) :
    Calls Try.prog 19 #[.int .i64 a, .int .i64 b] w fun e w' => e = .returned (.tuple #[.pointer none, .int .i64 2]) ∧ Below w.heap.size w w' := by
  have C : Hid (∀ s w, _) := fun s w => gset_bad (s := s) a b w hl
  have B : Hid (∀ o, Below w.heap.size w (w.alloc o)) := fun o => (Below.refl _ _).alloc (Nat.le_refl _) o
  clear hl
  go_enter Try.func19, Try.ntmps19
  go_wp2_with fail
  refine (C.out _ _).mono ?_
  rintro e w' ⟨rfl, rfl⟩
  go_wp2
  go_ret2
  exact ⟨rfl, B.out _⟩
theorem gnew_ok (a b : Int) (w : World) (hl : Lim a b) :
    Calls Try.prog 19 #[.int .i64 a, .int .i64 b] w fun e w' => e = .returned (.tuple #[.pointer (some ⟨w.heap.size, 0, none⟩), .int .i64 0]) ∧ PG w' w.heap.size a b (lf []) 0 ∧ Below w.heap.size w w' := by
  have B : Hid (Below w.heap.size w (w.alloc (.cells #[.int .i64 0, .int .i64 0, .int .i64 0, .int .i64 0, .int .i64 0, .int .i64 0, .int .i64 0, .int .i64 0, .int .i64 0, .int .i64 0, .int .i64 0] 71))) := (Below.refl _ _).alloc (Nat.le_refl _) _
  have C : Hid (∀ _ : Unit, _) := fun _ => gset_ok a b _ (pg_zero w) hl
  clear hl
  go_enter Try.func19, Try.ntmps19
  go_wp2_with fail
  refine (C.out ()).mono ?_
  rintro e w' ⟨rfl, g, f⟩
  have G : Hid (PG w' w.heap.size a b (lf []) 0 ∧ Below w.heap.size w w') := ⟨g, fr_own B.out f (by simp) (by simp)⟩
  clear g f
  go_wp2
  go_ret2
  exact ⟨rfl, G.out.1, G.out.2⟩

theorem gnil_set (a b : Int) (w : World) :
    Calls Try.prog 22 #[.pointer none, .int .i64 a, .int .i64 b] w fun e w' => e = .returned (.int .i64 1) ∧ w' = w := by
  go_enter Try.func22, Try.ntmps22
  go_wp2
  go_ret
  exact ⟨rfl, rfl⟩
theorem gnil_feed (a b : Int) (w : World) :
    Calls Try.prog 24 #[.pointer none, .int .i64 a, .int .i64 b] w fun e w' => e = .returned (.tuple #[.int .i64 0, .int .i64 1]) ∧ w' = w := by
  go_enter Try.func24, Try.ntmps24
  go_wp2
  go_ret2
  exact ⟨rfl, rfl⟩
theorem gnil_freq (w : World) :
    Calls Try.prog 27 #[.pointer none] w fun e w' => e = .returned (.int .i64 0) ∧ w' = w := by
  go_enter Try.func27, Try.ntmps27
  go_wp2
  go_ret
  exact ⟨rfl, rfl⟩
theorem gnil_busy (w : World) :
    Calls Try.prog 29 #[.pointer none] w fun e w' => e = .returned (.int .i64 0) ∧ w' = w := by
  go_enter Try.func29, Try.ntmps29
  go_wp2
  go_ret
  exact ⟨rfl, rfl⟩
theorem gnil_limits (w : World) :
    Calls Try.prog 26 #[.pointer none] w fun e w' => e = .returned (.tuple #[.int .i64 0, .int .i64 0]) ∧ w' = w := by
  go_enter Try.func26, Try.ntmps26
  go_wp2
  go_ret2
  exact ⟨rfl, rfl⟩
end Go.Proofs.Ytjfmokfjnjbheaa
