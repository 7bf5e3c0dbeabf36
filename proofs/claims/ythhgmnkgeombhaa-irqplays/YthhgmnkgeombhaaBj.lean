/- A table of interrupts of the program and the document's, side by side; what an act to both answers and leaves; that an interrupt and the document's are told to be alike. -/
import Derived.Test.YthhgmnkgeombhaaBc
import Derived.Test.YthhgmnkgeombhaaBi
import Derived.WalkKit
import Derived.ProofKit
import Derived.OpenShut
import Derived.BigQuiet
import Derived.Deep.RegionHeld3
namespace Go.Proofs.Ythhgmnkgeombhaa
open Go.ChangeShapes Go.WideShapes Go.ChangeAt Go.RowKit
open Mm Bm

/-- Both tables hold the same interrupts; they lie apart, behind all that was there before. -/
structure BP (w wr : World) (s g c : Nat) (X : Nat → Iq) : Prop where
  q : IT wr s c X
  r : RI wr g c X
  bel : Below s w wr
  sg : s < g

theorem BP.size {w wr : World} {s g c : Nat} {X : Nat → Iq} (h : BP w wr s g c X) : g + 2 ≤ wr.heap.size := h.r.hi
theorem BP.keep {w wr w1 : World} {s g c : Nat} {X : Nat → Iq} (h : BP w wr s g c X) (f : Below wr.heap.size wr w1) : BP w w1 s g c X :=
  ⟨h.q.below f, h.r.below f, h.bel.trans (f.mono (by have := h.size; have := h.sg; omega)), h.sg⟩
theorem BP.sm {w wr w1 : World} {s g c : Nat} {X : Nat → Iq} (h : BP w wr s g c X) (e : Sm w1 wr) : BP w w1 s g c X :=
  h.keep (e.below (Below.refl _ _))
theorem BP.r1 {w wr v1 : World} {s g c : Nat} {X : Nat → Iq} (h : BP w wr s g c X) (f : Fr wr.heap.size [s] wr v1) : RI v1 g c X :=
  h.r.keep f h.size (fun e => by have := h.sg; simp at e; omega) (fun e => by have := h.sg; simp at e; omega)
theorem BP.act {w wr v1 v2 : World} {s g c : Nat} {X X' : Nat → Iq} (h : BP w wr s g c X) (q1 : IT v1 s c X') (f1 : Fr wr.heap.size [s] wr v1) (r2 : RI v2 g c X') (f2 : Fr v1.heap.size [g] v1 v2) : BP w v2 s g c X' := by
  have hz := h.size
  have z1 := f1.size
  have hg := h.sg
  refine ⟨q1.keep f2 q1.lt (fun e => by simp at e; omega), r2, (h.bel.trans ((f1.less (by omega : s ≤ wr.heap.size)).below (fun k hk => by simp at hk; omega))).trans ((f2.less (by omega : s ≤ v1.heap.size)).below (fun k hk => by simp at hk; omega)), hg⟩
theorem BP.fr {wr wa wb v1 v2 w2 : World} {s g : Nat} (hal : Below wr.heap.size wr wb) (hwa : wb = wa) (f : Fr wa.heap.size [s] wa v1) (c : Fr v1.heap.size [g] v1 v2) (e : Sm w2 v2) : Fr wr.heap.size [s, g] wr w2 := by
  subst hwa
  have h1 : Fr wr.heap.size [s, g] wr wb := (Fr.of_below hal).mono (Nat.le_refl _) (fun _ _ _ => by simp)
  have h2 : Fr wr.heap.size [s, g] wb v1 := f.mono hal.size (fun k _ hk q => hk (by simp at q ⊢; omega))
  have h3 : Fr wr.heap.size [s, g] v1 v2 := c.mono (Nat.le_trans hal.size f.size) (fun k _ hk q => hk (by simp at q ⊢; omega))
  have h4 := h1.trans (h2.trans h3)
  obtain ⟨e1, e2, e3, e4⟩ := e
  exact ⟨e2.trans h4.os, e3.trans h4.tape, e4.trans h4.output, by rw [e1]; exact h4.size, fun k hk hs => by rw [e1]; exact h4.block k hk hs⟩

set_option maxRecDepth 100000 in
set_option maxHeartbeats 8000000 in
theorem iqdo_any {w : World} {s g c : Nat} {X : Nat → Iq} (y0 y1 : Int) (y2 : Nat) (hy : y2 < 18446744073709551616) (wr : World) (h : BP w wr s g c X) :
    Calls Try.prog 12 #[.pointer (some ⟨s, 0, none⟩), .pointer (some ⟨g + 1, 0, none⟩), .agg #[.int .i64 y0, .int .i64 y1, .int .u64 (y2 : Int)]] wr fun e w' => e = .returned (.bool true) ∧ ∃ X', BP w w' s g c X' ∧ Fr wr.heap.size [s, g] wr w' := by
  have hal : Below wr.heap.size wr (wr.alloc (.cells #[.int .i64 y0, .int .i64 y1, .int .u64 (y2 : Int)] 33)) := (Below.refl _ _).alloc (Nat.le_refl _) _
  have ha := h.keep hal
  have kb : Blk (wr.alloc (.cells #[.int .i64 y0, .int .i64 y1, .int .u64 (y2 : Int)] 33)) wr.heap.size [.int .i64 y0, .int .i64 y1, .int .u64 (y2 : Int)] 33 := Blk.new wr _ _
  have x0 := kb.cell 0
  have x1 := kb.cell 1
  have x2 := kb.cell 2
  simp only [List.getElem?_cons_zero, List.getElem?_cons_succ] at x0 x1 x2
  obtain ⟨wa, hwa⟩ : ∃ wa, wr.alloc (.cells #[.int .i64 y0, .int .i64 y1, .int .u64 (y2 : Int)] 33) = wa := ⟨_, rfl⟩
  have HWA : Hid (wr.alloc (.cells #[.int .i64 y0, .int .i64 y1, .int .u64 (y2 : Int)] 33) = wa) := hwa
  have BX : Hid (∀ v1 : World, Fr wa.heap.size [s] wa v1 → Blk v1 wr.heap.size [.int .i64 y0, .int .i64 y1, .int .u64 (y2 : Int)] 33) := fun v1 f => kb.keep (S := [s]) (by rw [hwa]; exact f) (by rw [← hwa]; simp) (by have := h.size; have := h.sg; simp; omega)
  have BY : Hid (∀ v1 v2 : World, Blk v1 wr.heap.size [.int .i64 y0, .int .i64 y1, .int .u64 (y2 : Int)] 33 → Fr v1.heap.size [g] v1 v2 → Blk v2 wr.heap.size [.int .i64 y0, .int .i64 y1, .int .u64 (y2 : Int)] 33) := fun v1 v2 k c => k.keep c k.lt (by have := h.size; simp; omega)
  have FRM : Hid (∀ v1 v2 w2 : World, Fr wa.heap.size [s] wa v1 → Fr v1.heap.size [g] v1 v2 → Sm w2 v2 → Fr wr.heap.size [s, g] wr w2) := fun v1 v2 w2 f c e => BP.fr hal hwa f c e
  rw [hwa] at ha kb x0 x1 x2
  have hbox : Hid (∀ v1 : World, Fr wa.heap.size [s] wa v1 → v1.cell? ⟨wr.heap.size, 1, none⟩ = some (.int .i64 y1) ∧ v1.cell? ⟨wr.heap.size, 2, none⟩ = some (.int .u64 (y2 : Int))) := fun v1 f => ⟨(BX.out v1 f).cell 1, (BX.out v1 f).cell 2⟩
  have hbox2 : Hid (∀ v1 v2 : World, Fr wa.heap.size [s] wa v1 → Fr v1.heap.size [g] v1 v2 → v2.cell? ⟨wr.heap.size, 1, none⟩ = some (.int .i64 y1) ∧ v2.cell? ⟨wr.heap.size, 2, none⟩ = some (.int .u64 (y2 : Int))) := fun v1 v2 f c => ⟨(BY.out v1 v2 (BX.out v1 f) c).cell 1, (BY.out v1 v2 (BX.out v1 f) c).cell 2⟩
  clear BX BY kb hal h hwa
  by_cases t0 : y0.tmod 7 = 0
  · have e0 : (y0.tmod 7 == 0) = true := by simpa using t0
    clear t0
    have C1 : Hid (∀ w1 : World, Sm w1 wa → Calls Try.prog 21 #[.pointer (some ⟨s, 0, none⟩), .int .i64 y1, .int .u64 (y2 : Int)] w1 fun e v1 => e = .returned (.int .i64 (rqE c X y1 y2)) ∧ IT v1 s c (stp (rqE c X y1 y2) X y1 (nw y2)) ∧ Fr wa.heap.size [s] wa v1) := fun w1 e => (iqrequest_any y1 y2 w1 hy (ha.q.heap e.1)).mono fun _ v1 ⟨r1, r2, r3⟩ => ⟨r1, r2, by have := e.fr r3; rwa [e.1] at this⟩
    have C2 : Hid (∀ v1 w1 : World, Fr wa.heap.size [s] wa v1 → Sm w1 v1 → Calls Try.prog 43 #[.pointer (some ⟨g + 1, 0, none⟩), .int .i64 y1, .int .u64 (y2 : Int)] w1 fun e v2 => e = .returned (.int .i64 (rqE c X y1 y2)) ∧ RI v2 g c (stp (rqE c X y1 y2) X y1 (nw y2)) ∧ Fr v1.heap.size [g] v1 v2) := fun v1 w1 f e => (rirequest_any y1 y2 w1 hy ((ha.r1 f).heap e.1)).mono fun _ v2 ⟨r1, r2, r3⟩ => ⟨r1, r2, by have := e.fr r3; rwa [e.1] at this⟩
    have ACT : Hid (∀ v1 v2 : World, IT v1 s c (stp (rqE c X y1 y2) X y1 (nw y2)) → Fr wa.heap.size [s] wa v1 → RI v2 g c (stp (rqE c X y1 y2) X y1 (nw y2)) → Fr v1.heap.size [g] v1 v2 → BP w v2 s g c (stp (rqE c X y1 y2) X y1 (nw y2))) := fun v1 v2 q1 f1 r2 c2 => ha.act q1 f1 r2 c2
    generalize stp (rqE c X y1 y2) X y1 (nw y2) = X2 at *
    generalize rqE c X y1 y2 = n0 at *
    have bb0 : (n0 == n0) = true := by simp
    clear ha hy
    go_enter Try.func12, Try.ntmps12
    go_wp2_with fail
    rw [HWA.out]
    go_region_held3 (fun w' => w'.cell? ⟨wr.heap.size, 1, none⟩ = some (.int .i64 y1) ∧ w'.cell? ⟨wr.heap.size, 2, none⟩ = some (.int .u64 (y2 : Int))) (go_keep)
      (first | (go_at_call 21; refine (C1.out _ ?_).mono ?_; exact ⟨rfl, rfl, rfl, rfl⟩; rintro e v1 ⟨rfl, q1, f1⟩; obtain ⟨k1, k2⟩ := hbox.out v1 f1; have Q1 : Hid (IT v1 s c X2) := q1; have F1 : Hid (Fr wa.heap.size [s] wa v1) := f1; clear q1 f1) | (go_at_call 43; refine (C2.out v1 _ F1.out ?_).mono ?_; exact ⟨rfl, rfl, rfl, rfl⟩; rintro e v2 ⟨rfl, r2, c2⟩; have p2 := ACT.out _ _ Q1.out F1.out r2 c2; obtain ⟨j1, j2⟩ := hbox2.out v1 v2 F1.out c2; have P2 : Hid (BP w v2 s g c X2) := p2; have K2 : Hid (Fr v1.heap.size [g] v1 v2) := c2; clear r2 c2 Q1 p2))
    all_goals go_wp2
    go_ret
    exact ⟨rfl, X2, P2.out.sm ⟨rfl, rfl, rfl, rfl⟩, FRM.out _ _ _ F1.out K2.out ⟨rfl, rfl, rfl, rfl⟩⟩
  have e0 : (y0.tmod 7 == 0) = false := by simpa using t0
  by_cases t1 : y0.tmod 7 = 1
  · have e1 : (y0.tmod 7 == 1) = true := by simpa using t1
    clear t0 t1
    have C1 : Hid (∀ w1 : World, Sm w1 wa → Calls Try.prog 26 #[.pointer (some ⟨s, 0, none⟩), .int .i64 y1] w1 fun e v1 => e = .returned (.int .i64 (waE X y1)) ∧ IT v1 s c (stp (waE X y1) X y1 (zi)) ∧ Fr wa.heap.size [s] wa v1) := fun w1 e => (iqfree_any y1 w1 (ha.q.heap e.1)).mono fun _ v1 ⟨r1, r2, r3⟩ => ⟨r1, r2, by have := e.fr r3; rwa [e.1] at this⟩
    have C2 : Hid (∀ v1 w1 : World, Fr wa.heap.size [s] wa v1 → Sm w1 v1 → Calls Try.prog 44 #[.pointer (some ⟨g + 1, 0, none⟩), .int .i64 y1] w1 fun e v2 => e = .returned (.int .i64 (waE X y1)) ∧ RI v2 g c (stp (waE X y1) X y1 (zi)) ∧ Fr v1.heap.size [g] v1 v2) := fun v1 w1 f e => (rifree_any y1 w1 ((ha.r1 f).heap e.1)).mono fun _ v2 ⟨r1, r2, r3⟩ => ⟨r1, r2, by have := e.fr r3; rwa [e.1] at this⟩
    have ACT : Hid (∀ v1 v2 : World, IT v1 s c (stp (waE X y1) X y1 (zi)) → Fr wa.heap.size [s] wa v1 → RI v2 g c (stp (waE X y1) X y1 (zi)) → Fr v1.heap.size [g] v1 v2 → BP w v2 s g c (stp (waE X y1) X y1 (zi))) := fun v1 v2 q1 f1 r2 c2 => ha.act q1 f1 r2 c2
    generalize stp (waE X y1) X y1 (zi) = X2 at *
    generalize waE X y1 = n0 at *
    have bb0 : (n0 == n0) = true := by simp
    clear ha hy
    go_enter Try.func12, Try.ntmps12
    go_wp2_with fail
    rw [HWA.out]
    go_region_held3 (fun w' => w'.cell? ⟨wr.heap.size, 1, none⟩ = some (.int .i64 y1)) (go_keep)
      (first | (go_at_call 26; refine (C1.out _ ?_).mono ?_; exact ⟨rfl, rfl, rfl, rfl⟩; rintro e v1 ⟨rfl, q1, f1⟩; obtain ⟨k1, k2⟩ := hbox.out v1 f1; have Q1 : Hid (IT v1 s c X2) := q1; have F1 : Hid (Fr wa.heap.size [s] wa v1) := f1; clear q1 f1) | (go_at_call 44; refine (C2.out v1 _ F1.out ?_).mono ?_; exact ⟨rfl, rfl, rfl, rfl⟩; rintro e v2 ⟨rfl, r2, c2⟩; have p2 := ACT.out _ _ Q1.out F1.out r2 c2; obtain ⟨j1, j2⟩ := hbox2.out v1 v2 F1.out c2; have P2 : Hid (BP w v2 s g c X2) := p2; have K2 : Hid (Fr v1.heap.size [g] v1 v2) := c2; clear r2 c2 Q1 p2))
    all_goals go_wp2
    go_ret
    exact ⟨rfl, X2, P2.out.sm ⟨rfl, rfl, rfl, rfl⟩, FRM.out _ _ _ F1.out K2.out ⟨rfl, rfl, rfl, rfl⟩⟩
  have e1 : (y0.tmod 7 == 1) = false := by simpa using t1
  by_cases t2 : y0.tmod 7 = 2
  · have e2 : (y0.tmod 7 == 2) = true := by simpa using t2
    clear t0 t1 t2
    have C1 : Hid (∀ w1 : World, Sm w1 wa → Calls Try.prog 27 #[.pointer (some ⟨s, 0, none⟩), .int .i64 y1, .int .u64 (y2 : Int)] w1 fun e v1 => e = .returned (.int .i64 (amE c X y1 y2)) ∧ IT v1 s c (stp (amE c X y1 y2) X y1 ({ X y1.toNat with bs := y2 })) ∧ Fr wa.heap.size [s] wa v1) := fun w1 e => (iqaim_any y1 y2 w1 hy (ha.q.heap e.1)).mono fun _ v1 ⟨r1, r2, r3⟩ => ⟨r1, r2, by have := e.fr r3; rwa [e.1] at this⟩
    have C2 : Hid (∀ v1 w1 : World, Fr wa.heap.size [s] wa v1 → Sm w1 v1 → Calls Try.prog 45 #[.pointer (some ⟨g + 1, 0, none⟩), .int .i64 y1, .int .u64 (y2 : Int)] w1 fun e v2 => e = .returned (.int .i64 (amE c X y1 y2)) ∧ RI v2 g c (stp (amE c X y1 y2) X y1 ({ X y1.toNat with bs := y2 })) ∧ Fr v1.heap.size [g] v1 v2) := fun v1 w1 f e => (riaim_any y1 y2 w1 hy ((ha.r1 f).heap e.1)).mono fun _ v2 ⟨r1, r2, r3⟩ => ⟨r1, r2, by have := e.fr r3; rwa [e.1] at this⟩
    have ACT : Hid (∀ v1 v2 : World, IT v1 s c (stp (amE c X y1 y2) X y1 ({ X y1.toNat with bs := y2 })) → Fr wa.heap.size [s] wa v1 → RI v2 g c (stp (amE c X y1 y2) X y1 ({ X y1.toNat with bs := y2 })) → Fr v1.heap.size [g] v1 v2 → BP w v2 s g c (stp (amE c X y1 y2) X y1 ({ X y1.toNat with bs := y2 }))) := fun v1 v2 q1 f1 r2 c2 => ha.act q1 f1 r2 c2
    generalize stp (amE c X y1 y2) X y1 ({ X y1.toNat with bs := y2 }) = X2 at *
    generalize amE c X y1 y2 = n0 at *
    have bb0 : (n0 == n0) = true := by simp
    clear ha hy
    go_enter Try.func12, Try.ntmps12
    go_wp2_with fail
    rw [HWA.out]
    go_region_held3 (fun w' => w'.cell? ⟨wr.heap.size, 1, none⟩ = some (.int .i64 y1) ∧ w'.cell? ⟨wr.heap.size, 2, none⟩ = some (.int .u64 (y2 : Int))) (go_keep)
      (first | (go_at_call 27; refine (C1.out _ ?_).mono ?_; exact ⟨rfl, rfl, rfl, rfl⟩; rintro e v1 ⟨rfl, q1, f1⟩; obtain ⟨k1, k2⟩ := hbox.out v1 f1; have Q1 : Hid (IT v1 s c X2) := q1; have F1 : Hid (Fr wa.heap.size [s] wa v1) := f1; clear q1 f1) | (go_at_call 45; refine (C2.out v1 _ F1.out ?_).mono ?_; exact ⟨rfl, rfl, rfl, rfl⟩; rintro e v2 ⟨rfl, r2, c2⟩; have p2 := ACT.out _ _ Q1.out F1.out r2 c2; obtain ⟨j1, j2⟩ := hbox2.out v1 v2 F1.out c2; have P2 : Hid (BP w v2 s g c X2) := p2; have K2 : Hid (Fr v1.heap.size [g] v1 v2) := c2; clear r2 c2 Q1 p2))
    all_goals go_wp2
    go_ret
    exact ⟨rfl, X2, P2.out.sm ⟨rfl, rfl, rfl, rfl⟩, FRM.out _ _ _ F1.out K2.out ⟨rfl, rfl, rfl, rfl⟩⟩
  have e2 : (y0.tmod 7 == 2) = false := by simpa using t2
  by_cases t3 : y0.tmod 7 = 3
  · have e3 : (y0.tmod 7 == 3) = true := by simpa using t3
    clear t0 t1 t2 t3
    have C1 : Hid (∀ w1 : World, Sm w1 wa → Calls Try.prog 22 #[.pointer (some ⟨s, 0, none⟩), .int .i64 y1] w1 fun e v1 => e = .returned (.int .i64 (hsE X y1 true)) ∧ IT v1 s c (stp (hsE X y1 true) X y1 ({ X y1.toNat with ms := true })) ∧ Fr wa.heap.size [s] wa v1) := fun w1 e => (iqhush_any y1 w1 (ha.q.heap e.1)).mono fun _ v1 ⟨r1, r2, r3⟩ => ⟨r1, r2, by have := e.fr r3; rwa [e.1] at this⟩
    have C2 : Hid (∀ v1 w1 : World, Fr wa.heap.size [s] wa v1 → Sm w1 v1 → Calls Try.prog 46 #[.pointer (some ⟨g + 1, 0, none⟩), .int .i64 y1, .bool true] w1 fun e v2 => e = .returned (.int .i64 (hsE X y1 true)) ∧ RI v2 g c (stp (hsE X y1 true) X y1 ({ X y1.toNat with ms := true })) ∧ Fr v1.heap.size [g] v1 v2) := fun v1 w1 f e => (rihush_any y1 true w1 ((ha.r1 f).heap e.1)).mono fun _ v2 ⟨r1, r2, r3⟩ => ⟨r1, r2, by have := e.fr r3; rwa [e.1] at this⟩
    have ACT : Hid (∀ v1 v2 : World, IT v1 s c (stp (hsE X y1 true) X y1 ({ X y1.toNat with ms := true })) → Fr wa.heap.size [s] wa v1 → RI v2 g c (stp (hsE X y1 true) X y1 ({ X y1.toNat with ms := true })) → Fr v1.heap.size [g] v1 v2 → BP w v2 s g c (stp (hsE X y1 true) X y1 ({ X y1.toNat with ms := true }))) := fun v1 v2 q1 f1 r2 c2 => ha.act q1 f1 r2 c2
    generalize stp (hsE X y1 true) X y1 ({ X y1.toNat with ms := true }) = X2 at *
    generalize hsE X y1 true = n0 at *
    have bb0 : (n0 == n0) = true := by simp
    clear ha hy
    go_enter Try.func12, Try.ntmps12
    go_wp2_with fail
    rw [HWA.out]
    go_region_held3 (fun w' => w'.cell? ⟨wr.heap.size, 1, none⟩ = some (.int .i64 y1)) (go_keep)
      (first | (go_at_call 22; refine (C1.out _ ?_).mono ?_; exact ⟨rfl, rfl, rfl, rfl⟩; rintro e v1 ⟨rfl, q1, f1⟩; obtain ⟨k1, k2⟩ := hbox.out v1 f1; have Q1 : Hid (IT v1 s c X2) := q1; have F1 : Hid (Fr wa.heap.size [s] wa v1) := f1; clear q1 f1) | (go_at_call 46; refine (C2.out v1 _ F1.out ?_).mono ?_; exact ⟨rfl, rfl, rfl, rfl⟩; rintro e v2 ⟨rfl, r2, c2⟩; have p2 := ACT.out _ _ Q1.out F1.out r2 c2; obtain ⟨j1, j2⟩ := hbox2.out v1 v2 F1.out c2; have P2 : Hid (BP w v2 s g c X2) := p2; have K2 : Hid (Fr v1.heap.size [g] v1 v2) := c2; clear r2 c2 Q1 p2))
    all_goals go_wp2
    go_ret
    exact ⟨rfl, X2, P2.out.sm ⟨rfl, rfl, rfl, rfl⟩, FRM.out _ _ _ F1.out K2.out ⟨rfl, rfl, rfl, rfl⟩⟩
  have e3 : (y0.tmod 7 == 3) = false := by simpa using t3
  by_cases t4 : y0.tmod 7 = 4
  · have e4 : (y0.tmod 7 == 4) = true := by simpa using t4
    clear t0 t1 t2 t3 t4
    have C1 : Hid (∀ w1 : World, Sm w1 wa → Calls Try.prog 25 #[.pointer (some ⟨s, 0, none⟩), .int .i64 y1] w1 fun e v1 => e = .returned (.int .i64 (hsE X y1 false)) ∧ IT v1 s c (stp (hsE X y1 false) X y1 ({ X y1.toNat with ms := false })) ∧ Fr wa.heap.size [s] wa v1) := fun w1 e => (iqunhush_any y1 w1 (ha.q.heap e.1)).mono fun _ v1 ⟨r1, r2, r3⟩ => ⟨r1, r2, by have := e.fr r3; rwa [e.1] at this⟩
    have C2 : Hid (∀ v1 w1 : World, Fr wa.heap.size [s] wa v1 → Sm w1 v1 → Calls Try.prog 46 #[.pointer (some ⟨g + 1, 0, none⟩), .int .i64 y1, .bool false] w1 fun e v2 => e = .returned (.int .i64 (hsE X y1 false)) ∧ RI v2 g c (stp (hsE X y1 false) X y1 ({ X y1.toNat with ms := false })) ∧ Fr v1.heap.size [g] v1 v2) := fun v1 w1 f e => (rihush_any y1 false w1 ((ha.r1 f).heap e.1)).mono fun _ v2 ⟨r1, r2, r3⟩ => ⟨r1, r2, by have := e.fr r3; rwa [e.1] at this⟩
    have ACT : Hid (∀ v1 v2 : World, IT v1 s c (stp (hsE X y1 false) X y1 ({ X y1.toNat with ms := false })) → Fr wa.heap.size [s] wa v1 → RI v2 g c (stp (hsE X y1 false) X y1 ({ X y1.toNat with ms := false })) → Fr v1.heap.size [g] v1 v2 → BP w v2 s g c (stp (hsE X y1 false) X y1 ({ X y1.toNat with ms := false }))) := fun v1 v2 q1 f1 r2 c2 => ha.act q1 f1 r2 c2
    generalize stp (hsE X y1 false) X y1 ({ X y1.toNat with ms := false }) = X2 at *
    generalize hsE X y1 false = n0 at *
    have bb0 : (n0 == n0) = true := by simp
    clear ha hy
    go_enter Try.func12, Try.ntmps12
    go_wp2_with fail
    rw [HWA.out]
    go_region_held3 (fun w' => w'.cell? ⟨wr.heap.size, 1, none⟩ = some (.int .i64 y1)) (go_keep)
      (first | (go_at_call 25; refine (C1.out _ ?_).mono ?_; exact ⟨rfl, rfl, rfl, rfl⟩; rintro e v1 ⟨rfl, q1, f1⟩; obtain ⟨k1, k2⟩ := hbox.out v1 f1; have Q1 : Hid (IT v1 s c X2) := q1; have F1 : Hid (Fr wa.heap.size [s] wa v1) := f1; clear q1 f1) | (go_at_call 46; refine (C2.out v1 _ F1.out ?_).mono ?_; exact ⟨rfl, rfl, rfl, rfl⟩; rintro e v2 ⟨rfl, r2, c2⟩; have p2 := ACT.out _ _ Q1.out F1.out r2 c2; obtain ⟨j1, j2⟩ := hbox2.out v1 v2 F1.out c2; have P2 : Hid (BP w v2 s g c X2) := p2; have K2 : Hid (Fr v1.heap.size [g] v1 v2) := c2; clear r2 c2 Q1 p2))
    all_goals go_wp2
    go_ret
    exact ⟨rfl, X2, P2.out.sm ⟨rfl, rfl, rfl, rfl⟩, FRM.out _ _ _ F1.out K2.out ⟨rfl, rfl, rfl, rfl⟩⟩
  have e4 : (y0.tmod 7 == 4) = false := by simpa using t4
  by_cases t5 : y0.tmod 7 = 5
  · have e5 : (y0.tmod 7 == 5) = true := by simpa using t5
    clear t0 t1 t2 t3 t4 t5
    have C1 : Hid (∀ w1 : World, Sm w1 wa → Calls Try.prog 23 #[.pointer (some ⟨s, 0, none⟩), .int .i64 y1] w1 fun e v1 => e = .returned (.int .i64 (waE X y1)) ∧ IT v1 s c (stp (waE X y1) X y1 ({ X y1.toNat with pd := true })) ∧ Fr wa.heap.size [s] wa v1) := fun w1 e => (iqraise_any y1 w1 (ha.q.heap e.1)).mono fun _ v1 ⟨r1, r2, r3⟩ => ⟨r1, r2, by have := e.fr r3; rwa [e.1] at this⟩
    have C2 : Hid (∀ v1 w1 : World, Fr wa.heap.size [s] wa v1 → Sm w1 v1 → Calls Try.prog 47 #[.pointer (some ⟨g + 1, 0, none⟩), .int .i64 y1] w1 fun e v2 => e = .returned (.int .i64 (waE X y1)) ∧ RI v2 g c (stp (waE X y1) X y1 ({ X y1.toNat with pd := true })) ∧ Fr v1.heap.size [g] v1 v2) := fun v1 w1 f e => (riraise_any y1 w1 ((ha.r1 f).heap e.1)).mono fun _ v2 ⟨r1, r2, r3⟩ => ⟨r1, r2, by have := e.fr r3; rwa [e.1] at this⟩
    have ACT : Hid (∀ v1 v2 : World, IT v1 s c (stp (waE X y1) X y1 ({ X y1.toNat with pd := true })) → Fr wa.heap.size [s] wa v1 → RI v2 g c (stp (waE X y1) X y1 ({ X y1.toNat with pd := true })) → Fr v1.heap.size [g] v1 v2 → BP w v2 s g c (stp (waE X y1) X y1 ({ X y1.toNat with pd := true }))) := fun v1 v2 q1 f1 r2 c2 => ha.act q1 f1 r2 c2
    generalize stp (waE X y1) X y1 ({ X y1.toNat with pd := true }) = X2 at *
    generalize waE X y1 = n0 at *
    have bb0 : (n0 == n0) = true := by simp
    clear ha hy
    go_enter Try.func12, Try.ntmps12
    go_wp2_with fail
    rw [HWA.out]
    go_region_held3 (fun w' => w'.cell? ⟨wr.heap.size, 1, none⟩ = some (.int .i64 y1)) (go_keep)
      (first | (go_at_call 23; refine (C1.out _ ?_).mono ?_; exact ⟨rfl, rfl, rfl, rfl⟩; rintro e v1 ⟨rfl, q1, f1⟩; obtain ⟨k1, k2⟩ := hbox.out v1 f1; have Q1 : Hid (IT v1 s c X2) := q1; have F1 : Hid (Fr wa.heap.size [s] wa v1) := f1; clear q1 f1) | (go_at_call 47; refine (C2.out v1 _ F1.out ?_).mono ?_; exact ⟨rfl, rfl, rfl, rfl⟩; rintro e v2 ⟨rfl, r2, c2⟩; have p2 := ACT.out _ _ Q1.out F1.out r2 c2; obtain ⟨j1, j2⟩ := hbox2.out v1 v2 F1.out c2; have P2 : Hid (BP w v2 s g c X2) := p2; have K2 : Hid (Fr v1.heap.size [g] v1 v2) := c2; clear r2 c2 Q1 p2))
    all_goals go_wp2
    go_ret
    exact ⟨rfl, X2, P2.out.sm ⟨rfl, rfl, rfl, rfl⟩, FRM.out _ _ _ F1.out K2.out ⟨rfl, rfl, rfl, rfl⟩⟩
  have e5 : (y0.tmod 7 == 5) = false := by simpa using t5
  clear t0 t1 t2 t3 t4 t5
  have C1 : Hid (∀ w1 : World, Sm w1 wa → Calls Try.prog 24 #[.pointer (some ⟨s, 0, none⟩), .int .i64 y1] w1 fun e v1 => e = .returned (.int .i64 (clE X y1)) ∧ IT v1 s c (stp (clE X y1) X y1 ({ X y1.toNat with pd := false })) ∧ Fr wa.heap.size [s] wa v1) := fun w1 e => (iqclear_any y1 w1 (ha.q.heap e.1)).mono fun _ v1 ⟨r1, r2, r3⟩ => ⟨r1, r2, by have := e.fr r3; rwa [e.1] at this⟩
  have C2 : Hid (∀ v1 w1 : World, Fr wa.heap.size [s] wa v1 → Sm w1 v1 → Calls Try.prog 48 #[.pointer (some ⟨g + 1, 0, none⟩), .int .i64 y1] w1 fun e v2 => e = .returned (.int .i64 (clE X y1)) ∧ RI v2 g c (stp (clE X y1) X y1 ({ X y1.toNat with pd := false })) ∧ Fr v1.heap.size [g] v1 v2) := fun v1 w1 f e => (riclear_any y1 w1 ((ha.r1 f).heap e.1)).mono fun _ v2 ⟨r1, r2, r3⟩ => ⟨r1, r2, by have := e.fr r3; rwa [e.1] at this⟩
  have ACT : Hid (∀ v1 v2 : World, IT v1 s c (stp (clE X y1) X y1 ({ X y1.toNat with pd := false })) → Fr wa.heap.size [s] wa v1 → RI v2 g c (stp (clE X y1) X y1 ({ X y1.toNat with pd := false })) → Fr v1.heap.size [g] v1 v2 → BP w v2 s g c (stp (clE X y1) X y1 ({ X y1.toNat with pd := false }))) := fun v1 v2 q1 f1 r2 c2 => ha.act q1 f1 r2 c2
  generalize stp (clE X y1) X y1 ({ X y1.toNat with pd := false }) = X2 at *
  generalize clE X y1 = n0 at *
  have bb0 : (n0 == n0) = true := by simp
  clear ha hy
  go_enter Try.func12, Try.ntmps12
  go_wp2_with fail
  rw [HWA.out]
  go_region_held3 (fun w' => w'.cell? ⟨wr.heap.size, 1, none⟩ = some (.int .i64 y1)) (go_keep)
    (first | (go_at_call 24; refine (C1.out _ ?_).mono ?_; exact ⟨rfl, rfl, rfl, rfl⟩; rintro e v1 ⟨rfl, q1, f1⟩; obtain ⟨k1, k2⟩ := hbox.out v1 f1; have Q1 : Hid (IT v1 s c X2) := q1; have F1 : Hid (Fr wa.heap.size [s] wa v1) := f1; clear q1 f1) | (go_at_call 48; refine (C2.out v1 _ F1.out ?_).mono ?_; exact ⟨rfl, rfl, rfl, rfl⟩; rintro e v2 ⟨rfl, r2, c2⟩; have p2 := ACT.out _ _ Q1.out F1.out r2 c2; obtain ⟨j1, j2⟩ := hbox2.out v1 v2 F1.out c2; have P2 : Hid (BP w v2 s g c X2) := p2; have K2 : Hid (Fr v1.heap.size [g] v1 v2) := c2; clear r2 c2 Q1 p2))
  all_goals go_wp2
  go_ret
  exact ⟨rfl, X2, P2.out.sm ⟨rfl, rfl, rfl, rfl⟩, FRM.out _ _ _ F1.out K2.out ⟨rfl, rfl, rfl, rfl⟩⟩

set_option maxRecDepth 100000 in
set_option maxHeartbeats 1000000 in
theorem iqsame_any (a b d : Bool) (m : Int) (w : World) :
    Calls Try.prog 20 #[.agg #[.bool a, .bool b, .bool d, .int .u64 m], .agg #[.bool a, .bool b, .bool d, .int .u64 m]] w fun e w' => e = .returned (.bool true) ∧ Below w.heap.size w w' := by
  have e0 : (a == a) = true := by simp
  have e1 : (b == b) = true := by simp
  have e2 : (d == d) = true := by simp
  have e3 : (m == m) = true := by simp
  have BB : Hid (∀ o1 o2, Below w.heap.size w ((w.alloc o1).alloc o2)) := fun o1 o2 => ((Below.refl _ _).alloc (Nat.le_refl _) o1).alloc (by simp) o2
  go_enter Try.func20, Try.ntmps20
  go_wp2
  go_ret
  exact ⟨rfl, BB.out _ _⟩
end Go.Proofs.Ythhgmnkgeombhaa
