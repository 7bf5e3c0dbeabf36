/- A queue by priorities of the program and the document's, side by side; what an act to both answers and leaves. -/
import Derived.Test.YtpmjojemcpgpiaaQf
import Derived.Test.YtpmjojemcpgpiaaXc
import Derived.WalkKit
import Derived.ProofKit
import Derived.OpenShut
import Derived.BigQuiet
import Derived.Deep.RegionHeld3
namespace Go.Proofs.Ytpmjojemcpgpiaa
open Go.ChangeShapes Go.WideShapes Go.ChangeAt Go.RowKit
open Fm Qm

theorem Row.heap {w w1 : World} {v : Value} {xs : List Int} (h : Row w v xs) (e : w1.heap = w.heap) : Row w1 v xs := by
  rcases h with h | ⟨b, off, cap, hv, hb, hc⟩
  · exact Or.inl h
  · exact Or.inr ⟨b, off, cap, hv, by rw [e]; exact hb, fun i hi => (World.cell?_of_block (w := w) (by rw [e])).trans (hc i hi)⟩

/-- Both queues hold X; they lie apart, behind all that was there before. -/
structure PP (w wr : World) (s b m : Nat) (v : Value) (X : Its) : Prop where
  q : PQ wr s m X
  r : RQ wr b v m X
  bel : Below s w wr
  sb : s + 17 ≤ b
  sg : ∀ g, v.ownBlock = some g → s + 17 ≤ g

theorem PP.size {w wr : World} {s b m : Nat} {v : Value} {X : Its} (h : PP w wr s b m v X) : s + 17 ≤ wr.heap.size := h.q.hi
theorem PP.keep {w wr w1 : World} {s b m : Nat} {v : Value} {X : Its} (h : PP w wr s b m v X) (f : Below wr.heap.size wr w1) : PP w w1 s b m v X :=
  ⟨h.q.below f, h.r.below f, h.bel.trans (f.mono (by have := h.size; omega)), h.sb, h.sg⟩
theorem PP.sm {w wr w1 : World} {s b m : Nat} {v : Value} {X : Its} (h : PP w wr s b m v X) (e : Sm w1 wr) : PP w w1 s b m v X :=
  h.keep (e.below (Below.refl _ _))
theorem PP.r1 {w wr v1 : World} {s b m : Nat} {v : Value} {X : Its} (h : PP w wr s b m v X) (f : Fr wr.heap.size (zn s) wr v1) : RQ v1 b v m X :=
  h.r.keep f ⟨h.r.sb.lt, fun e => by have := ((mem_zn s b).1 e).2; have := h.sb; omega⟩ fun g e => ⟨(h.r.ob e).2, fun q => by have := ((mem_zn s g).1 q).2; have := h.sg g e; omega⟩
theorem PP.act {w wr v1 v2 : World} {s b m : Nat} {v v' : Value} {X X' : Its} (h : PP w wr s b m v X) (q1 : PQ v1 s m X') (f1 : Fr wr.heap.size (zn s) wr v1) (r2 : RQ v2 b v' m X') (c2 : RC v1 v2 b v v') : PP w v2 s b m v' X' := by
  have hz := h.size
  have z1 := f1.size
  have nz : ∀ k, k < s + 17 → k ∉ b :: v.ownBlock.toList := fun k hk e => by
    rcases List.mem_cons.1 e with e | e
    · have := h.sb; omega
    · have := h.sg k (by simpa using e); omega
  refine ⟨q1.keep c2.fr q1.hi fun k _ hk => nz k hk, r2, (h.bel.trans ((f1.less (by omega : s ≤ wr.heap.size)).below (fun k hk => ((mem_zn s k).1 hk).1))).trans ((c2.fr.less (by omega : s ≤ v1.heap.size)).below (fun k hk => ?_)), h.sb, fun g hg => ?_⟩
  · rcases List.mem_cons.1 hk with e | e
    · have := h.sb; omega
    · have := h.sg k (by simpa using e); omega
  · rcases c2.nw g hg with e | e
    · exact h.sg g e
    · omega
/-- A box that was made behind both. -/
theorem PP.box {w wr v1 : World} {s b m : Nat} {v : Value} {X : Its} (h : PP w wr s b m v X) (cs : List Value) (t : TypeId) (f1 : Fr (wr.alloc (.cells cs.toArray t)).heap.size (zn s) (wr.alloc (.cells cs.toArray t)) v1) : Blk v1 wr.heap.size cs t :=
  (Blk.new wr cs t).keep f1 (by simp) fun e => by have := ((mem_zn s _).1 e).2; have := h.size; omega
theorem PP.box2 {w wr v1 v2 : World} {s b m : Nat} {v v' : Value} {X : Its} (h : PP w wr s b m v X) {cs : List Value} {t : TypeId} (k : Blk v1 wr.heap.size cs t) (c2 : RC v1 v2 b v v') : Blk v2 wr.heap.size cs t :=
  k.keep c2.fr k.lt fun e => by
    rcases List.mem_cons.1 e with e | e
    · have := h.r.sb.lt; omega
    · have := (h.r.ob (g := wr.heap.size) (by simpa using e)).2; omega

set_option maxHeartbeats 4000000 in
theorem do_any {w : World} {s b m : Nat} {v : Value} {X : Its} (y0 y1 y2 : Int) (wr : World) (h : PP w wr s b m v X) :
    Calls Try.prog 11 #[.pointer (some ⟨s, 0, none⟩), .pointer (some ⟨b, 0, none⟩), .agg #[.int .i64 y0, .int .i64 y1, .int .i64 y2]] wr fun e w' => e = .returned (.bool true) ∧ ∃ v' X', PP w w' s b m v' X' := by
  have hal : Below wr.heap.size wr (wr.alloc (.cells #[.int .i64 y0, .int .i64 y1, .int .i64 y2] 33)) := (Below.refl _ _).alloc (Nat.le_refl _) _
  have ha := h.keep hal
  have BX : Hid (∀ v1 : World, Fr (wr.alloc (.cells #[.int .i64 y0, .int .i64 y1, .int .i64 y2] 33)).heap.size (zn s) (wr.alloc (.cells #[.int .i64 y0, .int .i64 y1, .int .i64 y2] 33)) v1 → _) := fun v1 f => h.box [.int .i64 y0, .int .i64 y1, .int .i64 y2] 33 f
  have BY : Hid (∀ (v1 v2 : World) (v' : Value), Blk v1 wr.heap.size [.int .i64 y0, .int .i64 y1, .int .i64 y2] 33 → RC v1 v2 b v v' → _) := fun v1 v2 v' k c => h.box2 k c
  have kb : Blk (wr.alloc (.cells #[.int .i64 y0, .int .i64 y1, .int .i64 y2] 33)) wr.heap.size [.int .i64 y0, .int .i64 y1, .int .i64 y2] 33 := Blk.new wr _ _
  have x0 := kb.cell 0
  have x1 := kb.cell 1
  have x2 := kb.cell 2
  simp only [List.getElem?_cons_zero, List.getElem?_cons_succ] at x0 x1 x2
  obtain ⟨wa, hwa⟩ : ∃ wa, wr.alloc (.cells #[.int .i64 y0, .int .i64 y1, .int .i64 y2] 33) = wa := ⟨_, rfl⟩
  have HWA : Hid (wr.alloc (.cells #[.int .i64 y0, .int .i64 y1, .int .i64 y2] 33) = wa) := hwa
  rw [hwa] at ha BX kb x0 x1 x2
  have hbox : Hid (∀ v1 : World, Fr wa.heap.size (zn s) wa v1 → v1.cell? ⟨wr.heap.size, 1, none⟩ = some (.int .i64 y1) ∧ v1.cell? ⟨wr.heap.size, 2, none⟩ = some (.int .i64 y2)) := fun v1 f => ⟨(BX.out v1 f).cell 1, (BX.out v1 f).cell 2⟩
  have hbox2 : Hid (∀ (v1 v2 : World) (v' : Value), Fr wa.heap.size (zn s) wa v1 → RC v1 v2 b v v' → v2.cell? ⟨wr.heap.size, 1, none⟩ = some (.int .i64 y1) ∧ v2.cell? ⟨wr.heap.size, 2, none⟩ = some (.int .i64 y2)) := fun v1 v2 v' f c => ⟨(BY.out v1 v2 v' (BX.out v1 f) c).cell 1, (BY.out v1 v2 v' (BX.out v1 f) c).cell 2⟩
  clear BX BY kb hal h hwa
  by_cases t0 : y0.tmod 4 = 0
  · have e0 : (y0.tmod 4 == 0) = true := by simpa using t0
    clear t0
    have C1 : Hid (∀ w1 : World, Sm w1 wa → Calls Try.prog 20 #[.pointer (some ⟨s, 0, none⟩), .int .i64 y1, .int .i64 y2] w1 fun e v1 => e = .returned (.int .i64 (psE m X y1 y2)) ∧ PQ v1 s m (psX m X y1 y2) ∧ Fr wa.heap.size (zn s) wa v1) := fun w1 e => (ppush_any y1 y2 w1 (ha.q.heap e.1)).mono fun _ v1 ⟨r1, r2, r3⟩ => ⟨r1, r2, by have := e.fr r3; rwa [e.1] at this⟩
    have C2 : Hid (∀ v1 w1 : World, Fr wa.heap.size (zn s) wa v1 → Sm w1 v1 → Calls Try.prog 31 #[.pointer (some ⟨b, 0, none⟩), .int .i64 y1, .int .i64 y2] w1 fun e v2 => e = .returned (.int .i64 (psE m X y1 y2)) ∧ ∃ v', RQ v2 b v' m (psX m X y1 y2) ∧ RC v1 v2 b v v') := fun v1 w1 f e => (rppush_any y1 y2 w1 ((ha.r1 f).heap e.1)).mono fun _ v2 ⟨r1, v', r2, r3⟩ => ⟨r1, v', r2, ⟨by have := e.fr r3.fr; rwa [e.1] at this, by have := r3.nw; rwa [e.1] at this⟩⟩
    have ACT : Hid (∀ (v1 v2 : World) (v' : Value), PQ v1 s m (psX m X y1 y2) → Fr wa.heap.size (zn s) wa v1 → RQ v2 b v' m (psX m X y1 y2) → RC v1 v2 b v v' → PP w v2 s b m v' (psX m X y1 y2)) := fun v1 v2 v' q1 f1 r2 c2 => ha.act q1 f1 r2 c2
    generalize psX m X y1 y2 = X2 at *
    generalize psE m X y1 y2 = ee at *
    have bb : (ee == ee) = true := by simp
    clear ha
    go_enter Try.func11, Try.ntmps11
    go_wp2_with fail
    rw [HWA.out]
    go_region_held3 (fun w' => w'.cell? ⟨wr.heap.size, 1, none⟩ = some (.int .i64 y1) ∧ w'.cell? ⟨wr.heap.size, 2, none⟩ = some (.int .i64 y2)) (go_keep)
      (first | (go_at_call 20; refine (C1.out _ ?_).mono ?_; exact ⟨rfl, rfl, rfl, rfl⟩; rintro e v1 ⟨rfl, q1, f1⟩; obtain ⟨k1, k2⟩ := hbox.out v1 f1; have Q1 : Hid (PQ v1 s m X2) := q1; have F1 : Hid (Fr wa.heap.size (zn s) wa v1) := f1; clear q1 f1) | (go_at_call 31; refine (C2.out v1 _ F1.out ?_).mono ?_; exact ⟨rfl, rfl, rfl, rfl⟩; rintro e v2 ⟨rfl, v', r2, c2⟩; have p2 := ACT.out _ _ _ Q1.out F1.out r2 c2; obtain ⟨j1, j2⟩ := hbox2.out v1 v2 v' F1.out c2; have P2 : Hid (PP w v2 s b m v' X2) := p2; clear r2 c2 Q1 p2))
    all_goals go_wp2
    go_ret
    exact ⟨rfl, v', X2, P2.out.sm ⟨rfl, rfl, rfl, rfl⟩⟩
  have e0 : (y0.tmod 4 == 0) = false := by simpa using t0
  by_cases t1 : y0.tmod 4 = 1
  · have e1 : (y0.tmod 4 == 1) = true := by simpa using t1
    clear t0 t1
    have C1 : Hid (∀ w1 : World, Sm w1 wa → Calls Try.prog 21 #[.pointer (some ⟨s, 0, none⟩)] w1 fun e v1 => e = .returned (.int .i64 (tpE X)) ∧ PQ v1 s m (tnX X) ∧ Fr wa.heap.size (zn s) wa v1) := fun w1 e => (pturn_any w1 (ha.q.heap e.1)).mono fun _ v1 ⟨r1, r2, r3⟩ => ⟨r1, r2, by have := e.fr r3; rwa [e.1] at this⟩
    have C2 : Hid (∀ v1 w1 : World, Fr wa.heap.size (zn s) wa v1 → Sm w1 v1 → Calls Try.prog 32 #[.pointer (some ⟨b, 0, none⟩)] w1 fun e v2 => e = .returned (.int .i64 (tpE X)) ∧ ∃ v', RQ v2 b v' m (tnX X) ∧ RC v1 v2 b v v') := fun v1 w1 f e => (rpturn_any w1 ((ha.r1 f).heap e.1)).mono fun _ v2 ⟨r1, v', r2, r3⟩ => ⟨r1, v', r2, ⟨by have := e.fr r3.fr; rwa [e.1] at this, by have := r3.nw; rwa [e.1] at this⟩⟩
    have ACT : Hid (∀ (v1 v2 : World) (v' : Value), PQ v1 s m (tnX X) → Fr wa.heap.size (zn s) wa v1 → RQ v2 b v' m (tnX X) → RC v1 v2 b v v' → PP w v2 s b m v' (tnX X)) := fun v1 v2 v' q1 f1 r2 c2 => ha.act q1 f1 r2 c2
    generalize tnX X = X2 at *
    generalize tpE X = ee at *
    have bb : (ee == ee) = true := by simp
    clear ha
    go_enter Try.func11, Try.ntmps11
    go_wp2_with fail
    rw [HWA.out]
    refine (C1.out _ ⟨rfl, rfl, rfl, rfl⟩).mono ?_
    rintro e v1 ⟨rfl, q1, f1⟩
    have Q1 : Hid (PQ v1 s m X2) := q1
    have F1 : Hid (Fr wa.heap.size (zn s) wa v1) := f1
    clear q1 f1
    go_wp2_with fail
    refine (C2.out v1 _ F1.out ⟨rfl, rfl, rfl, rfl⟩).mono ?_
    rintro e v2 ⟨rfl, v', r2, c2⟩
    have p2 := ACT.out _ _ _ Q1.out F1.out r2 c2
    clear r2 c2
    go_wp2
    go_ret
    exact ⟨rfl, v', X2, p2⟩
  have e1 : (y0.tmod 4 == 1) = false := by simpa using t1
  by_cases t2 : y0.tmod 4 = 2
  · have e2 : (y0.tmod 4 == 2) = true := by simpa using t2
    clear t0 t1 t2
    have C1 : Hid (∀ w1 : World, Sm w1 wa → Calls Try.prog 22 #[.pointer (some ⟨s, 0, none⟩), .int .i64 y2] w1 fun e v1 => e = .returned (.int .i64 (drE X y2)) ∧ PQ v1 s m (bkX X y2) ∧ Fr wa.heap.size (zn s) wa v1) := fun w1 e => (pback_any y2 w1 (ha.q.heap e.1)).mono fun _ v1 ⟨r1, r2, r3⟩ => ⟨r1, r2, by have := e.fr r3; rwa [e.1] at this⟩
    have C2 : Hid (∀ v1 w1 : World, Fr wa.heap.size (zn s) wa v1 → Sm w1 v1 → Calls Try.prog 33 #[.pointer (some ⟨b, 0, none⟩), .int .i64 y2] w1 fun e v2 => e = .returned (.int .i64 (drE X y2)) ∧ ∃ v', RQ v2 b v' m (bkX X y2) ∧ RC v1 v2 b v v') := fun v1 w1 f e => (rpback_any y2 w1 ((ha.r1 f).heap e.1)).mono fun _ v2 ⟨r1, v', r2, r3⟩ => ⟨r1, v', r2, ⟨by have := e.fr r3.fr; rwa [e.1] at this, by have := r3.nw; rwa [e.1] at this⟩⟩
    have ACT : Hid (∀ (v1 v2 : World) (v' : Value), PQ v1 s m (bkX X y2) → Fr wa.heap.size (zn s) wa v1 → RQ v2 b v' m (bkX X y2) → RC v1 v2 b v v' → PP w v2 s b m v' (bkX X y2)) := fun v1 v2 v' q1 f1 r2 c2 => ha.act q1 f1 r2 c2
    generalize bkX X y2 = X2 at *
    generalize drE X y2 = ee at *
    have bb : (ee == ee) = true := by simp
    clear ha
    go_enter Try.func11, Try.ntmps11
    go_wp2_with fail
    rw [HWA.out]
    go_region_held3 (fun w' => w'.cell? ⟨wr.heap.size, 2, none⟩ = some (.int .i64 y2)) (go_keep)
      (first | (go_at_call 22; refine (C1.out _ ?_).mono ?_; exact ⟨rfl, rfl, rfl, rfl⟩; rintro e v1 ⟨rfl, q1, f1⟩; obtain ⟨k1, k2⟩ := hbox.out v1 f1; have Q1 : Hid (PQ v1 s m X2) := q1; have F1 : Hid (Fr wa.heap.size (zn s) wa v1) := f1; clear q1 f1) | (go_at_call 33; refine (C2.out v1 _ F1.out ?_).mono ?_; exact ⟨rfl, rfl, rfl, rfl⟩; rintro e v2 ⟨rfl, v', r2, c2⟩; have p2 := ACT.out _ _ _ Q1.out F1.out r2 c2; obtain ⟨j1, j2⟩ := hbox2.out v1 v2 v' F1.out c2; have P2 : Hid (PP w v2 s b m v' X2) := p2; clear r2 c2 Q1 p2))
    all_goals go_wp2
    go_ret
    exact ⟨rfl, v', X2, P2.out.sm ⟨rfl, rfl, rfl, rfl⟩⟩
  · have e2 : (y0.tmod 4 == 2) = false := by simpa using t2
    clear t0 t1 t2
    have C1 : Hid (∀ w1 : World, Sm w1 wa → Calls Try.prog 23 #[.pointer (some ⟨s, 0, none⟩), .int .i64 y2] w1 fun e v1 => e = .returned (.int .i64 (drE X y2)) ∧ PQ v1 s m (del X y2) ∧ Fr wa.heap.size (zn s) wa v1) := fun w1 e => (pdrop_any y2 w1 (ha.q.heap e.1)).mono fun _ v1 ⟨r1, r2, r3⟩ => ⟨r1, r2, by have := e.fr r3; rwa [e.1] at this⟩
    have C2 : Hid (∀ v1 w1 : World, Fr wa.heap.size (zn s) wa v1 → Sm w1 v1 → Calls Try.prog 34 #[.pointer (some ⟨b, 0, none⟩), .int .i64 y2] w1 fun e v2 => e = .returned (.int .i64 (drE X y2)) ∧ ∃ v', RQ v2 b v' m (del X y2) ∧ RC v1 v2 b v v') := fun v1 w1 f e => (rpdrop_any y2 w1 ((ha.r1 f).heap e.1)).mono fun _ v2 ⟨r1, v', r2, r3⟩ => ⟨r1, v', r2, ⟨by have := e.fr r3.fr; rwa [e.1] at this, by have := r3.nw; rwa [e.1] at this⟩⟩
    have ACT : Hid (∀ (v1 v2 : World) (v' : Value), PQ v1 s m (del X y2) → Fr wa.heap.size (zn s) wa v1 → RQ v2 b v' m (del X y2) → RC v1 v2 b v v' → PP w v2 s b m v' (del X y2)) := fun v1 v2 v' q1 f1 r2 c2 => ha.act q1 f1 r2 c2
    generalize del X y2 = X2 at *
    generalize drE X y2 = ee at *
    have bb : (ee == ee) = true := by simp
    clear ha
    go_enter Try.func11, Try.ntmps11
    go_wp2_with fail
    rw [HWA.out]
    go_region_held3 (fun w' => w'.cell? ⟨wr.heap.size, 2, none⟩ = some (.int .i64 y2)) (go_keep)
      (first | (go_at_call 23; refine (C1.out _ ?_).mono ?_; exact ⟨rfl, rfl, rfl, rfl⟩; rintro e v1 ⟨rfl, q1, f1⟩; obtain ⟨k1, k2⟩ := hbox.out v1 f1; have Q1 : Hid (PQ v1 s m X2) := q1; have F1 : Hid (Fr wa.heap.size (zn s) wa v1) := f1; clear q1 f1) | (go_at_call 34; refine (C2.out v1 _ F1.out ?_).mono ?_; exact ⟨rfl, rfl, rfl, rfl⟩; rintro e v2 ⟨rfl, v', r2, c2⟩; have p2 := ACT.out _ _ _ Q1.out F1.out r2 c2; obtain ⟨j1, j2⟩ := hbox2.out v1 v2 v' F1.out c2; have P2 : Hid (PP w v2 s b m v' X2) := p2; clear r2 c2 Q1 p2))
    all_goals go_wp2
    go_ret
    exact ⟨rfl, v', X2, P2.out.sm ⟨rfl, rfl, rfl, rfl⟩⟩
end Go.Proofs.Ytpmjojemcpgpiaa
