/- A table of threads of the program and the document's, side by side; what an act to both answers and leaves. -/
import Derived.Test.YtghnpmkibnggeaaDoorTc
import Derived.Test.YtghnpmkibnggeaaDoorTd
import Derived.Test.YtghnpmkibnggeaaDoorDc
import Derived.Test.YtghnpmkibnggeaaDoorDd
import Derived.WalkKit
import Derived.ProofKit
import Derived.OpenShut
import Derived.BigQuiet
import Derived.Deep.RegionHeld3
namespace Go.Proofs.YtghnpmkibnggeaaDoor
open Go.ChangeShapes Go.WideShapes Go.ChangeAt Go.RowKit
open Mm Sl Tm

/-- Both tables hold the same threads; they lie apart, behind all that was there before. -/
structure TP (w wr : World) (s b c : Nat) (v : Value) (O : Nat → Bool) (X : Nat → Th) : Prop where
  q : TT wr s c O X
  r : RD wr b v c O X
  bel : Below s w wr
  sb : s + 3 ≤ b
  sg : ∀ g, v.ownBlock = some g → s + 3 ≤ g

theorem mem3 {s k : Nat} (h : k ∈ [s, s + 1, s + 2]) : s ≤ k ∧ k < s + 3 := by
  simp at h
  omega
theorem TP.size {w wr : World} {s b c : Nat} {v : Value} {O : Nat → Bool} {X : Nat → Th} (h : TP w wr s b c v O X) : s + 3 ≤ wr.heap.size := h.q.hi
theorem TP.keep {w wr w1 : World} {s b c : Nat} {v : Value} {O : Nat → Bool} {X : Nat → Th} (h : TP w wr s b c v O X) (f : Below wr.heap.size wr w1) : TP w w1 s b c v O X :=
  ⟨h.q.below f, h.r.below f, h.bel.trans (f.mono (by have := h.size; omega)), h.sb, h.sg⟩
theorem TP.sm {w wr w1 : World} {s b c : Nat} {v : Value} {O : Nat → Bool} {X : Nat → Th} (h : TP w wr s b c v O X) (e : Sm w1 wr) : TP w w1 s b c v O X :=
  h.keep (e.below (Below.refl _ _))
theorem TP.r1 {w wr v1 : World} {s b c : Nat} {v : Value} {O : Nat → Bool} {X : Nat → Th} (h : TP w wr s b c v O X) (f : Fr wr.heap.size [s, s + 1, s + 2] wr v1) : RD v1 b v c O X :=
  h.r.keep f ⟨h.r.sb.lt, fun e => by have := (mem3 e).2; have := h.sb; omega⟩ fun g e => ⟨(h.r.ob e).2, fun q => by have := (mem3 q).2; have := h.sg g e; omega⟩
theorem TP.act {w wr v1 v2 : World} {s b c : Nat} {v v' : Value} {O O' : Nat → Bool} {X X' : Nat → Th} (h : TP w wr s b c v O X) (q1 : TT v1 s c O' X') (f1 : Fr wr.heap.size [s, s + 1, s + 2] wr v1) (r2 : RD v2 b v' c O' X') (c2 : DC v1 v2 b v v') : TP w v2 s b c v' O' X' := by
  have hz := h.size
  have z1 := f1.size
  have nz : ∀ k, k < s + 3 → k ∉ b :: v.ownBlock.toList := fun k hk e => by
    rcases List.mem_cons.1 e with e | e
    · have := h.sb; omega
    · have := h.sg k (by simpa using e); omega
  refine ⟨q1.keep c2.fr q1.hi fun k _ hk => nz k hk, r2, (h.bel.trans ((f1.less (by omega : s ≤ wr.heap.size)).below (fun k hk => (mem3 hk).1))).trans ((c2.fr.less (by omega : s ≤ v1.heap.size)).below (fun k hk => ?_)), h.sb, fun g hg => ?_⟩
  · rcases List.mem_cons.1 hk with e | e
    · have := h.sb; omega
    · have := h.sg k (by simpa using e); omega
  · rcases c2.nw g hg with e | e
    · exact h.sg g e
    · omega
/-- A box that was made behind both. -/
theorem TP.box {w wr v1 : World} {s b c : Nat} {v : Value} {O : Nat → Bool} {X : Nat → Th} (h : TP w wr s b c v O X) (cs : List Value) (t : TypeId) (f1 : Fr (wr.alloc (.cells cs.toArray t)).heap.size [s, s + 1, s + 2] (wr.alloc (.cells cs.toArray t)) v1) : Blk v1 wr.heap.size cs t :=
  (Blk.new wr cs t).keep f1 (by simp) fun e => by have := (mem3 e).2; have := h.size; omega
theorem TP.box2 {w wr v1 v2 : World} {s b c : Nat} {v v' : Value} {O : Nat → Bool} {X : Nat → Th} (h : TP w wr s b c v O X) {cs : List Value} {t : TypeId} (k : Blk v1 wr.heap.size cs t) (c2 : DC v1 v2 b v v') : Blk v2 wr.heap.size cs t :=
  k.keep c2.fr k.lt fun e => by
    rcases List.mem_cons.1 e with e | e
    · have := h.r.sb.lt; omega
    · have := (h.r.ob (g := wr.heap.size) (by simpa using e)).2; omega

/-- An act as a value. -/
def actv (y0 y1 y2 : Int) (y3 : Nat) (y4 : Int) (y5 : Bool) : Value := .agg #[.int .i64 y0, .int .i64 y1, .int .i64 y2, .int .u64 (y3 : Int), .int .i64 y4, .bool y5]

set_option maxRecDepth 100000 in
set_option maxHeartbeats 8000000 in
theorem thdo_any {w : World} {s b c : Nat} {v : Value} {O : Nat → Bool} {X : Nat → Th} (y0 y1 y2 : Int) (y3 : Nat) (y4 : Int) (y5 : Bool) (hy : y3 < 18446744073709551616) (wr : World) (h : TP w wr s b c v O X) (ht : ∀ w1, Below s w w1 → Tab w1) :
    Calls Tryd.prog 12 #[.pointer (some ⟨s + 2, 0, none⟩), .pointer (some ⟨b, 0, none⟩), .agg #[.int .i64 y0, .int .i64 y1, .int .i64 y2, .int .u64 (y3 : Int), .int .i64 y4, .bool y5]] wr fun e w' => e = .returned (.bool true) ∧ ∃ v' O' X', TP w w' s b c v' O' X' := by
  have hal : Below wr.heap.size wr (wr.alloc (.cells #[.int .i64 y0, .int .i64 y1, .int .i64 y2, .int .u64 (y3 : Int), .int .i64 y4, .bool y5] 34)) := (Below.refl _ _).alloc (Nat.le_refl _) _
  have ha := h.keep hal
  have BX : Hid (∀ v1 : World, Fr (wr.alloc (.cells #[.int .i64 y0, .int .i64 y1, .int .i64 y2, .int .u64 (y3 : Int), .int .i64 y4, .bool y5] 34)).heap.size [s, s + 1, s + 2] (wr.alloc (.cells #[.int .i64 y0, .int .i64 y1, .int .i64 y2, .int .u64 (y3 : Int), .int .i64 y4, .bool y5] 34)) v1 → _) := fun v1 f => h.box [.int .i64 y0, .int .i64 y1, .int .i64 y2, .int .u64 (y3 : Int), .int .i64 y4, .bool y5] 34 f
  have BY : Hid (∀ (v1 v2 : World) (v' : Value), Blk v1 wr.heap.size [.int .i64 y0, .int .i64 y1, .int .i64 y2, .int .u64 (y3 : Int), .int .i64 y4, .bool y5] 34 → DC v1 v2 b v v' → _) := fun v1 v2 v' k c => h.box2 k c
  have kb : Blk (wr.alloc (.cells #[.int .i64 y0, .int .i64 y1, .int .i64 y2, .int .u64 (y3 : Int), .int .i64 y4, .bool y5] 34)) wr.heap.size [.int .i64 y0, .int .i64 y1, .int .i64 y2, .int .u64 (y3 : Int), .int .i64 y4, .bool y5] 34 := Blk.new wr _ _
  have x0 := kb.cell 0
  have x1 := kb.cell 1
  have x2 := kb.cell 2
  have x3 := kb.cell 3
  have x4 := kb.cell 4
  have x5 := kb.cell 5
  simp only [List.getElem?_cons_zero, List.getElem?_cons_succ] at x0 x1 x2 x3 x4 x5
  obtain ⟨wa, hwa⟩ : ∃ wa, wr.alloc (.cells #[.int .i64 y0, .int .i64 y1, .int .i64 y2, .int .u64 (y3 : Int), .int .i64 y4, .bool y5] 34) = wa := ⟨_, rfl⟩
  have HWA : Hid (wr.alloc (.cells #[.int .i64 y0, .int .i64 y1, .int .i64 y2, .int .u64 (y3 : Int), .int .i64 y4, .bool y5] 34) = wa) := hwa
  rw [hwa] at ha BX kb x0 x1 x2 x3 x4 x5
  have HTB : Hid (Tab wa) := ht wa ha.bel
  have hbox : Hid (∀ v1 : World, Fr wa.heap.size [s, s + 1, s + 2] wa v1 → v1.cell? ⟨wr.heap.size, 1, none⟩ = some (.int .i64 y1) ∧ v1.cell? ⟨wr.heap.size, 2, none⟩ = some (.int .i64 y2) ∧ v1.cell? ⟨wr.heap.size, 3, none⟩ = some (.int .u64 (y3 : Int)) ∧ v1.cell? ⟨wr.heap.size, 4, none⟩ = some (.int .i64 y4) ∧ v1.cell? ⟨wr.heap.size, 5, none⟩ = some (.bool y5)) := fun v1 f => ⟨(BX.out v1 f).cell 1, (BX.out v1 f).cell 2, (BX.out v1 f).cell 3, (BX.out v1 f).cell 4, (BX.out v1 f).cell 5⟩
  have hbox2 : Hid (∀ (v1 v2 : World) (v' : Value), Fr wa.heap.size [s, s + 1, s + 2] wa v1 → DC v1 v2 b v v' → v2.cell? ⟨wr.heap.size, 1, none⟩ = some (.int .i64 y1) ∧ v2.cell? ⟨wr.heap.size, 2, none⟩ = some (.int .i64 y2) ∧ v2.cell? ⟨wr.heap.size, 3, none⟩ = some (.int .u64 (y3 : Int)) ∧ v2.cell? ⟨wr.heap.size, 4, none⟩ = some (.int .i64 y4) ∧ v2.cell? ⟨wr.heap.size, 5, none⟩ = some (.bool y5)) := fun v1 v2 v' f c => ⟨(BY.out v1 v2 v' (BX.out v1 f) c).cell 1, (BY.out v1 v2 v' (BX.out v1 f) c).cell 2, (BY.out v1 v2 v' (BX.out v1 f) c).cell 3, (BY.out v1 v2 v' (BX.out v1 f) c).cell 4, (BY.out v1 v2 v' (BX.out v1 f) c).cell 5⟩
  clear BX BY kb hal h hwa ht
  by_cases t0 : y0.tmod 6 = 0
  · have e0 : (y0.tmod 6 == 0) = true := by simpa using t0
    clear t0
    have C1 : Hid (∀ w1 : World, Sm w1 wa → Calls Tryd.prog 19 #[.pointer (some ⟨s + 2, 0, none⟩), .int .i64 y2, .int .u64 (y3 : Int)] w1 fun e v1 => e = .returned (.tuple #[.int .i64 (spN c O y2 y3), .int .i64 (spE c O y2 y3)]) ∧ TT v1 s c (spO c O y2 y3) (spX c O X y2 y3) ∧ Fr wa.heap.size [s, s + 1, s + 2] wa v1) := fun w1 e => (thspawn_any y2 y3 w1 hy (ha.q.heap e.1) (HTB.out.heap e.1)).mono fun _ v1 ⟨r1, r2, r3⟩ => ⟨r1, r2, by have := e.fr r3; rwa [e.1] at this⟩
    have C2 : Hid (∀ v1 w1 : World, Fr wa.heap.size [s, s + 1, s + 2] wa v1 → Sm w1 v1 → Calls Tryd.prog 39 #[.pointer (some ⟨b, 0, none⟩), .int .i64 y2, .int .u64 (y3 : Int)] w1 fun e v2 => e = .returned (.tuple #[.int .i64 (spN c O y2 y3), .int .i64 (spE c O y2 y3)]) ∧ ∃ v', RD v2 b v' c (spO c O y2 y3) (spX c O X y2 y3) ∧ DC v1 v2 b v v') := fun v1 w1 f e => (rdspawn_any y2 y3 w1 hy ((ha.r1 f).heap e.1)).mono fun _ v2 ⟨r1, v', r2, r3⟩ => ⟨r1, v', r2, ⟨by have := e.fr r3.fr; rwa [e.1] at this, by have := r3.nw; rwa [e.1] at this⟩⟩
    have ACT : Hid (∀ (v1 v2 : World) (v' : Value), TT v1 s c (spO c O y2 y3) (spX c O X y2 y3) → Fr wa.heap.size [s, s + 1, s + 2] wa v1 → RD v2 b v' c (spO c O y2 y3) (spX c O X y2 y3) → DC v1 v2 b v v' → TP w v2 s b c v' (spO c O y2 y3) (spX c O X y2 y3)) := fun v1 v2 v' q1 f1 r2 c2 => ha.act q1 f1 r2 c2
    generalize spX c O X y2 y3 = X2 at *
    generalize spO c O y2 y3 = O2 at *
    generalize spN c O y2 y3 = n0 at *
    have bb0 : (n0 == n0) = true := by simp
    generalize spE c O y2 y3 = n1 at *
    have bb1 : (n1 == n1) = true := by simp
    clear ha hy HTB
    go_enter Tryd.func12, Tryd.ntmps12
    go_wp2_with fail
    rw [HWA.out]
    refine (C1.out _ ⟨rfl, rfl, rfl, rfl⟩).mono ?_
    rintro e v1 ⟨rfl, q1, f1⟩
    obtain ⟨k1, k2, k3, k4, k5⟩ := hbox.out v1 f1
    have Q1 : Hid (TT v1 s c O2 X2) := q1
    have F1 : Hid (Fr wa.heap.size [s, s + 1, s + 2] wa v1) := f1
    clear q1 f1
    go_wp2_with fail
    refine (C2.out v1 _ F1.out ⟨rfl, rfl, rfl, rfl⟩).mono ?_
    rintro e v2 ⟨rfl, v', r2, c2⟩
    have p2 := ACT.out _ _ _ Q1.out F1.out r2 c2
    clear r2 c2
    go_wp2
    go_ret
    exact ⟨rfl, v', O2, X2, p2⟩
  have e0 : (y0.tmod 6 == 0) = false := by simpa using t0
  by_cases t1 : y0.tmod 6 = 1
  · have e1 : (y0.tmod 6 == 1) = true := by simpa using t1
    clear t0 t1
    have C1 : Hid (∀ w1 : World, Sm w1 wa → Calls Tryd.prog 21 #[.pointer (some ⟨s + 2, 0, none⟩), .int .i64 y1] w1 fun e v1 => e = .returned (.int .i64 (gE 32 O y1)) ∧ TT v1 s c (gO 32 O y1) (exX O X y1) ∧ Fr wa.heap.size [s, s + 1, s + 2] wa v1) := fun w1 e => (thexit_any y1 w1 (ha.q.heap e.1)).mono fun _ v1 ⟨r1, r2, r3⟩ => ⟨r1, r2, by have := e.fr r3; rwa [e.1] at this⟩
    have C2 : Hid (∀ v1 w1 : World, Fr wa.heap.size [s, s + 1, s + 2] wa v1 → Sm w1 v1 → Calls Tryd.prog 40 #[.pointer (some ⟨b, 0, none⟩), .int .i64 y1] w1 fun e v2 => e = .returned (.int .i64 (gE 32 O y1)) ∧ ∃ v', RD v2 b v' c (gO 32 O y1) (exX O X y1) ∧ DC v1 v2 b v v') := fun v1 w1 f e => (rdexit_any y1 w1 ((ha.r1 f).heap e.1)).mono fun _ v2 ⟨r1, v', r2, r3⟩ => ⟨r1, v', r2, ⟨by have := e.fr r3.fr; rwa [e.1] at this, by have := r3.nw; rwa [e.1] at this⟩⟩
    have ACT : Hid (∀ (v1 v2 : World) (v' : Value), TT v1 s c (gO 32 O y1) (exX O X y1) → Fr wa.heap.size [s, s + 1, s + 2] wa v1 → RD v2 b v' c (gO 32 O y1) (exX O X y1) → DC v1 v2 b v v' → TP w v2 s b c v' (gO 32 O y1) (exX O X y1)) := fun v1 v2 v' q1 f1 r2 c2 => ha.act q1 f1 r2 c2
    generalize exX O X y1 = X2 at *
    generalize gO 32 O y1 = O2 at *
    generalize gE 32 O y1 = n0 at *
    have bb0 : (n0 == n0) = true := by simp
    clear ha hy HTB
    go_enter Tryd.func12, Tryd.ntmps12
    go_wp2_with fail
    rw [HWA.out]
    go_region_held3 (fun w' => w'.cell? ⟨wr.heap.size, 1, none⟩ = some (.int .i64 y1)) (go_keep)
      (first | (go_at_call 21; refine (C1.out _ ?_).mono ?_; exact ⟨rfl, rfl, rfl, rfl⟩; rintro e v1 ⟨rfl, q1, f1⟩; obtain ⟨k1, k2, k3, k4, k5⟩ := hbox.out v1 f1; have Q1 : Hid (TT v1 s c O2 X2) := q1; have F1 : Hid (Fr wa.heap.size [s, s + 1, s + 2] wa v1) := f1; clear q1 f1) | (go_at_call 40; refine (C2.out v1 _ F1.out ?_).mono ?_; exact ⟨rfl, rfl, rfl, rfl⟩; rintro e v2 ⟨rfl, v', r2, c2⟩; have p2 := ACT.out _ _ _ Q1.out F1.out r2 c2; obtain ⟨j1, j2, j3, j4, j5⟩ := hbox2.out v1 v2 v' F1.out c2; have P2 : Hid (TP w v2 s b c v' O2 X2) := p2; clear r2 c2 Q1 p2))
    all_goals go_wp2
    go_ret
    exact ⟨rfl, v', O2, X2, P2.out.sm ⟨rfl, rfl, rfl, rfl⟩⟩
  have e1 : (y0.tmod 6 == 1) = false := by simpa using t1
  by_cases t2 : y0.tmod 6 = 2
  · have e2 : (y0.tmod 6 == 2) = true := by simpa using t2
    clear t0 t1 t2
    have C1 : Hid (∀ w1 : World, Sm w1 wa → Calls Tryd.prog 22 #[.pointer (some ⟨s + 2, 0, none⟩), .int .i64 y1, .int .u64 (y3 : Int)] w1 fun e v1 => e = .returned (.int .i64 (amE c O y1 y3)) ∧ TT v1 s c (O) (amX c O X y1 y3) ∧ Fr wa.heap.size [s, s + 1, s + 2] wa v1) := fun w1 e => (thaim_any y1 y3 w1 hy (ha.q.heap e.1)).mono fun _ v1 ⟨r1, r2, r3⟩ => ⟨r1, r2, by have := e.fr r3; rwa [e.1] at this⟩
    have C2 : Hid (∀ v1 w1 : World, Fr wa.heap.size [s, s + 1, s + 2] wa v1 → Sm w1 v1 → Calls Tryd.prog 41 #[.pointer (some ⟨b, 0, none⟩), .int .i64 y1, .int .u64 (y3 : Int)] w1 fun e v2 => e = .returned (.int .i64 (amE c O y1 y3)) ∧ ∃ v', RD v2 b v' c (O) (amX c O X y1 y3) ∧ DC v1 v2 b v v') := fun v1 w1 f e => (rdaim_any y1 y3 w1 hy ((ha.r1 f).heap e.1)).mono fun _ v2 ⟨r1, v', r2, r3⟩ => ⟨r1, v', r2, ⟨by have := e.fr r3.fr; rwa [e.1] at this, by have := r3.nw; rwa [e.1] at this⟩⟩
    have ACT : Hid (∀ (v1 v2 : World) (v' : Value), TT v1 s c (O) (amX c O X y1 y3) → Fr wa.heap.size [s, s + 1, s + 2] wa v1 → RD v2 b v' c (O) (amX c O X y1 y3) → DC v1 v2 b v v' → TP w v2 s b c v' (O) (amX c O X y1 y3)) := fun v1 v2 v' q1 f1 r2 c2 => ha.act q1 f1 r2 c2
    generalize amX c O X y1 y3 = X2 at *
    obtain ⟨O2, hO2⟩ : ∃ O2, O = O2 := ⟨_, rfl⟩
    rw [hO2] at C1 C2 ACT
    clear hO2
    generalize amE c O y1 y3 = n0 at *
    have bb0 : (n0 == n0) = true := by simp
    clear ha hy HTB
    go_enter Tryd.func12, Tryd.ntmps12
    go_wp2_with fail
    rw [HWA.out]
    go_region_held3 (fun w' => w'.cell? ⟨wr.heap.size, 1, none⟩ = some (.int .i64 y1) ∧ w'.cell? ⟨wr.heap.size, 3, none⟩ = some (.int .u64 (y3 : Int))) (go_keep)
      (first | (go_at_call 22; refine (C1.out _ ?_).mono ?_; exact ⟨rfl, rfl, rfl, rfl⟩; rintro e v1 ⟨rfl, q1, f1⟩; obtain ⟨k1, k2, k3, k4, k5⟩ := hbox.out v1 f1; have Q1 : Hid (TT v1 s c O2 X2) := q1; have F1 : Hid (Fr wa.heap.size [s, s + 1, s + 2] wa v1) := f1; clear q1 f1) | (go_at_call 41; refine (C2.out v1 _ F1.out ?_).mono ?_; exact ⟨rfl, rfl, rfl, rfl⟩; rintro e v2 ⟨rfl, v', r2, c2⟩; have p2 := ACT.out _ _ _ Q1.out F1.out r2 c2; obtain ⟨j1, j2, j3, j4, j5⟩ := hbox2.out v1 v2 v' F1.out c2; have P2 : Hid (TP w v2 s b c v' O2 X2) := p2; clear r2 c2 Q1 p2))
    all_goals go_wp2
    go_ret
    exact ⟨rfl, v', O2, X2, P2.out.sm ⟨rfl, rfl, rfl, rfl⟩⟩
  have e2 : (y0.tmod 6 == 2) = false := by simpa using t2
  by_cases t3 : y0.tmod 6 = 3
  · have e3 : (y0.tmod 6 == 3) = true := by simpa using t3
    clear t0 t1 t2 t3
    have C1 : Hid (∀ w1 : World, Sm w1 wa → Calls Tryd.prog 23 #[.pointer (some ⟨s + 2, 0, none⟩), .int .i64 y1, .int .i64 y4, .bool y5] w1 fun e v1 => e = .returned (.int .i64 (plE c O y1 y4)) ∧ TT v1 s c (O) (plX c O X y1 y4 y5) ∧ Fr wa.heap.size [s, s + 1, s + 2] wa v1) := fun w1 e => (thplace_any y1 y4 y5 w1 (ha.q.heap e.1)).mono fun _ v1 ⟨r1, r2, r3⟩ => ⟨r1, r2, by have := e.fr r3; rwa [e.1] at this⟩
    have C2 : Hid (∀ v1 w1 : World, Fr wa.heap.size [s, s + 1, s + 2] wa v1 → Sm w1 v1 → Calls Tryd.prog 42 #[.pointer (some ⟨b, 0, none⟩), .int .i64 y1, .int .i64 y4, .bool y5] w1 fun e v2 => e = .returned (.int .i64 (plE c O y1 y4)) ∧ ∃ v', RD v2 b v' c (O) (plX c O X y1 y4 y5) ∧ DC v1 v2 b v v') := fun v1 w1 f e => (rdplace_any y1 y4 y5 w1 ((ha.r1 f).heap e.1)).mono fun _ v2 ⟨r1, v', r2, r3⟩ => ⟨r1, v', r2, ⟨by have := e.fr r3.fr; rwa [e.1] at this, by have := r3.nw; rwa [e.1] at this⟩⟩
    have ACT : Hid (∀ (v1 v2 : World) (v' : Value), TT v1 s c (O) (plX c O X y1 y4 y5) → Fr wa.heap.size [s, s + 1, s + 2] wa v1 → RD v2 b v' c (O) (plX c O X y1 y4 y5) → DC v1 v2 b v v' → TP w v2 s b c v' (O) (plX c O X y1 y4 y5)) := fun v1 v2 v' q1 f1 r2 c2 => ha.act q1 f1 r2 c2
    generalize plX c O X y1 y4 y5 = X2 at *
    obtain ⟨O2, hO2⟩ : ∃ O2, O = O2 := ⟨_, rfl⟩
    rw [hO2] at C1 C2 ACT
    clear hO2
    generalize plE c O y1 y4 = n0 at *
    have bb0 : (n0 == n0) = true := by simp
    clear ha hy HTB
    go_enter Tryd.func12, Tryd.ntmps12
    go_wp2_with fail
    rw [HWA.out]
    go_region_held3 (fun w' => w'.cell? ⟨wr.heap.size, 1, none⟩ = some (.int .i64 y1) ∧ w'.cell? ⟨wr.heap.size, 4, none⟩ = some (.int .i64 y4) ∧ w'.cell? ⟨wr.heap.size, 5, none⟩ = some (.bool y5)) (go_keep)
      (first | (go_at_call 23; refine (C1.out _ ?_).mono ?_; exact ⟨rfl, rfl, rfl, rfl⟩; rintro e v1 ⟨rfl, q1, f1⟩; obtain ⟨k1, k2, k3, k4, k5⟩ := hbox.out v1 f1; have Q1 : Hid (TT v1 s c O2 X2) := q1; have F1 : Hid (Fr wa.heap.size [s, s + 1, s + 2] wa v1) := f1; clear q1 f1) | (go_at_call 42; refine (C2.out v1 _ F1.out ?_).mono ?_; exact ⟨rfl, rfl, rfl, rfl⟩; rintro e v2 ⟨rfl, v', r2, c2⟩; have p2 := ACT.out _ _ _ Q1.out F1.out r2 c2; obtain ⟨j1, j2, j3, j4, j5⟩ := hbox2.out v1 v2 v' F1.out c2; have P2 : Hid (TP w v2 s b c v' O2 X2) := p2; clear r2 c2 Q1 p2))
    all_goals go_wp2
    go_ret
    exact ⟨rfl, v', O2, X2, P2.out.sm ⟨rfl, rfl, rfl, rfl⟩⟩
  have e3 : (y0.tmod 6 == 3) = false := by simpa using t3
  by_cases t4 : y0.tmod 6 = 4
  · have e4 : (y0.tmod 6 == 4) = true := by simpa using t4
    clear t0 t1 t2 t3 t4
    have C1 : Hid (∀ w1 : World, Sm w1 wa → Calls Tryd.prog 24 #[.pointer (some ⟨s + 2, 0, none⟩), .int .i64 y1, .int .i64 y4] w1 fun e v1 => e = .returned (.int .i64 (slE O X y1)) ∧ TT v1 s c (O) (slX O X y1 y4) ∧ Fr wa.heap.size [s, s + 1, s + 2] wa v1) := fun w1 e => (thsleep_any y1 y4 w1 (ha.q.heap e.1)).mono fun _ v1 ⟨r1, r2, r3⟩ => ⟨r1, r2, by have := e.fr r3; rwa [e.1] at this⟩
    have C2 : Hid (∀ v1 w1 : World, Fr wa.heap.size [s, s + 1, s + 2] wa v1 → Sm w1 v1 → Calls Tryd.prog 43 #[.pointer (some ⟨b, 0, none⟩), .int .i64 y1, .int .i64 y4] w1 fun e v2 => e = .returned (.int .i64 (slE O X y1)) ∧ ∃ v', RD v2 b v' c (O) (slX O X y1 y4) ∧ DC v1 v2 b v v') := fun v1 w1 f e => (rdsleep_any y1 y4 w1 ((ha.r1 f).heap e.1)).mono fun _ v2 ⟨r1, v', r2, r3⟩ => ⟨r1, v', r2, ⟨by have := e.fr r3.fr; rwa [e.1] at this, by have := r3.nw; rwa [e.1] at this⟩⟩
    have ACT : Hid (∀ (v1 v2 : World) (v' : Value), TT v1 s c (O) (slX O X y1 y4) → Fr wa.heap.size [s, s + 1, s + 2] wa v1 → RD v2 b v' c (O) (slX O X y1 y4) → DC v1 v2 b v v' → TP w v2 s b c v' (O) (slX O X y1 y4)) := fun v1 v2 v' q1 f1 r2 c2 => ha.act q1 f1 r2 c2
    generalize slX O X y1 y4 = X2 at *
    obtain ⟨O2, hO2⟩ : ∃ O2, O = O2 := ⟨_, rfl⟩
    rw [hO2] at C1 C2 ACT
    clear hO2
    generalize slE O X y1 = n0 at *
    have bb0 : (n0 == n0) = true := by simp
    clear ha hy HTB
    go_enter Tryd.func12, Tryd.ntmps12
    go_wp2_with fail
    rw [HWA.out]
    go_region_held3 (fun w' => w'.cell? ⟨wr.heap.size, 1, none⟩ = some (.int .i64 y1) ∧ w'.cell? ⟨wr.heap.size, 4, none⟩ = some (.int .i64 y4)) (go_keep)
      (first | (go_at_call 24; refine (C1.out _ ?_).mono ?_; exact ⟨rfl, rfl, rfl, rfl⟩; rintro e v1 ⟨rfl, q1, f1⟩; obtain ⟨k1, k2, k3, k4, k5⟩ := hbox.out v1 f1; have Q1 : Hid (TT v1 s c O2 X2) := q1; have F1 : Hid (Fr wa.heap.size [s, s + 1, s + 2] wa v1) := f1; clear q1 f1) | (go_at_call 43; refine (C2.out v1 _ F1.out ?_).mono ?_; exact ⟨rfl, rfl, rfl, rfl⟩; rintro e v2 ⟨rfl, v', r2, c2⟩; have p2 := ACT.out _ _ _ Q1.out F1.out r2 c2; obtain ⟨j1, j2, j3, j4, j5⟩ := hbox2.out v1 v2 v' F1.out c2; have P2 : Hid (TP w v2 s b c v' O2 X2) := p2; clear r2 c2 Q1 p2))
    all_goals go_wp2
    go_ret
    exact ⟨rfl, v', O2, X2, P2.out.sm ⟨rfl, rfl, rfl, rfl⟩⟩
  have e4 : (y0.tmod 6 == 4) = false := by simpa using t4
  clear t0 t1 t2 t3 t4
  have C1 : Hid (∀ w1 : World, Sm w1 wa → Calls Tryd.prog 20 #[.pointer (some ⟨s + 2, 0, none⟩), .int .i64 y1] w1 fun e v1 => e = .returned (.tuple #[.int .i64 (wkN O X y1), .int .i64 (wkE O X y1)]) ∧ TT v1 s c (O) (wkX O X y1) ∧ Fr wa.heap.size [s, s + 1, s + 2] wa v1) := fun w1 e => (thwake_any y1 w1 (ha.q.heap e.1)).mono fun _ v1 ⟨r1, r2, r3⟩ => ⟨r1, r2, by have := e.fr r3; rwa [e.1] at this⟩
  have C2 : Hid (∀ v1 w1 : World, Fr wa.heap.size [s, s + 1, s + 2] wa v1 → Sm w1 v1 → Calls Tryd.prog 44 #[.pointer (some ⟨b, 0, none⟩), .int .i64 y1] w1 fun e v2 => e = .returned (.tuple #[.int .i64 (wkN O X y1), .int .i64 (wkE O X y1)]) ∧ ∃ v', RD v2 b v' c (O) (wkX O X y1) ∧ DC v1 v2 b v v') := fun v1 w1 f e => (rdwake_any y1 w1 ((ha.r1 f).heap e.1)).mono fun _ v2 ⟨r1, v', r2, r3⟩ => ⟨r1, v', r2, ⟨by have := e.fr r3.fr; rwa [e.1] at this, by have := r3.nw; rwa [e.1] at this⟩⟩
  have ACT : Hid (∀ (v1 v2 : World) (v' : Value), TT v1 s c (O) (wkX O X y1) → Fr wa.heap.size [s, s + 1, s + 2] wa v1 → RD v2 b v' c (O) (wkX O X y1) → DC v1 v2 b v v' → TP w v2 s b c v' (O) (wkX O X y1)) := fun v1 v2 v' q1 f1 r2 c2 => ha.act q1 f1 r2 c2
  generalize wkX O X y1 = X2 at *
  obtain ⟨O2, hO2⟩ : ∃ O2, O = O2 := ⟨_, rfl⟩
  rw [hO2] at C1 C2 ACT
  clear hO2
  generalize wkN O X y1 = n0 at *
  have bb0 : (n0 == n0) = true := by simp
  generalize wkE O X y1 = n1 at *
  have bb1 : (n1 == n1) = true := by simp
  clear ha hy HTB
  go_enter Tryd.func12, Tryd.ntmps12
  go_wp2_with fail
  rw [HWA.out]
  refine (C1.out _ ⟨rfl, rfl, rfl, rfl⟩).mono ?_
  rintro e v1 ⟨rfl, q1, f1⟩
  obtain ⟨k1, k2, k3, k4, k5⟩ := hbox.out v1 f1
  have Q1 : Hid (TT v1 s c O2 X2) := q1
  have F1 : Hid (Fr wa.heap.size [s, s + 1, s + 2] wa v1) := f1
  clear q1 f1
  go_wp2_with fail
  refine (C2.out v1 _ F1.out ⟨rfl, rfl, rfl, rfl⟩).mono ?_
  rintro e v2 ⟨rfl, v', r2, c2⟩
  have p2 := ACT.out _ _ _ Q1.out F1.out r2 c2
  clear r2 c2
  go_wp2
  go_ret
  exact ⟨rfl, v', O2, X2, p2⟩
end Go.Proofs.YtghnpmkibnggeaaDoor
