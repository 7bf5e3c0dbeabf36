/- Queues of cores of the program and the document's, side by side; what an act to both answers and leaves. -/
import Derived.Test.YtpmjojemcpgpiaaDoorVd
import Derived.Test.YtpmjojemcpgpiaaDoorUd
import Derived.WalkKit
import Derived.ProofKit
import Derived.OpenShut
import Derived.BigQuiet
import Derived.Deep.RegionHeld3
namespace Go.Proofs.YtpmjojemcpgpiaaDoor
open Go.ChangeShapes Go.WideShapes Go.ChangeAt Go.RowKit
open Fm Qm

theorem Row.heap {w w1 : World} {v : Value} {xs : List Int} (h : Row w v xs) (e : w1.heap = w.heap) : Row w1 v xs := by
  rcases h with h | ⟨b, off, cap, hv, hb, hc⟩
  · exact Or.inl h
  · exact Or.inr ⟨b, off, cap, hv, by rw [e]; exact hb, fun i hi => (World.cell?_of_block (w := w) (by rw [e])).trans (hc i hi)⟩

theorem RR.one {w : World} {s n m : Nat} {K : Ks} (h : RR w s n m K) : RR w s n (m + 1) K := ⟨h.rb, by obtain ⟨D, o, k⟩ := h.mp; exact ⟨D, o.mono (by omega), k⟩, h.al⟩
theorem RR.lo {lo : Nat} {w w' : World} {s n m : Nat} {K : Ks} (h : RR w s n m K) (f : Below lo w w') (hl : s + (3 + 17 * n) ≤ lo) : RR w' s n m K :=
  ⟨h.rb.keep (Fr.of_below f) hl (fun _ _ _ _ => by simp), h.mp.keep (Fr.of_below f) (by omega) (by simp), h.al⟩

/-- Both hold K; the program's lie below lo, the document's from lo on, all behind what was there before. -/
structure QQ (w wr : World) (s lo b g cap n m : Nat) (A : Nat → Nat) (V : Nat → Value) (K : Ks) : Prop where
  q : RR wr s n m K
  r : RX wr lo b g cap n A V K
  bel : Below s w wr
  hl : s + (3 + 17 * n) ≤ lo

theorem QQ.size {w wr : World} {s lo b g cap n m : Nat} {A : Nat → Nat} {V : Nat → Value} {K : Ks} (h : QQ w wr s lo b g cap n m A V K) : s + (3 + 17 * n) ≤ wr.heap.size := h.q.rb.hi
theorem QQ.keep {w wr w1 : World} {s lo b g cap n m : Nat} {A : Nat → Nat} {V : Nat → Value} {K : Ks} (h : QQ w wr s lo b g cap n m A V K) (f : Below wr.heap.size wr w1) : QQ w w1 s lo b g cap n m A V K :=
  ⟨h.q.below f, h.r.below f, h.bel.trans (f.mono (by have := h.size; omega)), h.hl⟩
theorem QQ.sm {w wr w1 : World} {s lo b g cap n m : Nat} {A : Nat → Nat} {V : Nat → Value} {K : Ks} (h : QQ w wr s lo b g cap n m A V K) (e : Sm w1 wr) : QQ w w1 s lo b g cap n m A V K :=
  h.keep (e.below (Below.refl _ _))
theorem QQ.r1 {w wr v1 : World} {s lo b g cap n m : Nat} {A : Nat → Nat} {V : Nat → Value} {K : Ks} (h : QQ w wr s lo b g cap n m A V K) (f : Fr wr.heap.size (rz s n) wr v1) : RX v1 lo b g cap n A V K :=
  h.r.far f fun k hk => by have := (mem_rz s n k).1 hk; have := h.hl; omega
theorem QQ.act {w wr v1 v2 : World} {s lo b g cap n m m' : Nat} {A : Nat → Nat} {V V' : Nat → Value} {K K' : Ks} (h : QQ w wr s lo b g cap n m A V K) (q1 : RR v1 s n m' K') (f1 : Fr wr.heap.size (rz s n) wr v1) (r2 : RX v2 lo b g cap n A V' K') (c2 : XC lo v1 v2) : QQ w v2 s lo b g cap n m' A V' K' := by
  have := h.size
  have := h.hl
  exact ⟨q1.lo c2.bel h.hl, r2, (h.bel.trans ((f1.less (by omega : s ≤ wr.heap.size)).below (fun k hk => ((mem_rz s n k).1 hk).1))).trans (c2.bel.mono (by omega)), h.hl⟩
/-- A box that was made behind both. -/
theorem QQ.box {w wr v1 : World} {s lo b g cap n m : Nat} {A : Nat → Nat} {V : Nat → Value} {K : Ks} (h : QQ w wr s lo b g cap n m A V K) (cs : List Value) (t : TypeId) (f1 : Fr (wr.alloc (.cells cs.toArray t)).heap.size (rz s n) (wr.alloc (.cells cs.toArray t)) v1) : Blk v1 wr.heap.size cs t :=
  (Blk.new wr cs t).keep f1 (by simp) fun e => by have := ((mem_rz s n _).1 e).2; have := h.size; omega
theorem sm_xc {lo : Nat} {w1 v1 v2 : World} (e : Sm w1 v1) (h : XC lo w1 v2) : XC lo v1 v2 := ⟨e.from h.bel, fun k cs t hk a b => h.box k cs t (hk.heap e.1) a b⟩

set_option maxRecDepth 100000 in
set_option maxHeartbeats 8000000 in
theorem rqdo_any {w : World} {s lo b g cap n m : Nat} {A : Nat → Nat} {V : Nat → Value} {K : Ks} (y0 y1 y2 y3 y4 : Int) (hw : (Lit.int .i64 y4).wf = true) (wr : World) (hm : m ≤ 9000) (h : QQ w wr s lo b g cap n m A V K) :
    Calls Tryd.prog 7 #[.pointer (some ⟨s + 2, 0, none⟩), .pointer (some ⟨b, 0, none⟩), .agg #[.int .i64 y0, .int .i64 y1, .int .i64 y2, .int .i64 y3, .int .i64 y4]] wr fun e w' => e = .returned (.bool true) ∧ (∃ V' K', QQ w w' s lo b g cap n (m + 1) A V' K') ∧ ∀ (k : Nat) (cs : List Value), Blk wr k cs 33 → s + (3 + 17 * n) ≤ k → Blk w' k cs 33 := by
  have hal : Below wr.heap.size wr (wr.alloc (.cells #[.int .i64 y0, .int .i64 y1, .int .i64 y2, .int .i64 y3, .int .i64 y4] 33)) := (Below.refl _ _).alloc (Nat.le_refl _) _
  have ha := h.keep hal
  have BX : Hid (∀ v1 : World, Fr (wr.alloc (.cells #[.int .i64 y0, .int .i64 y1, .int .i64 y2, .int .i64 y3, .int .i64 y4] 33)).heap.size (rz s n) (wr.alloc (.cells #[.int .i64 y0, .int .i64 y1, .int .i64 y2, .int .i64 y3, .int .i64 y4] 33)) v1 → _) := fun v1 f => h.box [.int .i64 y0, .int .i64 y1, .int .i64 y2, .int .i64 y3, .int .i64 y4] 33 f
  have OB : Hid (∀ (v1 : World), Fr (wr.alloc (.cells #[.int .i64 y0, .int .i64 y1, .int .i64 y2, .int .i64 y3, .int .i64 y4] 33)).heap.size (rz s n) (wr.alloc (.cells #[.int .i64 y0, .int .i64 y1, .int .i64 y2, .int .i64 y3, .int .i64 y4] 33)) v1 → ∀ (k : Nat) (cs : List Value), Blk wr k cs 33 → s + (3 + 17 * n) ≤ k → Blk v1 k cs 33) := fun v1 f k cs hk hs => ((hk.alloc _).keep f (by have := hk.lt; simp; omega) fun e => by have := ((mem_rz s n _).1 e).2; omega)
  have kb : Blk (wr.alloc (.cells #[.int .i64 y0, .int .i64 y1, .int .i64 y2, .int .i64 y3, .int .i64 y4] 33)) wr.heap.size [.int .i64 y0, .int .i64 y1, .int .i64 y2, .int .i64 y3, .int .i64 y4] 33 := Blk.new wr _ _
  have x0 := kb.cell 0
  have x1 := kb.cell 1
  have x2 := kb.cell 2
  have x3 := kb.cell 3
  have x4 := kb.cell 4
  simp only [List.getElem?_cons_zero, List.getElem?_cons_succ] at x0 x1 x2 x3 x4
  obtain ⟨wa, hwa⟩ : ∃ wa, wr.alloc (.cells #[.int .i64 y0, .int .i64 y1, .int .i64 y2, .int .i64 y3, .int .i64 y4] 33) = wa := ⟨_, rfl⟩
  have HWA : Hid (wr.alloc (.cells #[.int .i64 y0, .int .i64 y1, .int .i64 y2, .int .i64 y3, .int .i64 y4] 33) = wa) := hwa
  rw [hwa] at ha BX kb x0 x1 x2 x3 x4 OB
  have hbox : Hid (∀ v1 : World, Fr wa.heap.size (rz s n) wa v1 → v1.cell? ⟨wr.heap.size, 1, none⟩ = some (.int .i64 y1) ∧ v1.cell? ⟨wr.heap.size, 2, none⟩ = some (.int .i64 y2) ∧ v1.cell? ⟨wr.heap.size, 3, none⟩ = some (.int .i64 y3) ∧ v1.cell? ⟨wr.heap.size, 4, none⟩ = some (.int .i64 y4)) := fun v1 f => ⟨(BX.out v1 f).cell 1, (BX.out v1 f).cell 2, (BX.out v1 f).cell 3, (BX.out v1 f).cell 4⟩
  have hbox2 : Hid (∀ (v1 v2 : World), Fr wa.heap.size (rz s n) wa v1 → XC lo v1 v2 → v2.cell? ⟨wr.heap.size, 1, none⟩ = some (.int .i64 y1) ∧ v2.cell? ⟨wr.heap.size, 2, none⟩ = some (.int .i64 y2) ∧ v2.cell? ⟨wr.heap.size, 3, none⟩ = some (.int .i64 y3) ∧ v2.cell? ⟨wr.heap.size, 4, none⟩ = some (.int .i64 y4)) := fun v1 v2 f c => by
    have k := c.box _ _ _ (BX.out v1 f) (by decide) (by decide)
    exact ⟨k.cell 1, k.cell 2, k.cell 3, k.cell 4⟩
  have old : Hid (∀ (v1 v2 w' : World), Fr wa.heap.size (rz s n) wa v1 → XC lo v1 v2 → Sm w' v2 → ∀ (k : Nat) (cs : List Value), Blk wr k cs 33 → s + (3 + 17 * n) ≤ k → Blk w' k cs 33) := fun v1 v2 w' f c e k cs hk hs => (c.box _ _ _ (OB.out v1 f k cs hk hs) (by decide) (by decide)).heap e.1
  clear BX kb hal h hwa OB
  by_cases t0 : y0.tmod 5 = 0
  · have d0 : (y0.tmod 5 == 0) = true := by simpa using t0
    clear t0
    have C1 : Hid (∀ w1 : World, Sm w1 wa → Calls Tryd.prog 23 #[.pointer (some ⟨s + 2, 0, none⟩), .int .i64 y1, .int .i64 y3, .int .i64 y4] w1 fun e v1 => e = .returned (.int .i64 (puE n K y1 y3 y4)) ∧ RR v1 s n (m + 1) (puK n K y1 y3 y4) ∧ Fr wa.heap.size (rz s n) wa v1) := fun w1 e => (put_any y1 y3 y4 hw (by omega) (ha.q.heap e.1)).mono fun _ v1 ⟨r1, r2, r3⟩ => ⟨r1, r2, by have := e.fr r3; rwa [e.1] at this⟩
    have C2 : Hid (∀ v1 w1 : World, Fr wa.heap.size (rz s n) wa v1 → Sm w1 v1 → Calls Tryd.prog 26 #[.pointer (some ⟨b, 0, none⟩), .int .i64 y1, .int .i64 y3, .int .i64 y4] w1 fun e v2 => e = .returned (.int .i64 (puE n K y1 y3 y4)) ∧ ∃ V', RX v2 lo b g cap n A V' (puK n K y1 y3 y4) ∧ XC lo v1 v2) := fun v1 w1 f e => (xput_any y1 y3 y4 hw ((ha.r1 f).heap e.1)).mono fun _ v2 ⟨r1, V', r2, r3⟩ => ⟨r1, V', r2, (sm_xc e r3)⟩
    have ACT : Hid (∀ (v1 v2 : World) (V' : Nat → Value), RR v1 s n (m + 1) (puK n K y1 y3 y4) → Fr wa.heap.size (rz s n) wa v1 → RX v2 lo b g cap n A V' (puK n K y1 y3 y4) → XC lo v1 v2 → QQ w v2 s lo b g cap n (m + 1) A V' (puK n K y1 y3 y4)) := fun v1 v2 V' q1 f1 r2 c2 => ha.act q1 f1 r2 c2
    generalize puK n K y1 y3 y4 = K2 at *
    generalize puE n K y1 y3 y4 = e1 at *
    have bb : (e1 == e1) = true := by simp
    clear ha
    go_enter Tryd.func7, Tryd.ntmps7
    go_wp2_with fail
    rw [HWA.out]
    go_region_held3 (fun w' => w'.cell? ⟨wr.heap.size, 1, none⟩ = some (.int .i64 y1) ∧ w'.cell? ⟨wr.heap.size, 3, none⟩ = some (.int .i64 y3) ∧ w'.cell? ⟨wr.heap.size, 4, none⟩ = some (.int .i64 y4)) (go_keep)
      (first | (go_at_call 23; refine (C1.out _ ?_).mono ?_; exact ⟨rfl, rfl, rfl, rfl⟩; rintro e v1 ⟨rfl, q1, f1⟩; obtain ⟨k1, k2, k3, k4⟩ := hbox.out v1 f1; have Q1 : Hid (RR v1 s n (m + 1) K2) := q1; have F1 : Hid (Fr wa.heap.size (rz s n) wa v1) := f1; clear q1 f1) | (go_at_call 26; refine (C2.out v1 _ F1.out ?_).mono ?_; exact ⟨rfl, rfl, rfl, rfl⟩; rintro e v2 ⟨rfl, V', r2, c2⟩; have p2 := ACT.out _ _ _ Q1.out F1.out r2 c2; obtain ⟨j1, j2, j3, j4⟩ := hbox2.out v1 v2 F1.out c2; have P2 : Hid (QQ w v2 s lo b g cap n (m + 1) A V' K2) := p2; have O2 : Hid (∀ w' : World, Sm w' v2 → ∀ (k : Nat) (cs : List Value), Blk wr k cs 33 → s + (3 + 17 * n) ≤ k → Blk w' k cs 33) := fun w' e => old.out v1 v2 w' F1.out c2 e; clear r2 c2 Q1 p2))
    all_goals go_wp2
    go_ret
    exact ⟨rfl, ⟨V', K2, P2.out.sm ⟨rfl, rfl, rfl, rfl⟩⟩, O2.out _ ⟨rfl, rfl, rfl, rfl⟩⟩
  have d0 : (y0.tmod 5 == 0) = false := by simpa using t0
  by_cases t1 : y0.tmod 5 = 1
  · have d1 : (y0.tmod 5 == 1) = true := by simpa using t1
    clear t0 t1
    have C1 : Hid (∀ w1 : World, Sm w1 wa → Calls Tryd.prog 24 #[.pointer (some ⟨s + 2, 0, none⟩), .int .i64 y1] w1 fun e v1 => e = .returned (.tuple #[.int .i64 (pkN n K y1), .int .i64 (pkE n K y1)]) ∧ RR v1 s n m (pkK n K y1) ∧ Fr wa.heap.size (rz s n) wa v1) := fun w1 e => (pick_any y1 (ha.q.heap e.1)).mono fun _ v1 ⟨r1, r2, r3⟩ => ⟨r1, r2, by have := e.fr r3; rwa [e.1] at this⟩
    have C2 : Hid (∀ v1 w1 : World, Fr wa.heap.size (rz s n) wa v1 → Sm w1 v1 → Calls Tryd.prog 27 #[.pointer (some ⟨b, 0, none⟩), .int .i64 y1] w1 fun e v2 => e = .returned (.tuple #[.int .i64 (pkN n K y1), .int .i64 (pkE n K y1)]) ∧ ∃ V', RX v2 lo b g cap n A V' (pkK n K y1) ∧ XC lo v1 v2) := fun v1 w1 f e => (xpick_any y1 ((ha.r1 f).heap e.1)).mono fun _ v2 ⟨r1, V', r2, r3⟩ => ⟨r1, V', r2, (sm_xc e r3)⟩
    have ACT : Hid (∀ (v1 v2 : World) (V' : Nat → Value), RR v1 s n m (pkK n K y1) → Fr wa.heap.size (rz s n) wa v1 → RX v2 lo b g cap n A V' (pkK n K y1) → XC lo v1 v2 → QQ w v2 s lo b g cap n (m + 1) A V' (pkK n K y1)) := fun v1 v2 V' q1 f1 r2 c2 => ha.act q1.one f1 r2 c2
    generalize pkK n K y1 = K2 at *
    generalize pkN n K y1 = e1 at *
    generalize pkE n K y1 = e2 at *
    have bb : (e1 == e1) = true := by simp
    have b3 : (e2 == e2) = true := by simp
    clear ha
    go_enter Tryd.func7, Tryd.ntmps7
    go_wp2_with fail
    rw [HWA.out]
    refine (C1.out _ ⟨rfl, rfl, rfl, rfl⟩).mono ?_
    rintro e v1 ⟨rfl, q1, f1⟩
    obtain ⟨k1, k2, k3, k4⟩ := hbox.out v1 f1
    have Q1 : Hid (RR v1 s n m K2) := q1
    have F1 : Hid (Fr wa.heap.size (rz s n) wa v1) := f1
    clear q1 f1
    go_wp2_with fail
    refine (C2.out v1 _ F1.out ⟨rfl, rfl, rfl, rfl⟩).mono ?_
    rintro e v2 ⟨rfl, V', r2, c2⟩
    have P2 : Hid (QQ w v2 s lo b g cap n (m + 1) A V' K2) := ACT.out _ _ _ Q1.out F1.out r2 c2
    have O2 : Hid (∀ w' : World, Sm w' v2 → ∀ (k : Nat) (cs : List Value), Blk wr k cs 33 → s + (3 + 17 * n) ≤ k → Blk w' k cs 33) := fun w' e => old.out v1 v2 w' F1.out c2 e
    clear r2 c2
    go_wp2
    go_ret
    exact ⟨rfl, ⟨V', K2, P2.out.sm ⟨rfl, rfl, rfl, rfl⟩⟩, O2.out _ ⟨rfl, rfl, rfl, rfl⟩⟩
  have d1 : (y0.tmod 5 == 1) = false := by simpa using t1
  by_cases t2 : y0.tmod 5 = 2
  · have d2 : (y0.tmod 5 == 2) = true := by simpa using t2
    clear t0 t1 t2
    have C1 : Hid (∀ w1 : World, Sm w1 wa → Calls Tryd.prog 28 #[.pointer (some ⟨s + 2, 0, none⟩), .int .i64 y4] w1 fun e v1 => e = .returned (.int .i64 (rbE n K y4)) ∧ RR v1 s n m (rbK n K y4) ∧ Fr wa.heap.size (rz s n) wa v1) := fun w1 e => (rqback_any y4 hw (ha.q.heap e.1)).mono fun _ v1 ⟨r1, r2, r3⟩ => ⟨r1, r2, by have := e.fr r3; rwa [e.1] at this⟩
    have C2 : Hid (∀ v1 w1 : World, Fr wa.heap.size (rz s n) wa v1 → Sm w1 v1 → Calls Tryd.prog 29 #[.pointer (some ⟨b, 0, none⟩), .int .i64 y4] w1 fun e v2 => e = .returned (.int .i64 (rbE n K y4)) ∧ ∃ V', RX v2 lo b g cap n A V' (rbK n K y4) ∧ XC lo v1 v2) := fun v1 w1 f e => (xback_any y4 ((ha.r1 f).heap e.1)).mono fun _ v2 ⟨r1, V', r2, r3⟩ => ⟨r1, V', r2, (sm_xc e r3)⟩
    have ACT : Hid (∀ (v1 v2 : World) (V' : Nat → Value), RR v1 s n m (rbK n K y4) → Fr wa.heap.size (rz s n) wa v1 → RX v2 lo b g cap n A V' (rbK n K y4) → XC lo v1 v2 → QQ w v2 s lo b g cap n (m + 1) A V' (rbK n K y4)) := fun v1 v2 V' q1 f1 r2 c2 => ha.act q1.one f1 r2 c2
    generalize rbK n K y4 = K2 at *
    generalize rbE n K y4 = e1 at *
    have bb : (e1 == e1) = true := by simp
    clear ha
    go_enter Tryd.func7, Tryd.ntmps7
    go_wp2_with fail
    rw [HWA.out]
    go_region_held3 (fun w' => w'.cell? ⟨wr.heap.size, 4, none⟩ = some (.int .i64 y4)) (go_keep)
      (first | (go_at_call 28; refine (C1.out _ ?_).mono ?_; exact ⟨rfl, rfl, rfl, rfl⟩; rintro e v1 ⟨rfl, q1, f1⟩; obtain ⟨k1, k2, k3, k4⟩ := hbox.out v1 f1; have Q1 : Hid (RR v1 s n m K2) := q1; have F1 : Hid (Fr wa.heap.size (rz s n) wa v1) := f1; clear q1 f1) | (go_at_call 29; refine (C2.out v1 _ F1.out ?_).mono ?_; exact ⟨rfl, rfl, rfl, rfl⟩; rintro e v2 ⟨rfl, V', r2, c2⟩; have p2 := ACT.out _ _ _ Q1.out F1.out r2 c2; obtain ⟨j1, j2, j3, j4⟩ := hbox2.out v1 v2 F1.out c2; have P2 : Hid (QQ w v2 s lo b g cap n (m + 1) A V' K2) := p2; have O2 : Hid (∀ w' : World, Sm w' v2 → ∀ (k : Nat) (cs : List Value), Blk wr k cs 33 → s + (3 + 17 * n) ≤ k → Blk w' k cs 33) := fun w' e => old.out v1 v2 w' F1.out c2 e; clear r2 c2 Q1 p2))
    all_goals go_wp2
    go_ret
    exact ⟨rfl, ⟨V', K2, P2.out.sm ⟨rfl, rfl, rfl, rfl⟩⟩, O2.out _ ⟨rfl, rfl, rfl, rfl⟩⟩
  have d2 : (y0.tmod 5 == 2) = false := by simpa using t2
  by_cases t3 : y0.tmod 5 = 3
  · have d3 : (y0.tmod 5 == 3) = true := by simpa using t3
    clear t0 t1 t2 t3
    have C1 : Hid (∀ w1 : World, Sm w1 wa → Calls Tryd.prog 30 #[.pointer (some ⟨s + 2, 0, none⟩), .int .i64 y4] w1 fun e v1 => e = .returned (.int .i64 (rbE n K y4)) ∧ RR v1 s n m (rtK n K y4) ∧ Fr wa.heap.size (rz s n) wa v1) := fun w1 e => (rqtake_any y4 hw (ha.q.heap e.1)).mono fun _ v1 ⟨r1, r2, r3⟩ => ⟨r1, r2, by have := e.fr r3; rwa [e.1] at this⟩
    have C2 : Hid (∀ v1 w1 : World, Fr wa.heap.size (rz s n) wa v1 → Sm w1 v1 → Calls Tryd.prog 31 #[.pointer (some ⟨b, 0, none⟩), .int .i64 y4] w1 fun e v2 => e = .returned (.int .i64 (rbE n K y4)) ∧ ∃ V', RX v2 lo b g cap n A V' (rtK n K y4) ∧ XC lo v1 v2) := fun v1 w1 f e => (xtake_any y4 ((ha.r1 f).heap e.1)).mono fun _ v2 ⟨r1, V', r2, r3⟩ => ⟨r1, V', r2, (sm_xc e r3)⟩
    have ACT : Hid (∀ (v1 v2 : World) (V' : Nat → Value), RR v1 s n m (rtK n K y4) → Fr wa.heap.size (rz s n) wa v1 → RX v2 lo b g cap n A V' (rtK n K y4) → XC lo v1 v2 → QQ w v2 s lo b g cap n (m + 1) A V' (rtK n K y4)) := fun v1 v2 V' q1 f1 r2 c2 => ha.act q1.one f1 r2 c2
    generalize rtK n K y4 = K2 at *
    generalize rbE n K y4 = e1 at *
    have bb : (e1 == e1) = true := by simp
    clear ha
    go_enter Tryd.func7, Tryd.ntmps7
    go_wp2_with fail
    rw [HWA.out]
    go_region_held3 (fun w' => w'.cell? ⟨wr.heap.size, 4, none⟩ = some (.int .i64 y4)) (go_keep)
      (first | (go_at_call 30; refine (C1.out _ ?_).mono ?_; exact ⟨rfl, rfl, rfl, rfl⟩; rintro e v1 ⟨rfl, q1, f1⟩; obtain ⟨k1, k2, k3, k4⟩ := hbox.out v1 f1; have Q1 : Hid (RR v1 s n m K2) := q1; have F1 : Hid (Fr wa.heap.size (rz s n) wa v1) := f1; clear q1 f1) | (go_at_call 31; refine (C2.out v1 _ F1.out ?_).mono ?_; exact ⟨rfl, rfl, rfl, rfl⟩; rintro e v2 ⟨rfl, V', r2, c2⟩; have p2 := ACT.out _ _ _ Q1.out F1.out r2 c2; obtain ⟨j1, j2, j3, j4⟩ := hbox2.out v1 v2 F1.out c2; have P2 : Hid (QQ w v2 s lo b g cap n (m + 1) A V' K2) := p2; have O2 : Hid (∀ w' : World, Sm w' v2 → ∀ (k : Nat) (cs : List Value), Blk wr k cs 33 → s + (3 + 17 * n) ≤ k → Blk w' k cs 33) := fun w' e => old.out v1 v2 w' F1.out c2 e; clear r2 c2 Q1 p2))
    all_goals go_wp2
    go_ret
    exact ⟨rfl, ⟨V', K2, P2.out.sm ⟨rfl, rfl, rfl, rfl⟩⟩, O2.out _ ⟨rfl, rfl, rfl, rfl⟩⟩
  have d3 : (y0.tmod 5 == 3) = false := by simpa using t3
  · clear t0 t1 t2 t3
    have C1 : Hid (∀ w1 : World, Sm w1 wa → Calls Tryd.prog 25 #[.pointer (some ⟨s + 2, 0, none⟩), .int .i64 y1, .int .i64 y2] w1 fun e v1 => e = .returned (.tuple #[.int .i64 (mvN n K y1 y2), .int .i64 (mvE n K y1 y2)]) ∧ RR v1 s n (m + 1) (mvK n K y1 y2) ∧ Fr wa.heap.size (rz s n) wa v1) := fun w1 e => (move_any y1 y2 (by omega) (ha.q.heap e.1)).mono fun _ v1 ⟨r1, r2, r3⟩ => ⟨r1, r2, by have := e.fr r3; rwa [e.1] at this⟩
    have C2 : Hid (∀ v1 w1 : World, Fr wa.heap.size (rz s n) wa v1 → Sm w1 v1 → Calls Tryd.prog 32 #[.pointer (some ⟨b, 0, none⟩), .int .i64 y1, .int .i64 y2] w1 fun e v2 => e = .returned (.tuple #[.int .i64 (mvN n K y1 y2), .int .i64 (mvE n K y1 y2)]) ∧ ∃ V', RX v2 lo b g cap n A V' (mvK n K y1 y2) ∧ XC lo v1 v2) := fun v1 w1 f e => (xmove_any y1 y2 ((ha.r1 f).heap e.1)).mono fun _ v2 ⟨r1, V', r2, r3⟩ => ⟨r1, V', r2, (sm_xc e r3)⟩
    have ACT : Hid (∀ (v1 v2 : World) (V' : Nat → Value), RR v1 s n (m + 1) (mvK n K y1 y2) → Fr wa.heap.size (rz s n) wa v1 → RX v2 lo b g cap n A V' (mvK n K y1 y2) → XC lo v1 v2 → QQ w v2 s lo b g cap n (m + 1) A V' (mvK n K y1 y2)) := fun v1 v2 V' q1 f1 r2 c2 => ha.act q1 f1 r2 c2
    generalize mvK n K y1 y2 = K2 at *
    generalize mvN n K y1 y2 = e1 at *
    generalize mvE n K y1 y2 = e2 at *
    have bb : (e1 == e1) = true := by simp
    have b3 : (e2 == e2) = true := by simp
    clear ha
    go_enter Tryd.func7, Tryd.ntmps7
    go_wp2_with fail
    rw [HWA.out]
    refine (C1.out _ ⟨rfl, rfl, rfl, rfl⟩).mono ?_
    rintro e v1 ⟨rfl, q1, f1⟩
    obtain ⟨k1, k2, k3, k4⟩ := hbox.out v1 f1
    have Q1 : Hid (RR v1 s n (m + 1) K2) := q1
    have F1 : Hid (Fr wa.heap.size (rz s n) wa v1) := f1
    clear q1 f1
    go_wp2_with fail
    refine (C2.out v1 _ F1.out ⟨rfl, rfl, rfl, rfl⟩).mono ?_
    rintro e v2 ⟨rfl, V', r2, c2⟩
    have P2 : Hid (QQ w v2 s lo b g cap n (m + 1) A V' K2) := ACT.out _ _ _ Q1.out F1.out r2 c2
    have O2 : Hid (∀ w' : World, Sm w' v2 → ∀ (k : Nat) (cs : List Value), Blk wr k cs 33 → s + (3 + 17 * n) ≤ k → Blk w' k cs 33) := fun w' e => old.out v1 v2 w' F1.out c2 e
    clear r2 c2
    go_wp2
    go_ret
    exact ⟨rfl, ⟨V', K2, P2.out.sm ⟨rfl, rfl, rfl, rfl⟩⟩, O2.out _ ⟨rfl, rfl, rfl, rfl⟩⟩
end Go.Proofs.YtpmjojemcpgpiaaDoor
