/- What an act to both tables of threads leaves alone: all threads but the one that it names, and all blocks but the tables'. -/
import Derived.Test.YtghnpmkibnggeaaDoorDf
import Derived.WalkKit
import Derived.ProofKit
import Derived.OpenShut
import Derived.BigQuiet
import Derived.Deep.RegionHeld3
namespace Go.Proofs.YtghnpmkibnggeaaDoor
open Go.ChangeShapes Go.WideShapes Go.ChangeAt Go.RowKit
open Mm Sl Tm

/-- All threads but one are there as they were. -/
def Ap (O : Nat → Bool) (X : Nat → Th) (O' : Nat → Bool) (X' : Nat → Th) (y : Int) : Prop := ∀ n : Int, hs 32 O n = true → n ≠ y → hs 32 O' n = true ∧ X' (n.toNat - 1) = X (n.toNat - 1)

theorem ap_refl (O : Nat → Bool) (X : Nat → Th) (y : Int) : Ap O X O X y := fun _ h _ => ⟨h, rfl⟩
theorem ap_sx {O : Nat → Bool} (X : Nat → Th) {y : Int} (hy : hs 32 O y = true) (t : Th) : Ap O X O (sx X (y.toNat - 1) t) y := fun n h ne => by
  obtain ⟨i, _, e1, e2, _⟩ := hs_some h
  obtain ⟨j, _, e3, e4, _⟩ := hs_some hy
  exact ⟨h, sx_other X (by omega) t⟩
theorem ap_spawn (c : Nat) (O : Nat → Bool) (X : Nat → Th) (p : Int) (m : Nat) (y : Int) : Ap O X (spO c O p m) (spX c O X p m) y := by
  unfold spO spX
  split
  · rcases ff_is (O := O) with ⟨e, _⟩ | ⟨i, e, hi, ho, _⟩
    · rw [e]
      exact ap_refl O X y
    · rw [e]
      intro n h _
      obtain ⟨j, hj, e1, e2, hoj⟩ := hs_some h
      have ne : j ≠ i := fun q => by rw [q, ho] at hoj; cases hoj
      refine ⟨?_, sx_other X (by omega) _⟩
      rw [e1]
      exact hs_of hj (by show st O (i + 1) true (j + 1) = true; unfold st; rw [if_neg (by omega)]; exact hoj)
  · exact ap_refl O X y
theorem ap_exit (O : Nat → Bool) (X : Nat → Th) (y : Int) : Ap O X (gO 32 O y) (exX O X y) y := by
  unfold gO exX
  split
  · rename_i hy
    intro n h ne
    obtain ⟨i, hi, e1, e2, hoi⟩ := hs_some h
    obtain ⟨j, hj, e3, e4, _⟩ := hs_some hy
    refine ⟨?_, sx_other X (by omega) _⟩
    rw [e1]
    exact hs_of hi (by unfold st; rw [if_neg (by omega)]; exact hoi)
  · exact ap_refl O X y
theorem ap_aim (c : Nat) (O : Nat → Bool) (X : Nat → Th) (y : Int) (m : Nat) : Ap O X O (amX c O X y m) y := by
  unfold amX
  split
  · rename_i h; exact ap_sx X h.1 _
  · exact ap_refl O X y
theorem ap_place (c : Nat) (O : Nat → Bool) (X : Nat → Th) (y u : Int) (f : Bool) : Ap O X O (plX c O X y u f) y := by
  unfold plX
  split
  · rename_i h; exact ap_sx X h.1 _
  · exact ap_refl O X y
theorem ap_sleep (O : Nat → Bool) (X : Nat → Th) (y t : Int) : Ap O X O (slX O X y t) y := by
  unfold slX
  split
  · rename_i h; exact ap_sx X h.1 _
  · exact ap_refl O X y
theorem ap_wake (O : Nat → Bool) (X : Nat → Th) (y : Int) : Ap O X O (wkX O X y) y := by
  unfold wkX
  split
  · rename_i h; exact ap_sx X h.1 _
  · exact ap_refl O X y

theorem fr_act {wr wa wb v1 v2 w2 : World} {s b : Nat} {v v' : Value} (hal : Below wr.heap.size wr wb) (hwa : wb = wa) (f : Fr wa.heap.size [s, s + 1, s + 2] wa v1) (c : DC v1 v2 b v v') (e : Sm w2 v2) : Fr wr.heap.size (s :: (s + 1) :: (s + 2) :: b :: v.ownBlock.toList) wr w2 := by
  subst hwa
  have h1 : Fr wr.heap.size (s :: (s + 1) :: (s + 2) :: b :: v.ownBlock.toList) wr wb := (Fr.of_below hal).mono (Nat.le_refl _) (fun _ _ _ => by simp)
  have h2 : Fr wr.heap.size (s :: (s + 1) :: (s + 2) :: b :: v.ownBlock.toList) wb v1 := f.mono hal.size (fun k _ hk q => hk (by simp at q ⊢; omega))
  have h3 : Fr wr.heap.size (s :: (s + 1) :: (s + 2) :: b :: v.ownBlock.toList) v1 v2 := c.fr.mono (Nat.le_trans hal.size f.size) (fun k _ hk q => hk (List.mem_cons_of_mem _ (List.mem_cons_of_mem _ (List.mem_cons_of_mem _ q))))
  have h4 := h1.trans (h2.trans h3)
  obtain ⟨e1, e2, e3, e4⟩ := e
  exact ⟨e2.trans h4.os, e3.trans h4.tape, e4.trans h4.output, by rw [e1]; exact h4.size, fun k hk hs => by rw [e1]; exact h4.block k hk hs⟩

set_option maxRecDepth 100000 in
set_option maxHeartbeats 8000000 in
theorem thdo2_any {w : World} {s b c : Nat} {v : Value} {O : Nat → Bool} {X : Nat → Th} (y0 y1 y2 : Int) (y3 : Nat) (y4 : Int) (y5 : Bool) (hy : y3 < 18446744073709551616) (wr : World) (h : TP w wr s b c v O X) (ht : ∀ w1, Below s w w1 → Tab w1) :
    Calls Tryd.prog 12 #[.pointer (some ⟨s + 2, 0, none⟩), .pointer (some ⟨b, 0, none⟩), .agg #[.int .i64 y0, .int .i64 y1, .int .i64 y2, .int .u64 (y3 : Int), .int .i64 y4, .bool y5]] wr fun e w' => e = .returned (.bool true) ∧ ∃ v' O' X', TP w w' s b c v' O' X' ∧ Ap O X O' X' y1 ∧ Fr wr.heap.size (s :: (s + 1) :: (s + 2) :: b :: v.ownBlock.toList) wr w' := by
  have hal : Below wr.heap.size wr (wr.alloc (.cells #[.int .i64 y0, .int .i64 y1, .int .i64 y2, .int .u64 (y3 : Int), .int .i64 y4, .bool y5] 34)) := (Below.refl _ _).alloc (Nat.le_refl _) _
  have ha := h.keep hal
  have BX : Hid (∀ v1 : World, Fr (wr.alloc (.cells #[.int .i64 y0, .int .i64 y1, .int .i64 y2, .int .u64 (y3 : Int), .int .i64 y4, .bool y5] 34)).heap.size [s, s + 1, s + 2] (wr.alloc (.cells #[.int .i64 y0, .int .i64 y1, .int .i64 y2, .int .u64 (y3 : Int), .int .i64 y4, .bool y5] 34)) v1 → _) := fun v1 f => h.box [.int .i64 y0, .int .i64 y1, .int .i64 y2, .int .u64 (y3 : Int), .int .i64 y4, .bool y5] 34 f
  have BY : Hid (∀ (v1 v2 : World) (v' : Value), Blk v1 wr.heap.size [.int .i64 y0, .int .i64 y1, .int .i64 y2, .int .u64 (y3 : Int), .int .i64 y4, .bool y5] 34 → DC v1 v2 b v v' → _) := fun v1 v2 v' k c => h.box2 k c
  have kb : Blk (wr.alloc (.cells #[.int .i64 y0, .int .i64 y1, .int .i64 y2, .int .u64 (y3 : Int), .int .i64 y4, .bool y5] 34)) wr.heap.size [.int .i64 y0, .int .i64 y1, .int .i64 y2, .int .u64 (y3 : Int), .int .i64 y4, .bool y5] 34 := Blk.new wr _ _
  have x0 := kb.cell 0
  have x1 := kb.cell 1
  have x2 := kb.cell 2
  have x3 := kb.cell 3
  have x4 := kb.cell 4
  have x5 := kb.cell 5
  simp only [List.getElem?_cons_zero, List.getElem?_cons_succ] at x0 x1 x2 x3 x4 x5
  obtain ⟨wa, hwa⟩ : ∃ wa, wr.alloc (.cells #[.int .i64 y0, .int .i64 y1, .int .i64 y2, .int .u64 (y3 : Int), .int .i64 y4, .bool y5] 34) = wa := ⟨_, rfl⟩
  have HWA : Hid (wr.alloc (.cells #[.int .i64 y0, .int .i64 y1, .int .i64 y2, .int .u64 (y3 : Int), .int .i64 y4, .bool y5] 34) = wa) := hwa
  rw [hwa] at ha BX kb x0 x1 x2 x3 x4 x5
  have HTB : Hid (Tab wa) := ht wa ha.bel
  have hbox : Hid (∀ v1 : World, Fr wa.heap.size [s, s + 1, s + 2] wa v1 → v1.cell? ⟨wr.heap.size, 1, none⟩ = some (.int .i64 y1) ∧ v1.cell? ⟨wr.heap.size, 2, none⟩ = some (.int .i64 y2) ∧ v1.cell? ⟨wr.heap.size, 3, none⟩ = some (.int .u64 (y3 : Int)) ∧ v1.cell? ⟨wr.heap.size, 4, none⟩ = some (.int .i64 y4) ∧ v1.cell? ⟨wr.heap.size, 5, none⟩ = some (.bool y5)) := fun v1 f => ⟨(BX.out v1 f).cell 1, (BX.out v1 f).cell 2, (BX.out v1 f).cell 3, (BX.out v1 f).cell 4, (BX.out v1 f).cell 5⟩
  have hbox2 : Hid (∀ (v1 v2 : World) (v' : Value), Fr wa.heap.size [s, s + 1, s + 2] wa v1 → DC v1 v2 b v v' → v2.cell? ⟨wr.heap.size, 1, none⟩ = some (.int .i64 y1) ∧ v2.cell? ⟨wr.heap.size, 2, none⟩ = some (.int .i64 y2) ∧ v2.cell? ⟨wr.heap.size, 3, none⟩ = some (.int .u64 (y3 : Int)) ∧ v2.cell? ⟨wr.heap.size, 4, none⟩ = some (.int .i64 y4) ∧ v2.cell? ⟨wr.heap.size, 5, none⟩ = some (.bool y5)) := fun v1 v2 v' f c => ⟨(BY.out v1 v2 v' (BX.out v1 f) c).cell 1, (BY.out v1 v2 v' (BX.out v1 f) c).cell 2, (BY.out v1 v2 v' (BX.out v1 f) c).cell 3, (BY.out v1 v2 v' (BX.out v1 f) c).cell 4, (BY.out v1 v2 v' (BX.out v1 f) c).cell 5⟩
  have FRM : Hid (∀ (v1 v2 w2 : World) (v' : Value), Fr wa.heap.size [s, s + 1, s + 2] wa v1 → DC v1 v2 b v v' → Sm w2 v2 → Fr wr.heap.size (s :: (s + 1) :: (s + 2) :: b :: v.ownBlock.toList) wr w2) := fun v1 v2 w2 v' f c e => fr_act hal hwa f c e
  clear BX BY kb hal h hwa ht
  by_cases t0 : y0.tmod 6 = 0
  · have e0 : (y0.tmod 6 == 0) = true := by simpa using t0
    clear t0
    have C1 : Hid (∀ w1 : World, Sm w1 wa → Calls Tryd.prog 19 #[.pointer (some ⟨s + 2, 0, none⟩), .int .i64 y2, .int .u64 (y3 : Int)] w1 fun e v1 => e = .returned (.tuple #[.int .i64 (spN c O y2 y3), .int .i64 (spE c O y2 y3)]) ∧ TT v1 s c (spO c O y2 y3) (spX c O X y2 y3) ∧ Fr wa.heap.size [s, s + 1, s + 2] wa v1) := fun w1 e => (thspawn_any y2 y3 w1 hy (ha.q.heap e.1) (HTB.out.heap e.1)).mono fun _ v1 ⟨r1, r2, r3⟩ => ⟨r1, r2, by have := e.fr r3; rwa [e.1] at this⟩
    have C2 : Hid (∀ v1 w1 : World, Fr wa.heap.size [s, s + 1, s + 2] wa v1 → Sm w1 v1 → Calls Tryd.prog 39 #[.pointer (some ⟨b, 0, none⟩), .int .i64 y2, .int .u64 (y3 : Int)] w1 fun e v2 => e = .returned (.tuple #[.int .i64 (spN c O y2 y3), .int .i64 (spE c O y2 y3)]) ∧ ∃ v', RD v2 b v' c (spO c O y2 y3) (spX c O X y2 y3) ∧ DC v1 v2 b v v') := fun v1 w1 f e => (rdspawn_any y2 y3 w1 hy ((ha.r1 f).heap e.1)).mono fun _ v2 ⟨r1, v', r2, r3⟩ => ⟨r1, v', r2, ⟨by have := e.fr r3.fr; rwa [e.1] at this, by have := r3.nw; rwa [e.1] at this⟩⟩
    have AP : Hid (Ap O X (spO c O y2 y3) (spX c O X y2 y3) y1) := ap_spawn c O X y2 y3 y1
    have ACT : Hid (∀ (v1 v2 : World) (v' : Value), TT v1 s c (spO c O y2 y3) (spX c O X y2 y3) → Fr wa.heap.size [s, s + 1, s + 2] wa v1 → RD v2 b v' c (spO c O y2 y3) (spX c O X y2 y3) → DC v1 v2 b v v' → TP w v2 s b c v' (spO c O y2 y3) (spX c O X y2 y3)) := fun v1 v2 v' q1 f1 r2 c2 => ha.act q1 f1 r2 c2
    generalize spX c O X y2 y3 = X2 at *
    generalize spO c O y2 y3 = O2 at *
    generalize spN c O y2 y3 = n0 at *
    have bb0 : (n0 == n0) = true := by simp
    generalize spE c O y2 y3 = n1 at *
    have bb1 : (n1 == n1) = true := by simp
    clear ha hy HTB
    go_enter Tryd.func12, Tryd.ntmps12
    go_wp2_with fail
    rw [HWA.out]
    refine (C1.out _ ⟨rfl, rfl, rfl, rfl⟩).mono ?_
    rintro e v1 ⟨rfl, q1, f1⟩
    obtain ⟨k1, k2, k3, k4, k5⟩ := hbox.out v1 f1
    have Q1 : Hid (TT v1 s c O2 X2) := q1
    have F1 : Hid (Fr wa.heap.size [s, s + 1, s + 2] wa v1) := f1
    clear q1 f1
    go_wp2_with fail
    refine (C2.out v1 _ F1.out ⟨rfl, rfl, rfl, rfl⟩).mono ?_
    rintro e v2 ⟨rfl, v', r2, c2⟩
    have p2 := ACT.out _ _ _ Q1.out F1.out r2 c2
    have C2K : Hid (DC v1 v2 b v v') := c2
    clear r2 c2
    go_wp2
    go_ret
    exact ⟨rfl, v', O2, X2, p2, AP.out, FRM.out _ _ _ _ F1.out C2K.out ⟨rfl, rfl, rfl, rfl⟩⟩
  have e0 : (y0.tmod 6 == 0) = false := by simpa using t0
  by_cases t1 : y0.tmod 6 = 1
  · have e1 : (y0.tmod 6 == 1) = true := by simpa using t1
    clear t0 t1
    have C1 : Hid (∀ w1 : World, Sm w1 wa → Calls Tryd.prog 21 #[.pointer (some ⟨s + 2, 0, none⟩), .int .i64 y1] w1 fun e v1 => e = .returned (.int .i64 (gE 32 O y1)) ∧ TT v1 s c (gO 32 O y1) (exX O X y1) ∧ Fr wa.heap.size [s, s + 1, s + 2] wa v1) := fun w1 e => (thexit_any y1 w1 (ha.q.heap e.1)).mono fun _ v1 ⟨r1, r2, r3⟩ => ⟨r1, r2, by have := e.fr r3; rwa [e.1] at this⟩
    have C2 : Hid (∀ v1 w1 : World, Fr wa.heap.size [s, s + 1, s + 2] wa v1 → Sm w1 v1 → Calls Tryd.prog 40 #[.pointer (some ⟨b, 0, none⟩), .int .i64 y1] w1 fun e v2 => e = .returned (.int .i64 (gE 32 O y1)) ∧ ∃ v', RD v2 b v' c (gO 32 O y1) (exX O X y1) ∧ DC v1 v2 b v v') := fun v1 w1 f e => (rdexit_any y1 w1 ((ha.r1 f).heap e.1)).mono fun _ v2 ⟨r1, v', r2, r3⟩ => ⟨r1, v', r2, ⟨by have := e.fr r3.fr; rwa [e.1] at this, by have := r3.nw; rwa [e.1] at this⟩⟩
    have AP : Hid (Ap O X (gO 32 O y1) (exX O X y1) y1) := ap_exit O X y1
    have ACT : Hid (∀ (v1 v2 : World) (v' : Value), TT v1 s c (gO 32 O y1) (exX O X y1) → Fr wa.heap.size [s, s + 1, s + 2] wa v1 → RD v2 b v' c (gO 32 O y1) (exX O X y1) → DC v1 v2 b v v' → TP w v2 s b c v' (gO 32 O y1) (exX O X y1)) := fun v1 v2 v' q1 f1 r2 c2 => ha.act q1 f1 r2 c2
    generalize exX O X y1 = X2 at *
    generalize gO 32 O y1 = O2 at *
    generalize gE 32 O y1 = n0 at *
    have bb0 : (n0 == n0) = true := by simp
    clear ha hy HTB
    go_enter Tryd.func12, Tryd.ntmps12
    go_wp2_with fail
    rw [HWA.out]
    go_region_held3 (fun w' => w'.cell? ⟨wr.heap.size, 1, none⟩ = some (.int .i64 y1)) (go_keep)
      (first | (go_at_call 21; refine (C1.out _ ?_).mono ?_; exact ⟨rfl, rfl, rfl, rfl⟩; rintro e v1 ⟨rfl, q1, f1⟩; obtain ⟨k1, k2, k3, k4, k5⟩ := hbox.out v1 f1; have Q1 : Hid (TT v1 s c O2 X2) := q1; have F1 : Hid (Fr wa.heap.size [s, s + 1, s + 2] wa v1) := f1; clear q1 f1) | (go_at_call 40; refine (C2.out v1 _ F1.out ?_).mono ?_; exact ⟨rfl, rfl, rfl, rfl⟩; rintro e v2 ⟨rfl, v', r2, c2⟩; have p2 := ACT.out _ _ _ Q1.out F1.out r2 c2; obtain ⟨j1, j2, j3, j4, j5⟩ := hbox2.out v1 v2 v' F1.out c2; have P2 : Hid (TP w v2 s b c v' O2 X2) := p2; have C2K : Hid (DC v1 v2 b v v') := c2; clear r2 c2 Q1 p2))
    all_goals go_wp2
    go_ret
    exact ⟨rfl, v', O2, X2, P2.out.sm ⟨rfl, rfl, rfl, rfl⟩, AP.out, FRM.out _ _ _ _ F1.out C2K.out ⟨rfl, rfl, rfl, rfl⟩⟩
  have e1 : (y0.tmod 6 == 1) = false := by simpa using t1
  by_cases t2 : y0.tmod 6 = 2
  · have e2 : (y0.tmod 6 == 2) = true := by simpa using t2
    clear t0 t1 t2
    have C1 : Hid (∀ w1 : World, Sm w1 wa → Calls Tryd.prog 22 #[.pointer (some ⟨s + 2, 0, none⟩), .int .i64 y1, .int .u64 (y3 : Int)] w1 fun e v1 => e = .returned (.int .i64 (amE c O y1 y3)) ∧ TT v1 s c (O) (amX c O X y1 y3) ∧ Fr wa.heap.size [s, s + 1, s + 2] wa v1) := fun w1 e => (thaim_any y1 y3 w1 hy (ha.q.heap e.1)).mono fun _ v1 ⟨r1, r2, r3⟩ => ⟨r1, r2, by have := e.fr r3; rwa [e.1] at this⟩
    have C2 : Hid (∀ v1 w1 : World, Fr wa.heap.size [s, s + 1, s + 2] wa v1 → Sm w1 v1 → Calls Tryd.prog 41 #[.pointer (some ⟨b, 0, none⟩), .int .i64 y1, .int .u64 (y3 : Int)] w1 fun e v2 => e = .returned (.int .i64 (amE c O y1 y3)) ∧ ∃ v', RD v2 b v' c (O) (amX c O X y1 y3) ∧ DC v1 v2 b v v') := fun v1 w1 f e => (rdaim_any y1 y3 w1 hy ((ha.r1 f).heap e.1)).mono fun _ v2 ⟨r1, v', r2, r3⟩ => ⟨r1, v', r2, ⟨by have := e.fr r3.fr; rwa [e.1] at this, by have := r3.nw; rwa [e.1] at this⟩⟩
    have AP : Hid (Ap O X (O) (amX c O X y1 y3) y1) := ap_aim c O X y1 y3
    have ACT : Hid (∀ (v1 v2 : World) (v' : Value), TT v1 s c (O) (amX c O X y1 y3) → Fr wa.heap.size [s, s + 1, s + 2] wa v1 → RD v2 b v' c (O) (amX c O X y1 y3) → DC v1 v2 b v v' → TP w v2 s b c v' (O) (amX c O X y1 y3)) := fun v1 v2 v' q1 f1 r2 c2 => ha.act q1 f1 r2 c2
    generalize amX c O X y1 y3 = X2 at *
    obtain ⟨O2, hO2⟩ : ∃ O2, O2 = O := ⟨_, rfl⟩
    rw [← hO2] at C1 C2 ACT
    replace AP : Hid (Ap O X O2 X2 y1) := by rw [hO2]; exact AP
    clear hO2
    generalize amE c O y1 y3 = n0 at *
    have bb0 : (n0 == n0) = true := by simp
    clear ha hy HTB
    go_enter Tryd.func12, Tryd.ntmps12
    go_wp2_with fail
    rw [HWA.out]
    go_region_held3 (fun w' => w'.cell? ⟨wr.heap.size, 1, none⟩ = some (.int .i64 y1) ∧ w'.cell? ⟨wr.heap.size, 3, none⟩ = some (.int .u64 (y3 : Int))) (go_keep)
      (first | (go_at_call 22; refine (C1.out _ ?_).mono ?_; exact ⟨rfl, rfl, rfl, rfl⟩; rintro e v1 ⟨rfl, q1, f1⟩; obtain ⟨k1, k2, k3, k4, k5⟩ := hbox.out v1 f1; have Q1 : Hid (TT v1 s c O2 X2) := q1; have F1 : Hid (Fr wa.heap.size [s, s + 1, s + 2] wa v1) := f1; clear q1 f1) | (go_at_call 41; refine (C2.out v1 _ F1.out ?_).mono ?_; exact ⟨rfl, rfl, rfl, rfl⟩; rintro e v2 ⟨rfl, v', r2, c2⟩; have p2 := ACT.out _ _ _ Q1.out F1.out r2 c2; obtain ⟨j1, j2, j3, j4, j5⟩ := hbox2.out v1 v2 v' F1.out c2; have P2 : Hid (TP w v2 s b c v' O2 X2) := p2; have C2K : Hid (DC v1 v2 b v v') := c2; clear r2 c2 Q1 p2))
    all_goals go_wp2
    go_ret
    exact ⟨rfl, v', O2, X2, P2.out.sm ⟨rfl, rfl, rfl, rfl⟩, AP.out, FRM.out _ _ _ _ F1.out C2K.out ⟨rfl, rfl, rfl, rfl⟩⟩
  have e2 : (y0.tmod 6 == 2) = false := by simpa using t2
  by_cases t3 : y0.tmod 6 = 3
  · have e3 : (y0.tmod 6 == 3) = true := by simpa using t3
    clear t0 t1 t2 t3
    have C1 : Hid (∀ w1 : World, Sm w1 wa → Calls Tryd.prog 23 #[.pointer (some ⟨s + 2, 0, none⟩), .int .i64 y1, .int .i64 y4, .bool y5] w1 fun e v1 => e = .returned (.int .i64 (plE c O y1 y4)) ∧ TT v1 s c (O) (plX c O X y1 y4 y5) ∧ Fr wa.heap.size [s, s + 1, s + 2] wa v1) := fun w1 e => (thplace_any y1 y4 y5 w1 (ha.q.heap e.1)).mono fun _ v1 ⟨r1, r2, r3⟩ => ⟨r1, r2, by have := e.fr r3; rwa [e.1] at this⟩
    have C2 : Hid (∀ v1 w1 : World, Fr wa.heap.size [s, s + 1, s + 2] wa v1 → Sm w1 v1 → Calls Tryd.prog 42 #[.pointer (some ⟨b, 0, none⟩), .int .i64 y1, .int .i64 y4, .bool y5] w1 fun e v2 => e = .returned (.int .i64 (plE c O y1 y4)) ∧ ∃ v', RD v2 b v' c (O) (plX c O X y1 y4 y5) ∧ DC v1 v2 b v v') := fun v1 w1 f e => (rdplace_any y1 y4 y5 w1 ((ha.r1 f).heap e.1)).mono fun _ v2 ⟨r1, v', r2, r3⟩ => ⟨r1, v', r2, ⟨by have := e.fr r3.fr; rwa [e.1] at this, by have := r3.nw; rwa [e.1] at this⟩⟩
    have AP : Hid (Ap O X (O) (plX c O X y1 y4 y5) y1) := ap_place c O X y1 y4 y5
    have ACT : Hid (∀ (v1 v2 : World) (v' : Value), TT v1 s c (O) (plX c O X y1 y4 y5) → Fr wa.heap.size [s, s + 1, s + 2] wa v1 → RD v2 b v' c (O) (plX c O X y1 y4 y5) → DC v1 v2 b v v' → TP w v2 s b c v' (O) (plX c O X y1 y4 y5)) := fun v1 v2 v' q1 f1 r2 c2 => ha.act q1 f1 r2 c2
    generalize plX c O X y1 y4 y5 = X2 at *
    obtain ⟨O2, hO2⟩ : ∃ O2, O2 = O := ⟨_, rfl⟩
    rw [← hO2] at C1 C2 ACT
    replace AP : Hid (Ap O X O2 X2 y1) := by rw [hO2]; exact AP
    clear hO2
    generalize plE c O y1 y4 = n0 at *
    have bb0 : (n0 == n0) = true := by simp
    clear ha hy HTB
    go_enter Tryd.func12, Tryd.ntmps12
    go_wp2_with fail
    rw [HWA.out]
    go_region_held3 (fun w' => w'.cell? ⟨wr.heap.size, 1, none⟩ = some (.int .i64 y1) ∧ w'.cell? ⟨wr.heap.size, 4, none⟩ = some (.int .i64 y4) ∧ w'.cell? ⟨wr.heap.size, 5, none⟩ = some (.bool y5)) (go_keep)
      (first | (go_at_call 23; refine (C1.out _ ?_).mono ?_; exact ⟨rfl, rfl, rfl, rfl⟩; rintro e v1 ⟨rfl, q1, f1⟩; obtain ⟨k1, k2, k3, k4, k5⟩ := hbox.out v1 f1; have Q1 : Hid (TT v1 s c O2 X2) := q1; have F1 : Hid (Fr wa.heap.size [s, s + 1, s + 2] wa v1) := f1; clear q1 f1) | (go_at_call 42; refine (C2.out v1 _ F1.out ?_).mono ?_; exact ⟨rfl, rfl, rfl, rfl⟩; rintro e v2 ⟨rfl, v', r2, c2⟩; have p2 := ACT.out _ _ _ Q1.out F1.out r2 c2; obtain ⟨j1, j2, j3, j4, j5⟩ := hbox2.out v1 v2 v' F1.out c2; have P2 : Hid (TP w v2 s b c v' O2 X2) := p2; have C2K : Hid (DC v1 v2 b v v') := c2; clear r2 c2 Q1 p2))
    all_goals go_wp2
    go_ret
    exact ⟨rfl, v', O2, X2, P2.out.sm ⟨rfl, rfl, rfl, rfl⟩, AP.out, FRM.out _ _ _ _ F1.out C2K.out ⟨rfl, rfl, rfl, rfl⟩⟩
  have e3 : (y0.tmod 6 == 3) = false := by simpa using t3
  by_cases t4 : y0.tmod 6 = 4
  · have e4 : (y0.tmod 6 == 4) = true := by simpa using t4
    clear t0 t1 t2 t3 t4
    have C1 : Hid (∀ w1 : World, Sm w1 wa → Calls Tryd.prog 24 #[.pointer (some ⟨s + 2, 0, none⟩), .int .i64 y1, .int .i64 y4] w1 fun e v1 => e = .returned (.int .i64 (slE O X y1)) ∧ TT v1 s c (O) (slX O X y1 y4) ∧ Fr wa.heap.size [s, s + 1, s + 2] wa v1) := fun w1 e => (thsleep_any y1 y4 w1 (ha.q.heap e.1)).mono fun _ v1 ⟨r1, r2, r3⟩ => ⟨r1, r2, by have := e.fr r3; rwa [e.1] at this⟩
    have C2 : Hid (∀ v1 w1 : World, Fr wa.heap.size [s, s + 1, s + 2] wa v1 → Sm w1 v1 → Calls Tryd.prog 43 #[.pointer (some ⟨b, 0, none⟩), .int .i64 y1, .int .i64 y4] w1 fun e v2 => e = .returned (.int .i64 (slE O X y1)) ∧ ∃ v', RD v2 b v' c (O) (slX O X y1 y4) ∧ DC v1 v2 b v v') := fun v1 w1 f e => (rdsleep_any y1 y4 w1 ((ha.r1 f).heap e.1)).mono fun _ v2 ⟨r1, v', r2, r3⟩ => ⟨r1, v', r2, ⟨by have := e.fr r3.fr; rwa [e.1] at this, by have := r3.nw; rwa [e.1] at this⟩⟩
    have AP : Hid (Ap O X (O) (slX O X y1 y4) y1) := ap_sleep O X y1 y4
    have ACT : Hid (∀ (v1 v2 : World) (v' : Value), TT v1 s c (O) (slX O X y1 y4) → Fr wa.heap.size [s, s + 1, s + 2] wa v1 → RD v2 b v' c (O) (slX O X y1 y4) → DC v1 v2 b v v' → TP w v2 s b c v' (O) (slX O X y1 y4)) := fun v1 v2 v' q1 f1 r2 c2 => ha.act q1 f1 r2 c2
    generalize slX O X y1 y4 = X2 at *
    obtain ⟨O2, hO2⟩ : ∃ O2, O2 = O := ⟨_, rfl⟩
    rw [← hO2] at C1 C2 ACT
    replace AP : Hid (Ap O X O2 X2 y1) := by rw [hO2]; exact AP
    clear hO2
    generalize slE O X y1 = n0 at *
    have bb0 : (n0 == n0) = true := by simp
    clear ha hy HTB
    go_enter Tryd.func12, Tryd.ntmps12
    go_wp2_with fail
    rw [HWA.out]
    go_region_held3 (fun w' => w'.cell? ⟨wr.heap.size, 1, none⟩ = some (.int .i64 y1) ∧ w'.cell? ⟨wr.heap.size, 4, none⟩ = some (.int .i64 y4)) (go_keep)
      (first | (go_at_call 24; refine (C1.out _ ?_).mono ?_; exact ⟨rfl, rfl, rfl, rfl⟩; rintro e v1 ⟨rfl, q1, f1⟩; obtain ⟨k1, k2, k3, k4, k5⟩ := hbox.out v1 f1; have Q1 : Hid (TT v1 s c O2 X2) := q1; have F1 : Hid (Fr wa.heap.size [s, s + 1, s + 2] wa v1) := f1; clear q1 f1) | (go_at_call 43; refine (C2.out v1 _ F1.out ?_).mono ?_; exact ⟨rfl, rfl, rfl, rfl⟩; rintro e v2 ⟨rfl, v', r2, c2⟩; have p2 := ACT.out _ _ _ Q1.out F1.out r2 c2; obtain ⟨j1, j2, j3, j4, j5⟩ := hbox2.out v1 v2 v' F1.out c2; have P2 : Hid (TP w v2 s b c v' O2 X2) := p2; have C2K : Hid (DC v1 v2 b v v') := c2; clear r2 c2 Q1 p2))
    all_goals go_wp2
    go_ret
    exact ⟨rfl, v', O2, X2, P2.out.sm ⟨rfl, rfl, rfl, rfl⟩, AP.out, FRM.out _ _ _ _ F1.out C2K.out ⟨rfl, rfl, rfl, rfl⟩⟩
  have e4 : (y0.tmod 6 == 4) = false := by simpa using t4
  clear t0 t1 t2 t3 t4
  have C1 : Hid (∀ w1 : World, Sm w1 wa → Calls Tryd.prog 20 #[.pointer (some ⟨s + 2, 0, none⟩), .int .i64 y1] w1 fun e v1 => e = .returned (.tuple #[.int .i64 (wkN O X y1), .int .i64 (wkE O X y1)]) ∧ TT v1 s c (O) (wkX O X y1) ∧ Fr wa.heap.size [s, s + 1, s + 2] wa v1) := fun w1 e => (thwake_any y1 w1 (ha.q.heap e.1)).mono fun _ v1 ⟨r1, r2, r3⟩ => ⟨r1, r2, by have := e.fr r3; rwa [e.1] at this⟩
  have C2 : Hid (∀ v1 w1 : World, Fr wa.heap.size [s, s + 1, s + 2] wa v1 → Sm w1 v1 → Calls Tryd.prog 44 #[.pointer (some ⟨b, 0, none⟩), .int .i64 y1] w1 fun e v2 => e = .returned (.tuple #[.int .i64 (wkN O X y1), .int .i64 (wkE O X y1)]) ∧ ∃ v', RD v2 b v' c (O) (wkX O X y1) ∧ DC v1 v2 b v v') := fun v1 w1 f e => (rdwake_any y1 w1 ((ha.r1 f).heap e.1)).mono fun _ v2 ⟨r1, v', r2, r3⟩ => ⟨r1, v', r2, ⟨by have := e.fr r3.fr; rwa [e.1] at this, by have := r3.nw; rwa [e.1] at this⟩⟩
  have AP : Hid (Ap O X (O) (wkX O X y1) y1) := ap_wake O X y1
  have ACT : Hid (∀ (v1 v2 : World) (v' : Value), TT v1 s c (O) (wkX O X y1) → Fr wa.heap.size [s, s + 1, s + 2] wa v1 → RD v2 b v' c (O) (wkX O X y1) → DC v1 v2 b v v' → TP w v2 s b c v' (O) (wkX O X y1)) := fun v1 v2 v' q1 f1 r2 c2 => ha.act q1 f1 r2 c2
  generalize wkX O X y1 = X2 at *
  obtain ⟨O2, hO2⟩ : ∃ O2, O2 = O := ⟨_, rfl⟩
  rw [← hO2] at C1 C2 ACT
  replace AP : Hid (Ap O X O2 X2 y1) := by rw [hO2]; exact AP
  clear hO2
  generalize wkN O X y1 = n0 at *
  have bb0 : (n0 == n0) = true := by simp
  generalize wkE O X y1 = n1 at *
  have bb1 : (n1 == n1) = true := by simp
  clear ha hy HTB
  go_enter Tryd.func12, Tryd.ntmps12
  go_wp2_with fail
  rw [HWA.out]
  refine (C1.out _ ⟨rfl, rfl, rfl, rfl⟩).mono ?_
  rintro e v1 ⟨rfl, q1, f1⟩
  obtain ⟨k1, k2, k3, k4, k5⟩ := hbox.out v1 f1
  have Q1 : Hid (TT v1 s c O2 X2) := q1
  have F1 : Hid (Fr wa.heap.size [s, s + 1, s + 2] wa v1) := f1
  clear q1 f1
  go_wp2_with fail
  refine (C2.out v1 _ F1.out ⟨rfl, rfl, rfl, rfl⟩).mono ?_
  rintro e v2 ⟨rfl, v', r2, c2⟩
  have p2 := ACT.out _ _ _ Q1.out F1.out r2 c2
  have C2K : Hid (DC v1 v2 b v v') := c2
  clear r2 c2
  go_wp2
  go_ret
  exact ⟨rfl, v', O2, X2, p2, AP.out, FRM.out _ _ _ _ F1.out C2K.out ⟨rfl, rfl, rfl, rfl⟩⟩
end Go.Proofs.YtghnpmkibnggeaaDoor
