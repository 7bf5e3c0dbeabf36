/- Proved: for every number cpus and every list acts, davitlaw14.TimerPlays(cpus, acts) returns true: timers of any number of cores that are played with answer what the document says, and all timers of a core are what it says (120 acts at most, as the law itself says); no condition but that the listed table is as the program's text lays it, which the card ties. -/
import Derived.Test.YtadaghhgmflfdaaDoorRows
import Derived.Test.YtadaghhgmflfdaaDoorTie
import Derived.Test.YtadaghhgmflfdaaDoorCards
import Derived.Test.YtadaghhgmflfdaaDoorMv
import Derived.Test.YtadaghhgmflfdaaDoorFo
import Derived.Test.YtadaghhgmflfdaaDoorZt
import Derived.Test.YtadaghhgmflfdaaDoorFs
import Derived.Test.YtadaghhgmflfdaaDoorFi
import Derived.WalkKit
import Derived.ProofKit
import Derived.OpenShut
import Derived.Stop.Joined
import Derived.ShutString
import Derived.ChangeOld
import Derived.Below
import Derived.Carry
import Derived.LaidMore
import Derived.SevenTiedAt
import Derived.Test.YtadaghhgmflfdaaDoorFs
import Derived.Deep.RegionHeld3
namespace Go.Proofs.YtadaghhgmflfdaaDoor.timerPlays
open Go.ChangeShapes Go.WideShapes Go.ChangeAt Go.RowKit
open Mm Sl Wm Zm
set_option linter.unusedVariables false
set_option linter.unusedSimpArgs false

set_option maxRecDepth 100000 in
set_option maxHeartbeats 16000000 in
theorem walk (a0 : Int) (a1 : Option Addr) (len1 cap1 : Nat) (X1 : Nat → Nat → Int) (w : World) (w0 : (Lit.int .i64 a0).wf = true) (w1 : SRow w (.slice a1 len1 cap1) len1 [true, true, true, true, true] X1) (z1 : ∀ i, i < len1 → ∀ j, j < [true, true, true, true, true].length → [true, true, true, true, true].getD j true = true → (Lit.int .i64 (X1 i j)).wf = true) (ht : Tab w) (hs : 0 < w.heap.size) :
    Calls Tryd.prog 3 #[.int .i64 a0, .slice a1 len1 cap1] w fun e w' => e = .returned (.bool true) ∧ Below w.heap.size w w' := by
  have KN : Hid (∀ w1, Below w.heap.size w w1 → _) := fun w1 b => known_yes w1 (ht.keep hs (by simp) (Fr.of_below b)) (by have := b.size; omega)
  by_cases wrong : a0 < 1 ∨ 64 < a0
  · have C : Hid (∀ w, _) := fun w => tnew_bad a0 w wrong
    have D : Hid (∀ w, _) := fun w => xnew_bad a0 w wrong
    clear wrong w0 w1 z1 ht hs
    go_enter Tryd.func3, Tryd.ntmps3
    go_wp2_with fail
    refine (C.out _).mono ?_
    rintro e u1 ⟨rfl, rfl⟩
    go_wp2_with fail
    refine (D.out _).mono ?_
    rintro e u2 ⟨rfl, rfl⟩
    go_wp2_with fail
    refine (KN.out _ (Below.refl _ _)).mono ?_
    rintro e u3 ⟨rfl, hb⟩
    go_wp2
    go_ret
    exact ⟨rfl, hb⟩
  · obtain ⟨n, rfl⟩ := Int.eq_ofNat_of_zero_le (show 0 ≤ a0 by omega)
    have n1 : (1 : Int) ≤ n := by omega
    have n2 : (n : Int) ≤ 64 := by omega
    have C : Hid (∀ _ : Unit, _) := fun _ => tnew_any n w n1 n2
    have D : Hid (∀ w1, _) := fun w1 => xnew_any n w1 n1 n2
    have HR : Hid (SRow w (.slice a1 len1 cap1) len1 [true, true, true, true, true] X1) := w1
    have HW : Hid (∀ i, i < len1 → (Lit.int .i64 (X1 i 3)).wf = true) := fun i hi => z1 i hi 3 (by decide) (by decide)
    have HT : Hid (∀ w2 : World, Below w.heap.size w w2 → Tab w2) := fun w2 f => ht.below hs f
    clear wrong w0 w1 z1 ht hs
    go_enter Tryd.func3, Tryd.ntmps3
    go_wp2_with fail
    refine (C.out ()).mono ?_
    rintro e u1 ⟨t, rfl, F1, q1, l1, b1⟩
    have Q1 : Hid (TX u1 t n 0 (fun _ => []) F1 ∧ (∀ g ∈ F1, w.heap.size ≤ g) ∧ Below w.heap.size w u1) := ⟨q1, l1, b1⟩
    have D1 : Hid (∀ _ : Unit, _) := fun _ => D.out u1
    clear q1 l1 b1
    go_wp2_with fail
    refine (D1.out ()).mono ?_
    rintro e u2 ⟨rfl, FR, r2, l2, b2⟩
    have P0 : Hid (PP w u2 t u1.heap.size n 0 (fun _ => []) F1 FR) := by
      obtain ⟨q1, l1, b1⟩ := Q1.out
      have z := b1.size
      exact ⟨q1.below b2, r2, l1, fun g hg => Nat.le_trans z (l2 g hg), fun g hg hg2 => by have := q1.lt hg; have := l2 g hg2; omega, b1.trans (b2.mono z)⟩
    generalize u1.heap.size = r at *
    clear r2 l2 b2 Q1 D1
    go_wp2
    go_loopw [9] (fun i wr => ∃ (k : Nat) (now : Int) (K : Ks) (F FR : List Nat), (k : Int) ≤ 120 ∧ (k : Int) ≤ len1 ∧ Hid (PP w wr t r n now K F FR) ∧ i = .int .i64 k) (fun i _ => 120 - (intOf i).toNat)
    case atStart => exact ⟨0, 0, _, _, _, by omega, by omega, P0, rfl⟩
    case round =>
      obtain ⟨k, now, K, F, FR, hk, hk2, p, rfl⟩ := hrel
      clear P0
      have tail : (¬ (k : Int) < len1 ∧ decide ((k : Int) < len1) = false) ∨ ((k : Int) < len1 ∧ ¬ (k : Int) < 120) ∨ ((k : Int) < len1 ∧ (k : Int) < 120) := by
        by_cases h : (k : Int) < len1
        · by_cases h2 : (k : Int) < 120
          · exact Or.inr (Or.inr ⟨h, h2⟩)
          · exact Or.inr (Or.inl ⟨h, h2⟩)
        · exact Or.inl ⟨h, decide_eq_false h⟩
      rw [← or_assoc] at tail
      rcases tail with tail | ⟨h, h2⟩
      · have HB : Hid (Below w.heap.size w wr) := p.out.bel
        clear p
        rcases tail with ⟨h, hd⟩ | ⟨h, h2⟩
        all_goals (
          go_wp2_with fail
          refine (KN.out _ HB.out).mono ?_
          rintro e w4 ⟨rfl, f4⟩
          go_wp2
          go_ret
          exact ⟨rfl, HB.out.trans (f4.mono HB.out.size)⟩)
      · obtain ⟨b0, off, rfl, hA⟩ := srow_cell (wr := wr) HR.out p.out.bel h
        have y0' : wr.cell? ⟨b0, off + k * 5, none⟩ = some (.int .i64 (X1 k 0)) := hA 0 (by decide)
        have y1' : wr.cell? ⟨b0, off + k * 5 + 1, none⟩ = some (.int .i64 (X1 k 1)) := hA 1 (by decide)
        have y2' : wr.cell? ⟨b0, off + k * 5 + 2, none⟩ = some (.int .i64 (X1 k 2)) := hA 2 (by decide)
        have y3' : wr.cell? ⟨b0, off + k * 5 + 3, none⟩ = some (.int .i64 (X1 k 3)) := hA 3 (by decide)
        have y4' : wr.cell? ⟨b0, off + k * 5 + 4, none⟩ = some (.int .i64 (X1 k 4)) := hA 4 (by decide)
        have hw3 := HW.out k (by omega)
        clear hA
        generalize X1 k 0 = y0 at *
        generalize X1 k 1 = y1 at *
        generalize X1 k 2 = y2 at *
        generalize X1 k 3 = y3 at *
        generalize X1 k 4 = y4 at *
        have QB : Hid (PT w (wr.alloc (.cells #[.int .i64 y0, .int .i64 y1, .int .i64 y2, .int .i64 y3, .int .i64 y4] 32)) t r n now K wr.heap.size [.int .i64 y0, .int .i64 y1, .int .i64 y2, .int .i64 y3, .int .i64 y4] F FR) := p.out.box _
        obtain ⟨wb, hwb⟩ : ∃ wb, wr.alloc (.cells #[.int .i64 y0, .int .i64 y1, .int .i64 y2, .int .i64 y3, .int .i64 y4] 32) = wb := ⟨_, rfl⟩
        have HWB : Hid (wr.alloc (.cells #[.int .i64 y0, .int .i64 y1, .int .i64 y2, .int .i64 y3, .int .i64 y4] 32) = wb) := hwb
        rw [hwb] at QB
        have C1 : Hid (∀ _ : Unit, _) := fun _ => tdo_any y0 y1 y2 y3 y4 hw3 QB.out HT.out
        have HW3 : Hid ((Lit.int .i64 y3).wf = true) := hw3
        clear hwb hw3 p QB
        go_wp2_with fail
        rw [HWB.out]
        refine (C1.out ()).mono ?_
        rintro e u3 ⟨rfl, now3, K3, F3, FR3, p3⟩
        have P3 : Hid (∀ v : World, Below u3.heap.size u3 v → PT w v t r n now3 K3 wr.heap.size [.int .i64 y0, .int .i64 y1, .int .i64 y2, .int .i64 y3, .int .i64 y4] F3 FR3) := fun v f => p3.below f
        have BC : Hid (∀ v : World, Below u3.heap.size u3 v → v.cell? ⟨wr.heap.size, 1, none⟩ = some (.int .i64 y1) ∧ v.cell? ⟨wr.heap.size, 3, none⟩ = some (.int .i64 y3)) := fun v f => ⟨(p3.below f).ox.cell 1, (p3.below f).ox.cell 3⟩
        have al := p3.tx.al
        have T1 : Hid (∀ _ : Unit, _) := fun _ => tnext_any y1 p3.tx
        have T2 : Hid (∀ _ : Unit, _) := fun _ => rtnext_any y1 p3.rx
        have T3 : Hid (∀ _ : Unit, _) := fun _ => twhere_any y3 HW3.out p3.tx
        have T4 : Hid (∀ _ : Unit, _) := fun _ => rwhere_any y3 p3.rx al
        have T5 : Hid (∀ _ : Unit, _) := fun _ => twhen_any y3 HW3.out p3.tx
        have T6 : Hid (∀ _ : Unit, _) := fun _ => rwhen2_any y3 p3.rx al
        have T7 : Hid (∀ _ : Unit, _) := fun _ => rtlist_any y1 p3.rx al
        have T8 : Hid (∀ v : World, Below u3.heap.size u3 v → _) := fun v f => tready_any y1 (p3.below f).tx
        have T9 : Hid (∀ v : World, Below u3.heap.size u3 v → _) := fun v f => rtready_any y1 (p3.below f).rx al
        have TA : Hid (∀ v : World, Below u3.heap.size u3 v → _) := fun v f => tload_any y1 (p3.below f).tx
        have TB : Hid (∀ v : World, Below u3.heap.size u3 v → _) := fun v f => tlist_any y1 (p3.below f).tx
        have TC : Hid (∀ v : World, Below u3.heap.size u3 v → _) := fun v f => tnow_any (p3.below f).tx
        have TD : Hid (∀ v : World, Below u3.heap.size u3 v → _) := fun v f => rx_now (p3.below f).rx
        have hlen := txL_len al y1
        generalize txN n K3 y1 = n1 at *
        generalize txE n K3 y1 = n2 at *
        generalize twN n K3 y3 = n3 at *
        generalize twB n K3 y3 = n4 at *
        generalize thN n K3 y3 = n5 at *
        generalize txR n now3 K3 y1 = n6 at *
        generalize txL n K3 y1 = L at *
        have g1 : (n1 != n1) = false := by simp
        have g2 : (n2 != n2) = false := by simp
        have g3 : (n3 != n3) = false := by simp
        have g4 : (n4 != n4) = false := by simp
        have g5 : (n5 != n5) = false := by simp
        have g6 : (n6 != n6) = false := by simp
        have g7 : ((L.length : Int) != (L.length : Int)) = false := by simp
        have g8 : (now3 != now3) = false := by simp
        obtain ⟨c1, c3⟩ := BC.out u3 (Below.refl _ _)
        clear p3 al y0' y1' y2' y3' y4' C1
        go_wp2_with fail
        refine (T1.out ()).mono ?_
        rintro e u4 ⟨rfl, rfl⟩
        go_wp2_with fail
        refine (T2.out ()).mono ?_
        rintro e u5 ⟨rfl, rfl⟩
        go_wp2_with fail
        refine (T3.out ()).mono ?_
        rintro e u4 ⟨rfl, rfl⟩
        go_wp2_with fail
        refine (T4.out ()).mono ?_
        rintro e u5 ⟨rfl, rfl⟩
        go_wp2_with fail
        refine (T5.out ()).mono ?_
        rintro e u4 ⟨rfl, rfl⟩
        go_wp2_with fail
        refine (T6.out ()).mono ?_
        rintro e u5 ⟨rfl, rfl⟩
        go_wp2_with fail
        refine (T7.out ()).mono ?_
        rintro e v1 ⟨l, rfl, g⟩
        have G1 : Hid (Gt u5 v1 l L) := g
        have f1 := g.bel
        obtain ⟨pl, cl, rfl⟩ := own_shape g.own
        obtain ⟨d1, d3⟩ := BC.out v1 f1
        have E1 : Hid (Below u5.heap.size u5 v1) := f1
        obtain ⟨lb, cp, s0, r0, r1, r2⟩ := TD.out v1 f1
        have UP : Hid (∀ v : World, Below v1.heap.size v1 v → Below u5.heap.size u5 v) := fun v b => E1.out.trans (b.mono E1.out.size)
        have KB : Hid (∀ v : World, Below v1.heap.size v1 v → v.cell? ⟨wr.heap.size, 1, none⟩ = some (.int .i64 y1) ∧ v.cell? ⟨r, 0, none⟩ = some (.slice (some ⟨lb, 0, none⟩) n cp) ∧ v.cell? ⟨lb, 0, none⟩ = some (.pointer (some ⟨s0, 0, none⟩)) ∧ v.cell? ⟨s0, 0, none⟩ = some (.int .i64 now3)) := fun v b => by
          have k : ∀ (q : Addr) (x : Value), v1.cell? q = some x → v.cell? q = some x := fun q x hx => by
            rw [(Fr.of_below b).cell (World.block_lt_of_cell? v1 _ hx) (by simp)]
            exact hx
          exact ⟨k _ _ d1, k _ _ r0, k _ _ r1, k _ _ r2⟩
        have R1 : Hid (∀ u : World, Sm u v1 → Calls Tryd.prog 17 #[.pointer (some ⟨t, 0, none⟩), .int .i64 y1] u fun e w' => e = .returned (.bool n6) ∧ u = w') := fun u e => (T8.out u (e.below E1.out)).mono fun _ _ ⟨q1, q2⟩ => ⟨q1, q2.symm⟩
        have R2 : Hid (∀ u : World, Sm u v1 → Calls Tryd.prog 18 #[.pointer (some ⟨r, 0, none⟩), .int .i64 y1] u fun e w' => e = .returned (.bool n6) ∧ Below v1.heap.size v1 w') := fun u e => (T9.out u (e.below E1.out)).mono fun _ w2 ⟨q1, q2⟩ => ⟨q1, by have := e.from q2; rwa [e.1] at this⟩
        have R3 : Hid (∀ v, Below v1.heap.size v1 v → ∀ u : World, Sm u v → Calls Tryd.prog 19 #[.pointer (some ⟨t, 0, none⟩), .int .i64 y1] u fun e w' => e = .returned (.int .i64 (L.length : Nat)) ∧ u = w') := fun v b u e => (TA.out u (e.below (UP.out v b))).mono fun _ _ ⟨q1, q2⟩ => ⟨q1, q2.symm⟩
        have R4 : Hid (∀ v, Below v1.heap.size v1 v → ∀ u : World, Sm u v → Calls Tryd.prog 21 #[.pointer (some ⟨t, 0, none⟩), .int .i64 y1] u fun e w' => ∃ ax cx, e = .returned (.slice ax L.length cx) ∧ (w'.cell? ⟨wr.heap.size, 1, none⟩ = some (.int .i64 y1) ∧ w'.cell? ⟨r, 0, none⟩ = some (.slice (some ⟨lb, 0, none⟩) n cp) ∧ w'.cell? ⟨lb, 0, none⟩ = some (.pointer (some ⟨s0, 0, none⟩)) ∧ w'.cell? ⟨s0, 0, none⟩ = some (.int .i64 now3)) ∧ Hid (Gt v w' (.slice ax L.length cx) L) ∧ Hid (Below v1.heap.size v1 w')) := fun v b u e => (TB.out u (e.below (UP.out v b))).mono fun _ w2 ⟨x, q1, q2⟩ => by
          have o4 : w2.ownsRow v.heap.size 3 1 x L.length (L.map (Value.int .i64)) := by have := q2.own; rw [e.1] at this; exact this
          have f4 : Below v.heap.size v w2 := by have := e.from q2.bel; rwa [e.1] at this
          obtain ⟨ax, cx, rfl⟩ := own_shape o4
          have f5 := b.trans (f4.mono b.size)
          exact ⟨ax, cx, q1, KB.out w2 f5, ⟨o4, f4⟩, f5⟩
        have R5 : Hid (∀ (v3 v4 : World) (x : Value), Below v1.heap.size v1 v3 → Gt v3 v4 x L → ∀ u : World, Sm u v4 → _) := fun v3 v4 x b3 g4 u e => ints_any L x (.slice pl L.length cl) u (by omega) ((gt_row g4).keep (B := v4.heap.size) (Fr.of_below (e.below (Below.refl _ _))) (Nat.le_refl _)) ((((gt_row G1.out).keep (B := v1.heap.size) (Fr.of_below b3) (Nat.le_refl _)).keep (B := v3.heap.size) (Fr.of_below g4.bel) (Nat.le_refl _)).keep (B := v4.heap.size) (Fr.of_below (e.below (Below.refl _ _))) (Nat.le_refl _))
        have R6 : Hid (∀ v, Below v1.heap.size v1 v → ∀ u : World, Sm u v → Calls Tryd.prog 22 #[.pointer (some ⟨t, 0, none⟩)] u fun e w' => e = .returned (.int .i64 now3) ∧ u = w') := fun v b u e => (TC.out u (e.below (UP.out v b))).mono fun _ _ ⟨q1, q2⟩ => ⟨q1, q2.symm⟩
        have FIN : Hid (∀ v, Below v1.heap.size v1 v → ∀ u : World, Sm u v → PP w u t r n now3 K3 F3 FR3) := fun v b u e => (P3.out u (e.below (UP.out v b))).toPP
        have n10 : (0 : Int) < n := by omega
        have n11 : 0 < n := by omega
        clear g f1 c1 c3 d3 T1 T2 T3 T4 T5 T6 T7 T8 T9 TA TB TC TD E1 UP G1 P3 BC
        go_wp2_with fail
        simp only [List.append]
        go_region_held3 (fun w' => w'.cell? ⟨wr.heap.size, 1, none⟩ = some (.int .i64 y1) ∧ w'.cell? ⟨r, 0, none⟩ = some (.slice (some ⟨lb, 0, none⟩) n cp) ∧ w'.cell? ⟨lb, 0, none⟩ = some (.pointer (some ⟨s0, 0, none⟩)) ∧ w'.cell? ⟨s0, 0, none⟩ = some (.int .i64 now3)) (go_keep)
          (first | (go_at_call 17; refine (R1.out _ ?_).mono ?_; exact ⟨rfl, rfl, rfl, rfl⟩; rintro e w' ⟨rfl, rfl⟩) | (go_at_call 18; refine (R2.out _ ?_).mono ?_; exact ⟨rfl, rfl, rfl, rfl⟩; rintro e v3 ⟨rfl, b3⟩; have E3 : Hid (Below v1.heap.size v1 v3) := b3; obtain ⟨i1, i2, i3, i4⟩ := KB.out v3 b3; clear b3 R2) | (go_at_call 19; refine (R3.out v3 E3.out _ ?_).mono ?_; exact ⟨rfl, rfl, rfl, rfl⟩; rintro e w' ⟨rfl, rfl⟩) | (go_at_call 21; refine (R4.out v3 E3.out _ ?_).mono ?_; exact ⟨rfl, rfl, rfl, rfl⟩; rintro e v4 ⟨ax, cx, rfl, ⟨h1, h2, h3, h4⟩, G4, E4⟩; clear R4) | (go_at_call 20; refine (R5.out v3 v4 _ E3.out G4.out _ ?_).mono ?_; exact ⟨rfl, rfl, rfl, rfl⟩; rintro e w' ⟨rfl, d1, rfl⟩) | (go_at_call 22; refine (R6.out v4 E4.out _ ?_).mono ?_; exact ⟨rfl, rfl, rfl, rfl⟩; rintro e w' ⟨rfl, rfl⟩))
        all_goals go_wp2
        go_roundw
        case rel => exact ⟨k + 1, _, _, _, _, by omega, by omega, FIN.out v4 E4.out _ ⟨rfl, rfl, rfl, rfl⟩, by go_num⟩
        case measure => simp [intOf]; omega

set_option maxRecDepth 100000 in
theorem lifted (os : Os) (started : os.Started) (H : Type) (enc : TypeId × Value → H) :
    ReturnsInHanded {} Tryd.checked os 3 .any (fun w args => (Rows.timerPlaysSpec.pre enc Tryd.prog Tryd.f3 [] false w args ∧ laidMetH Tryd.prog laidTab w) ∧ sizedMet enc Tryd.prog Tryd.f3 (OpenSpec.ofChange Rows.timerPlaysSpec) false w args)
      (Rows.timerPlaysSpec.post enc Tryd.prog Tryd.f3 false true false false) := by
  refine returnsInHanded_of_change_and (C := Tryd.checked) (X := fun w _ => laidMetH Tryd.prog laidTab w) (fun _ _ _ hh h => h.of_heap hh) own started (by kernel_rfl) Tryd.func3
    (ChangeSpec.witness_shaped (enc := enc) (C := Tryd.checked) (os := os) (X := fun w _ => laidMetH Tryd.prog laidTab w) false (World.doorLaid Tryd.prog 400 os) #[.int .i64 0, .slice none 0 0] 8 rfl (World.shaped_of_RefB (by kernel_rfl) (by kernel_rfl)) (by kernel_rfl) (by kernel_rfl) (by kernel_rfl) (door_met os _)) ?_
  intro W base args ds gs before hval0 hW _ _ hL _
  have hval : ∀ (j : Nat) t v, Tryd.f3.params[j]? = some t → args[j]? = some v → Value.okWide Tryd.prog W .any base t v := hval0
  have hW' := hW
  obtain ⟨p, q, hA0, hV, rfl, hfz, hnd⟩ := hW
  have hA : DataW.TrodAll enc Tryd.prog W 0 (fun _ => true) true Tryd.f3.params.toList args.toList ds p := hA0
  rw [Tryd.params3] at hA hval
  obtain ⟨v0, vs0, d0, ds0, p0, q0, hargs, rfl, rfl, h0, r0⟩ := trodAll_cons hA
  obtain ⟨v1, vs1, d1, ds1, p1, q1, rfl, rfl, rfl, h1, r1⟩ := trodAll_cons r0
  obtain ⟨rfl, rfl, rfl⟩ := trodAll_nil r1
  obtain rfl : args = #[v0, v1] := by cases args; simp_all
  obtain ⟨rfl, rfl⟩ := trodVars_none hV
  obtain ⟨a0, rfl, rfl, rfl, w0⟩ := open_int Tryd.underlying3 (hval 0 3 v0 rfl rfl) h0
  obtain ⟨a1, len1, cap1, rfl⟩ := okWide_slice Tryd.underlying22 (hval 1 22 v1 rfl rfl)
  have k1 := h1
  have lt1 : ∀ x ∈ p1, x.block < W.heap.size := by obtain ⟨m, hm⟩ := k1; exact DataW.trod_lt m _ _ _ hm
  obtain ⟨X1, w1, z1⟩ : ∃ X : Nat → Nat → Int, SRow W (.slice a1 len1 cap1) len1 [true, true, true, true, true] X ∧ ∀ i, i < len1 → ∀ j, j < [true, true, true, true, true].length → [true, true, true, true, true].getD j true = true → (Lit.int .i64 (X i j)).wf = true := by
    obtain ⟨fuel, hf⟩ := h1
    exact open_recs [true, true, true, true, true] Tryd.underlying22 Tryd.underlying32 (by kernel_rfl) rfl (by decide) (fun | 0, _ => ⟨_, rfl, rfl, by kernel_rfl, Tryd.underlying3⟩ | 1, _ => ⟨_, rfl, rfl, by kernel_rfl, Tryd.underlying3⟩ | 2, _ => ⟨_, rfl, rfl, by kernel_rfl, Tryd.underlying3⟩ | 3, _ => ⟨_, rfl, rfl, by kernel_rfl, Tryd.underlying3⟩ | 4, _ => ⟨_, rfl, rfl, by kernel_rfl, Tryd.underlying2⟩ | n + 5, h => absurd h (by simp only [List.length]; omega)) hf
  obtain ⟨hT, hS⟩ := of_laid hL
  clear hA0 hval0
  refine (walk a0 a1 len1 cap1 X1 W w0 w1 z1 hT hS).mono fun e W' ⟨he, bel⟩ => ?_
  subst he
  exact ⟨_, rfl, _, _, _, [], _, [], hW', trodAll_mk1 (shut_bool Tryd.underlying4 _), (trodAll_cons_mk (shut_int Tryd.underlying3 w0) (trodAll_cons_mk (Below.trod laidOut (by kernel_rfl) (of_decide_eq_true (by kernel_rfl)) k1 bel lt1) trodAll_mk0)), rfl, bel.frame _, fun h => by cases h⟩

theorem over : Rows.TimerPlaysSaid :=
  OpenClaim.holds_of_wide 3 Tryd.f3 rfl rfl rfl rfl rfl rfl rfl ⟨rfl, rfl, rfl, rfl, rfl⟩ rfl rfl rfl rfl rfl (by kernel_rfl) Tryd.func3 (by kernel_rfl)
    (of_decide_eq_true (by kernel_rfl)) (by unfold Func.isWrapper; first | (rw [if_pos (by decide +kernel)]; kernel_rfl) | (rw [if_neg (by decide +kernel)]; exact ⟨rfl, rfl⟩))
    (fun os started H enc _ => lifted os started H enc)
end Go.Proofs.YtadaghhgmflfdaaDoor.timerPlays

namespace Go.Proofs.YtadaghhgmflfdaaDoor
open Go
theorem timerPlays_card : Rows.TimerPlaysCardSaid :=
  Claim7.holds_tied_plain_at .later [] [.data] true (true, "8800100689924b8f49d9e6c3d6b5964cb4232e9978bd6e69b03e23ab13fd8e01") false
    timerPlays.over (fun _ h => by cases h) (by kernel_rfl) (fun _ h => by cases h) timerPlays_row_tie rfl ⟨rfl, rfl⟩ (by kernel_rfl) rfl
    (fun f fn hf hfn => by
      obtain rfl : f = 3 := Option.some.inj ((show Tryd.prog.funcNamed "davit/davitlaw14.TimerPlays" = some 3 by kernel_rfl).symm.trans hf) |>.symm
      obtain rfl : fn = Tryd.f3 := (Option.some.inj (Tryd.func3.symm.trans hfn)).symm
      exact ⟨by kernel_rfl, fun j t ht => by
        rw [Tryd.params3] at ht
        have hm : t ∈ [3, 22] := by simpa using Array.mem_of_getElem? ht
        have hall : ([3, 22].all fun u => !Tryd.prog.wantsStandIn u) = true := by kernel_rfl
        exact (show Tryd.prog.wantsStandIn t = false by simpa using List.all_eq_true.1 hall t hm)⟩)
    (by kernel_rfl)
#print axioms timerPlays_card
end Go.Proofs.YtadaghhgmflfdaaDoor
