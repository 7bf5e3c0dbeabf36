/- Records as lines: the law of lists of records, and of masks. -/
import Derived.Test.YtnmbacegcbjfaaaDoorRows
import Derived.Test.YtnmbacegcbjfaaaDoorSx1
import Derived.Test.YtnmbacegcbjfaaaDoorSr3
import Derived.Test.YtnmbacegcbjfaaaDoorWsc
import Derived.Deep.RegionHeld3
import Derived.WalkKit
import Derived.ProofKit
import Derived.OpenShut
import Derived.BigQuiet
import Derived.WalkSmall
import Derived.WalkSpells
namespace Go.Proofs.YtnmbacegcbjfaaaDoor
open Go.ChangeShapes Go.WideShapes Go.ChangeAt Go.RowKit
open Wd Mm
set_option linter.unusedVariables false
set_option linter.unusedSimpArgs false
set_option maxRecDepth 100000

open Sv


set_option maxHeartbeats 8000000 in
theorem lines_law (Y : List Sv.R) (hw : ∀ r ∈ Y, r.wf) (a : Option Addr) (n cap : Nat) (m : Nat) (hm : m < 18446744073709551616) (w : World) (g : GW w) (hr : LRow rlay w (.slice a n cap) Y) (hn : Y.length = n) :
    Calls Tryd.prog 3 #[.slice a n cap, .int .u64 m] w fun e w' => e = .returned (.bool true) ∧ Below w.heap.size w w' := by
  have CK : Hid (∀ u, Below w.heap.size w u → _) := fun u b => known_yes u (g.below b)
  by_cases hl : 700 < n
  · have h1 : (700 : Int) < (n : Int) := by omega
    have B0 : Hid (Below w.heap.size w w) := Below.refl _ _
    clear g hl hr hn hw hm
    go_enter Tryd.func3, Tryd.ntmps3
    go_wp2_with fail
    refine (CK.out _ B0.out).mono ?_
    rintro e u1 ⟨rfl, b1⟩
    go_wp2
    go_ret
    exact ⟨rfl, b1⟩
  · have h1 : ¬ (700 : Int) < (n : Int) := by omega
    have h2 : decide ((700 : Int) < (n : Int)) = false := decide_eq_false h1
    have hn7 : (n : Int) ≤ 700 := by omega
    have HR : Hid (LRow rlay w (.slice a n cap) Y) := hr
    have HN : Hid (Y.length = n) := hn
    have HW : Hid (∀ r ∈ Y, r.wf) := hw
    have HG : Hid (GW w) := g
    have B0 : Hid (Below w.heap.size w w) := Below.refl _ _
    have C1 : Hid (∀ u, Below w.heap.size w u → _) := fun u b => lines_any Y hw a n cap u (g.below b) (hr.below b) hn (by omega)
    have C2 : Hid (∀ u, Below w.heap.size w u → _) := fun u b => rrlines_any Y hw a n cap u (hr.below b) hn (by omega)
    have C3 : Hid (∀ u x y, ORow str u x (Y.map rl) → ORow str u y (Y.map rl) → _) := fun u x y h1 h2 => rrsame_any (Y.map rl) x y u (by rw [List.length_map]; omega) h1 h2
    have C4 : Hid (∀ u, Below w.heap.size w u → _) := fun u b => mask_any m u (g.below b) hm
    have C5 : Hid (∀ u : World, _) := fun u => rcpus_any m u hm
    have HZ : Hid ((Y.map rl).length = n) := by show _ = _; rw [List.length_map]; exact hn
    generalize Y.map rl = Z at *
    clear g hl hr hn hw hm
    go_enter Tryd.func3, Tryd.ntmps3
    go_wp2
    go_loopw [5] (fun i wr => ∃ k : Nat, (k : Int) ≤ n ∧ i = .int .i64 k ∧ Hid (Below w.heap.size w wr)) (fun i _ => n - (intOf i).toNat)
    case atStart => exact ⟨0, by omega, rfl, B0⟩
    case round =>
      obtain ⟨k, hk, rfl, B⟩ := hrel
      by_cases h : (k : Int) < n ∧ (k : Int) < 20
      · obtain ⟨hA1, hA2⟩ := h
        have hkE : k < Y.length := by rw [HN.out]; omega
        obtain ⟨b0, off, rfl, hlt, hA⟩ := lrow_cell HR.out hkE
        have hE : Y.getD k rlay.z = Y[k] := by rw [List.getD_eq_getElem?_getD, List.getElem?_eq_getElem hkE]; rfl
        rw [hE] at hA
        have HEw := HW.out Y[k] (List.getElem_mem hkE)
        have HC : Hid (∀ v, Below w.heap.size w v → ∀ j, j < 5 → v.cell? ⟨b0, off + k * 5 + j, none⟩ = (R.vals Y[k])[j]?) := fun v b j hj => ((Fr.of_below b).cell (p := ⟨b0, off + k * 5 + j, none⟩) hlt (by simp)).trans (hA j hj)
        generalize Y[k] = E at *
        have CA : Hid (∀ v, Below w.heap.size w v → _) := fun v b => (line_any E HEw v (HG.out.below b)).mono (fun e w' h => (⟨h.1, b.trans (h.2.mono b.size)⟩ : e = .returned (.string (sb (rl E))) ∧ Below w.heap.size w w'))
        have CB : Hid (∀ v, Below w.heap.size w v → _) := fun v b => (rrline_any E HEw v).mono (fun e w' h => (⟨h.1, b.trans (h.2.mono b.size)⟩ : e = .returned (.string (sb (rl E))) ∧ Below w.heap.size w w'))
        generalize rl E = L1 at *
        obtain ⟨k2, c2, i2, n2, y2⟩ := E
        dsimp only [R.vals] at CA CB HC
        have BW : Hid (Below w.heap.size w wr) := B
        have x0 : wr.cell? ⟨b0, off + k * 5, none⟩ = some (.int .i64 k2) := HC.out wr B.out 0 (by decide)
        have x1 : wr.cell? ⟨b0, off + k * 5 + 1, none⟩ = some (.int .i64 c2) := HC.out wr B.out 1 (by decide)
        have x2 : wr.cell? ⟨b0, off + k * 5 + 2, none⟩ = some (.int .i64 i2) := HC.out wr B.out 2 (by decide)
        have x3 : wr.cell? ⟨b0, off + k * 5 + 3, none⟩ = some (.int .i64 n2) := HC.out wr B.out 3 (by decide)
        have x4 : wr.cell? ⟨b0, off + k * 5 + 4, none⟩ = some (.int .i64 y2) := HC.out wr B.out 4 (by decide)
        clear hA hE HEw hkE hlt B C1 C2 C3 C4 C5 CK
        go_wp2
        go_region_held3 (fun w' => w'.cell? ⟨b0, off + k * 5, none⟩ = some (.int .i64 k2) ∧ w'.cell? ⟨b0, off + k * 5 + 1, none⟩ = some (.int .i64 c2) ∧ w'.cell? ⟨b0, off + k * 5 + 2, none⟩ = some (.int .i64 i2) ∧ w'.cell? ⟨b0, off + k * 5 + 3, none⟩ = some (.int .i64 n2) ∧ w'.cell? ⟨b0, off + k * 5 + 4, none⟩ = some (.int .i64 y2)) (go_keep)
          (first | (go_at_call 7; refine (CA.out _ ?_).mono ?_; (exact ⟨BW.out.os, BW.out.tape, BW.out.output, BW.out.size, BW.out.block⟩); rintro e v1 ⟨rfl, b1⟩; have y0 : v1.cell? ⟨b0, off + k * 5, none⟩ = some (.int .i64 k2) := HC.out v1 b1 0 (by decide); have y1 : v1.cell? ⟨b0, off + k * 5 + 1, none⟩ = some (.int .i64 c2) := HC.out v1 b1 1 (by decide); have y2' : v1.cell? ⟨b0, off + k * 5 + 2, none⟩ = some (.int .i64 i2) := HC.out v1 b1 2 (by decide); have y3 : v1.cell? ⟨b0, off + k * 5 + 3, none⟩ = some (.int .i64 n2) := HC.out v1 b1 3 (by decide); have y4 : v1.cell? ⟨b0, off + k * 5 + 4, none⟩ = some (.int .i64 y2) := HC.out v1 b1 4 (by decide)) | (go_at_call 8; refine (CB.out _ ?_).mono ?_; (exact ⟨b1.os, b1.tape, b1.output, b1.size, b1.block⟩); rintro e v2 ⟨rfl, b2⟩; have z0 : v2.cell? ⟨b0, off + k * 5, none⟩ = some (.int .i64 k2) := HC.out v2 b2 0 (by decide); have z1 : v2.cell? ⟨b0, off + k * 5 + 1, none⟩ = some (.int .i64 c2) := HC.out v2 b2 1 (by decide); have z2 : v2.cell? ⟨b0, off + k * 5 + 2, none⟩ = some (.int .i64 i2) := HC.out v2 b2 2 (by decide); have z3 : v2.cell? ⟨b0, off + k * 5 + 3, none⟩ = some (.int .i64 n2) := HC.out v2 b2 3 (by decide); have z4 : v2.cell? ⟨b0, off + k * 5 + 4, none⟩ = some (.int .i64 y2) := HC.out v2 b2 4 (by decide)))
        have B2 : Hid (Below w.heap.size w v2) := b2
        clear b1 b2 x0 x1 x2 x3 x4 y0 y1 y2' y3 y4 z0 z1 z2 z3 z4 CA CB
        go_wp2
        go_roundw
        case rel => exact ⟨k + 1, by omega, by go_num, B2⟩
        case measure => simp [intOf]; omega
      · have GD : ¬ (k : Int) < n ∨ ((k : Int) < n ∧ ¬ (k : Int) < 20) := by
          by_cases h5 : (k : Int) < n
          · exact Or.inr ⟨h5, fun h6 => h ⟨h5, h6⟩⟩
          · exact Or.inl h5
        have BW : Hid (Below w.heap.size w wr) := B
        clear h B
        rcases GD with h5 | ⟨h5, h6⟩
        · have h7 : decide ((k : Int) < n) = false := decide_eq_false h5
          go_wp2_with fail
          refine (C1.out _ BW.out).mono ?_
          rintro e u1 ⟨v1, rfl, O1⟩
          have B1 : Hid (Below w.heap.size w u1) := BW.out.trans (O1.bel.mono BW.out.size)
          have R1 : Hid (ORow str u1 v1 Z) := O1.row
          obtain ⟨a1, c1, rfl⟩ := O1.shape
          rw [HZ.out] at R1 ⊢
          clear O1
          go_wp2_with fail
          refine (C2.out _ B1.out).mono ?_
          rintro e u2 ⟨v2, rfl, O2⟩
          have B2 : Hid (Below w.heap.size w u2) := B1.out.trans (O2.bel.mono B1.out.size)
          have R2 : Hid (ORow str u2 v2 Z) := O2.row
          have R3 : Hid (ORow str u2 (.slice a1 n c1) Z) := R1.out.below O2.bel
          obtain ⟨a2, c2, rfl⟩ := O2.shape
          rw [HZ.out] at R2 ⊢
          clear O2 R1 B1
          go_wp2_with fail
          refine (C3.out _ _ _ R3.out R2.out).mono ?_
          rintro e u3 ⟨rfl, s3⟩
          have B3 : Hid (Below w.heap.size w u3) := s3.below B2.out
          clear s3 R2 R3 B2
          go_wp2_with fail
          refine (C4.out _ B3.out).mono ?_
          rintro e u4 ⟨rfl, b4⟩
          have B4 : Hid (Below w.heap.size w u4) := B3.out.trans (b4.mono B3.out.size)
          clear b4 B3
          go_wp2_with fail
          refine (C5.out _).mono ?_
          rintro e u5 ⟨rfl, b5⟩
          have B5 : Hid (Below w.heap.size w u5) := B4.out.trans (b5.mono B4.out.size)
          clear b5 B4
          go_wp2_with fail
          refine (CK.out _ B5.out).mono ?_
          rintro e u6 ⟨rfl, b6⟩
          go_wp2
          go_ret
          exact ⟨rfl, B5.out.trans (b6.mono B5.out.size)⟩
        · have h7 : decide ((k : Int) < 20) = false := decide_eq_false h6
          go_wp2_with fail
          refine (C1.out _ BW.out).mono ?_
          rintro e u1 ⟨v1, rfl, O1⟩
          have B1 : Hid (Below w.heap.size w u1) := BW.out.trans (O1.bel.mono BW.out.size)
          have R1 : Hid (ORow str u1 v1 Z) := O1.row
          obtain ⟨a1, c1, rfl⟩ := O1.shape
          rw [HZ.out] at R1 ⊢
          clear O1
          go_wp2_with fail
          refine (C2.out _ B1.out).mono ?_
          rintro e u2 ⟨v2, rfl, O2⟩
          have B2 : Hid (Below w.heap.size w u2) := B1.out.trans (O2.bel.mono B1.out.size)
          have R2 : Hid (ORow str u2 v2 Z) := O2.row
          have R3 : Hid (ORow str u2 (.slice a1 n c1) Z) := R1.out.below O2.bel
          obtain ⟨a2, c2, rfl⟩ := O2.shape
          rw [HZ.out] at R2 ⊢
          clear O2 R1 B1
          go_wp2_with fail
          refine (C3.out _ _ _ R3.out R2.out).mono ?_
          rintro e u3 ⟨rfl, s3⟩
          have B3 : Hid (Below w.heap.size w u3) := s3.below B2.out
          clear s3 R2 R3 B2
          go_wp2_with fail
          refine (C4.out _ B3.out).mono ?_
          rintro e u4 ⟨rfl, b4⟩
          have B4 : Hid (Below w.heap.size w u4) := B3.out.trans (b4.mono B3.out.size)
          clear b4 B3
          go_wp2_with fail
          refine (C5.out _).mono ?_
          rintro e u5 ⟨rfl, b5⟩
          have B5 : Hid (Below w.heap.size w u5) := B4.out.trans (b5.mono B4.out.size)
          clear b5 B4
          go_wp2_with fail
          refine (CK.out _ B5.out).mono ?_
          rintro e u6 ⟨rfl, b6⟩
          go_wp2
          go_ret
          exact ⟨rfl, B5.out.trans (b6.mono B5.out.size)⟩
end Go.Proofs.YtnmbacegcbjfaaaDoor
