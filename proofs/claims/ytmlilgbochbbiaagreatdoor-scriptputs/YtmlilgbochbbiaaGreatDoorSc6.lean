/- Scripts and traces: the trace of the script of law 31's fixed calls. -/
import Derived.Test.YtmlilgbochbbiaaGreatDoorSc1
import Derived.Test.YtmlilgbochbbiaaGreatDoorSc5
import Derived.BigQuiet
namespace Go.Proofs.YtmlilgbochbbiaaGreatDoor.Krn
open Go.ChangeShapes Go.WideShapes Go.ChangeAt Go.RowKit
open Mm
set_option linter.unusedVariables false
set_option linter.unusedSimpArgs false
set_option maxRecDepth 100000

/-- The record of a spawn, as a slice of one. -/
def One (w0 w : World) (nb : Nat) : Prop := (∀ i, i < 5 → w.cell? ⟨nb, i, none⟩ = (rc ⟨1, 0, 1, 0, 0⟩)[i]?) ∧ Below w0.heap.size w0 w ∧ nb < w.heap.size

set_option maxHeartbeats 4000000 in
theorem run_one (eb eo cap : Nat) (w : World) (T : Tab w) (hs : 1 ≤ w.heap.size) (heb : eb < w.heap.size)
    (x0 : w.cell? ⟨eb, eo, none⟩ = some (.int .i64 3)) (x1 : w.cell? ⟨eb, eo + 1, none⟩ = some (.int .i64 0)) (x2 : w.cell? ⟨eb, eo + 2, none⟩ = some (.int .i64 1)) (x3 : w.cell? ⟨eb, eo + 3, none⟩ = some (.int .u64 3)) (x4 : w.cell? ⟨eb, eo + 4, none⟩ = some (.int .i64 0)) :
    Calls Tryz.prog 17 #[.agg #[.int .i64 2, .slice (some ⟨eb, eo, none⟩) 1 cap]] w fun e w' => ∃ nb nc, e = .returned (.tuple #[.slice (some ⟨nb, 0, none⟩) 1 nc, .int .i64 0]) ∧ One w w' nb := by
  have KA : Hid (Blk (w.alloc (.cells #[.int .i64 2, .slice (some ⟨eb, eo, none⟩) 1 cap] 30)) w.heap.size [.int .i64 2, .slice (some ⟨eb, eo, none⟩) 1 cap] 30) := Blk.new w _ _
  have BA : Hid (Below w.heap.size w (w.alloc (.cells #[.int .i64 2, .slice (some ⟨eb, eo, none⟩) 1 cap] 30))) := (Below.refl _ _).alloc (Nat.le_refl _) _
  have CF : Hid (∀ w, _) := fun w => Scr.fits_any 2 (some ⟨eb, eo, none⟩) 1 cap w
  rw [show Scr.fx 2 1 = 0 by decide] at CF
  have CN : Hid (∀ u, Below w.heap.size w u → _) := fun u b => k_new 2 u (tab_keep T hs (Fr.of_below b) (by simp)) (Nat.le_trans hs b.size) (by decide) (by decide)
  have X : Hid (∀ u, Below w.heap.size w u → u.cell? ⟨eb, eo, none⟩ = some (.int .i64 3) ∧ u.cell? ⟨eb, eo + 1, none⟩ = some (.int .i64 0) ∧ u.cell? ⟨eb, eo + 2, none⟩ = some (.int .i64 1) ∧ u.cell? ⟨eb, eo + 3, none⟩ = some (.int .u64 3) ∧ u.cell? ⟨eb, eo + 4, none⟩ = some (.int .i64 0)) := fun u b =>
    ⟨(b.cell (p := ⟨eb, eo, none⟩) heb).trans x0, (b.cell (p := ⟨eb, eo + 1, none⟩) heb).trans x1, (b.cell (p := ⟨eb, eo + 2, none⟩) heb).trans x2, (b.cell (p := ⟨eb, eo + 3, none⟩) heb).trans x3, (b.cell (p := ⟨eb, eo + 4, none⟩) heb).trans x4⟩
  clear T hs heb x0 x1 x2 x3 x4
  go_enter Tryz.func17, Tryz.ntmps17
  go_wp2_with fail
  refine (CF.out _).mono ?_
  rintro e u ⟨rfl, bu⟩
  have K1 : Blk u w.heap.size [.int .i64 2, .slice (some ⟨eb, eo, none⟩) 1 cap] 30 := Blk.keep KA.out (Fr.of_below bu) (Blk.lt KA.out) (by simp)
  have KU : Hid (Blk u w.heap.size [.int .i64 2, .slice (some ⟨eb, eo, none⟩) 1 cap] 30) := K1
  have BU : Hid (Below w.heap.size w u) := BA.out.trans (bu.mono BA.out.size)
  have c0 : u.cell? ⟨w.heap.size, 0, none⟩ = some (.int .i64 2) := K1.cell 0
  clear bu K1 KA BA CF
  go_wp2_with fail
  refine (CN.out u BU.out).mono ?_
  rintro e w1 ⟨a, rfl, an, h1⟩
  have h2 := h1.new [.slice none 0 0] 62
  have H2 : Hid (KX u.heap.size u [(w1.heap.size, [.slice none 0 0], 62)] a 0 (new 2) (w1.alloc (.cells #[.slice none 0 0] 62))) := h2
  have B2 : Hid (Below w.heap.size w (w1.alloc (.cells #[.slice none 0 0] 62))) := BU.out.trans (h2.bel.mono BU.out.size)
  have K2 : Blk (w1.alloc (.cells #[.slice none 0 0] 62)) w.heap.size [.int .i64 2, .slice (some ⟨eb, eo, none⟩) 1 cap] 30 := KU.out.keep (Fr.of_below h2.bel) KU.out.lt (by simp)
  have c1 : (w1.alloc (.cells #[.slice none 0 0] 62)).cell? ⟨w.heap.size, 1, none⟩ = some (.slice (some ⟨eb, eo, none⟩) 1 cap) := K2.cell 1
  have AN : Hid (a.n = 2) := an
  have HZ : Hid (w.heap.size ≤ w1.heap.size) := by show _ ≤ _; exact (Nat.le_trans BU.out.size h1.bel.size)
  obtain ⟨z, hz⟩ : ∃ z, w1.heap.size = z := ⟨_, rfl⟩
  obtain ⟨W2, hW2⟩ : ∃ W2, w1.alloc (.cells #[.slice none 0 0] 62) = W2 := ⟨_, rfl⟩
  have EZ : Hid (w1.heap.size = z) := hz
  have EW : Hid (w1.alloc (.cells #[.slice none 0 0] 62) = W2) := hW2
  rw [hz] at H2 HZ
  rw [hW2] at H2 B2
  clear h1 h2 an K2 KU CN hz hW2
  go_wp2
  go_loopw [24] (fun i wr => (i = .int .i64 0 ∧ wr = w1.alloc (.cells #[.slice none 0 0] 62)) ∨ (i = .int .i64 1 ∧ ∃ nb nc, wr.cell? ⟨w1.heap.size, 0, none⟩ = some (.slice (some ⟨nb, 0, none⟩) 1 nc) ∧ Hid (One w wr nb))) (fun i _ => 1 - (intOf i).toNat)
  case atStart => exact Or.inl ⟨rfl, rfl⟩
  case round =>
    rcases hrel with ⟨rfl, rfl⟩ | ⟨rfl, nb, nc, hc, hO⟩
    · rw [EZ.out, EW.out]
      obtain ⟨y0, y1, y2, y3, y4⟩ := X.out W2 B2.out
      have h3 := H2.out.new [.int .i64 3, .int .i64 0, .int .i64 1, .int .u64 3, .int .i64 0] 50
      have C1 : Hid (∀ _ : Unit, _) := fun _ => k_Do3 (S := new 2) h3 (ec := 0) (ei := 1) (em := 3) (en := 0) ok31 (by decide)
      have e1 : (kdo 2 (new 2) ⟨3, 0, 1, 3, 0⟩).1 = [⟨1, 0, 1, 0, 0⟩] := kr31
      rw [AN.out, e1] at C1
      clear e1 h3 c1 c0 EW
      go_wp2_with fail
      refine (C1.out ()).mono ?_
      rintro e w4 ⟨v2, X2, rfl, h4, r2⟩
      rcases r2 with ⟨_, q, _⟩ | ⟨b2, r, rfl, q, rfl⟩
      · cases q
      cases q
      have kz : Blk w4 z [.slice none 0 0] 62 := h4.bx (z, [.slice none 0 0], 62) (by simp)
      have kb : Blk w4 b2 (rc ⟨1, 0, 1, 0, 0⟩) 52 := h4.bx (b2, rc ⟨1, 0, 1, 0, 0⟩, 52) (by simp)
      have CT : Hid (∀ _ : Unit, _) := fun _ => tell_one w4 kz kb
      have B4 : Hid (Below w.heap.size w w4) := BU.out.trans (h4.bel.mono BU.out.size)
      have KZ : Hid (Blk w4 z [.slice none 0 0] 62) := kz
      clear kz kb h4 C1
      go_wp2_with fail
      refine (CT.out ()).mono ?_
      rintro e w5 ⟨⟨y, rfl⟩, nb, nc, w6, rfl, b6, hnb, hc6⟩
      have hz6 : w6.cell? ⟨z, 0, none⟩ = some (.slice none 0 0) := (Blk.keep KZ.out (Fr.of_below b6) (Blk.lt KZ.out) (by simp)).cell 0
      have zlt := Blk.lt KZ.out
      have FC : Hid ((w6.setCell ⟨z, 0, none⟩ (.slice (some ⟨nb, 0, none⟩) 1 nc)).cell? ⟨z, 0, none⟩ = some (.slice (some ⟨nb, 0, none⟩) 1 nc)) := World.cell?_setCell_same _ _ _ hz6
      have FO : Hid (One w (w6.setCell ⟨z, 0, none⟩ (.slice (some ⟨nb, 0, none⟩) 1 nc)) nb) := by
        refine ⟨fun i hi => (World.cell?_setCell_other _ _ _ _ ?_).trans (hc6 i hi), (B4.out.trans (b6.mono B4.out.size)).setCell (p := ⟨z, 0, none⟩) HZ.out _, ?_⟩
        · intro h
          have := congrArg Addr.block h
          simp at this
          omega
        · have h0 : w6.cell? ⟨nb, 0, none⟩ = some (.int .i64 1) := hc6 0 (by omega)
          have := World.block_lt_of_cell? w6 _ h0
          simpa [World.setCell] using this
      clear hz6 zlt b6 hnb hc6 CT
      go_wp2
      go_roundw
      case rel => exact Or.inr ⟨by go_num, nb, nc, FC.out, FO.out⟩
      case measure => simp [intOf]
    · have HO : Hid (One w wr nb) := hO
      clear hO
      go_wp2
      go_ret2
      exact ⟨nb, nc, rfl, HO.out⟩
end Go.Proofs.YtmlilgbochbbiaaGreatDoor.Krn
