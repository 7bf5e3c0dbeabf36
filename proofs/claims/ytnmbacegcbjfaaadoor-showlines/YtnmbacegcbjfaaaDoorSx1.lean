/- Records as lines: what must come of fixed calls; the laws of lines as records. -/
import Derived.Test.YtnmbacegcbjfaaaDoorRows
import Derived.Test.YtnmbacegcbjfaaaDoorSw6
import Derived.Test.YtnmbacegcbjfaaaDoorSr2
import Derived.Deep.RegionHeld3
import Derived.WalkKit
import Derived.ProofKit
import Derived.OpenShut
import Derived.BigQuiet
import Derived.WalkSmall
import Derived.WalkSpells
namespace Go.Proofs.YtnmbacegcbjfaaaDoor
open Go.ChangeShapes Go.WideShapes Go.ChangeAt Go.RowKit
open Wd Mm
set_option linter.unusedVariables false
set_option linter.unusedSimpArgs false
set_option maxRecDepth 100000

open Sv

theorem kn1 : rl ⟨7, 1, 0, 0, 11⟩ = [104, 111, 116, 32, 99, 49, 32, 101, 49, 49] := by decide +kernel
theorem kn2 : rl ⟨3, 2, 5, 0, 0⟩ = [102, 105, 114, 101, 32, 99, 50, 32, 105, 53] := by decide +kernel
theorem kn3 : cps 37 = [48, 44, 50, 44, 53] := by decide +kernel
theorem knw (k c i n y : Nat) (h : k < 100 ∧ c < 100 ∧ i < 100 ∧ n < 100 ∧ y < 100) : Sv.R.wf ⟨k, c, i, n, y⟩ := by
  refine ⟨?_, ?_, ?_, ?_, ?_⟩ <;> (unfold inR; simp only; omega)

set_option maxHeartbeats 4000000 in
theorem known_yes (w : World) (g : GW w) : Calls Tryd.prog 6 #[] w fun e w' => e = .returned (.bool true) ∧ Below w.heap.size w w' := by
  have C1 : Hid (∀ _ : Unit, Calls Tryd.prog 14 #[.string (sb [104, 111, 116, 32, 99, 49, 32, 101, 49, 49])] w fun e w' => e = .returned (.tuple #[.agg #[.int .i64 7, .int .i64 1, .int .i64 0, .int .i64 0, .int .i64 11], .int .i64 0]) ∧ Below w.heap.size w w') := fun _ => by
    have := back_any [104, 111, 116, 32, 99, 49, 32, 101, 49, 49] (by decide) w g
    rw [bkR_some (r := ⟨7, 1, 0, 0, 11⟩) ((bkp_iff _ _).2 ⟨knw 7 1 0 0 11 (by decide), by decide, kn1⟩)] at this
    exact this
  have C2 : Hid (∀ u, Below w.heap.size w u → Calls Tryd.prog 7 #[.agg #[.int .i64 3, .int .i64 2, .int .i64 5, .int .i64 0, .int .i64 0]] u fun e w' => e = .returned (.string (sb [102, 105, 114, 101, 32, 99, 50, 32, 105, 53])) ∧ Below u.heap.size u w') := fun u b => by
    have := line_any ⟨3, 2, 5, 0, 0⟩ (knw 3 2 5 0 0 (by decide)) u (g.below b)
    rw [kn2] at this
    exact this
  have C3 : Hid (∀ u, Below w.heap.size w u → Calls Tryd.prog 12 #[.int .u64 37] u fun e w' => e = .returned (.string (sb [48, 44, 50, 44, 53])) ∧ Below u.heap.size u w') := fun u b => by
    have := mask_any 37 u (g.below b) (by decide)
    rw [kn3] at this
    exact this
  clear g
  go_enter Tryd.func6, Tryd.ntmps6
  go_wp2_with fail
  refine (C1.out ()).mono ?_
  rintro e u1 ⟨rfl, b1⟩
  have B2 : Hid (Below w.heap.size w (u1.alloc (.cells #[.int .i64 7, .int .i64 1, .int .i64 0, .int .i64 0, .int .i64 11] 28))) := b1.alloc b1.size _
  have KB : Hid (Blk (u1.alloc (.cells #[.int .i64 7, .int .i64 1, .int .i64 0, .int .i64 0, .int .i64 11] 28)) u1.heap.size [.int .i64 7, .int .i64 1, .int .i64 0, .int .i64 0, .int .i64 11] 28) := Blk.new u1 _ _
  clear b1 C1
  go_wp2_with fail
  refine (C2.out _ B2.out).mono ?_
  rintro e u2 ⟨rfl, b2⟩
  have B3 : Hid (Below w.heap.size w u2) := B2.out.trans (b2.mono B2.out.size)
  have K2 : Blk u2 u1.heap.size [.int .i64 7, .int .i64 1, .int .i64 0, .int .i64 0, .int .i64 11] 28 := Blk.keep KB.out (Fr.of_below b2) (Blk.lt KB.out) (by simp)
  have k0 : u2.cell? ⟨u1.heap.size, 0, none⟩ = some (.int .i64 7) := K2.cell 0
  have k1 : u2.cell? ⟨u1.heap.size, 1, none⟩ = some (.int .i64 1) := K2.cell 1
  have k2 : u2.cell? ⟨u1.heap.size, 2, none⟩ = some (.int .i64 0) := K2.cell 2
  have k3 : u2.cell? ⟨u1.heap.size, 3, none⟩ = some (.int .i64 0) := K2.cell 3
  have k4 : u2.cell? ⟨u1.heap.size, 4, none⟩ = some (.int .i64 11) := K2.cell 4
  clear b2 C2 B2 KB K2
  go_wp2_with fail
  refine (C3.out _ B3.out).mono ?_
  rintro e u3 ⟨rfl, b3⟩
  go_wp2
  go_ret
  exact ⟨rfl, B3.out.trans (b3.mono B3.out.size)⟩

/-- What Back answers, in two parts. -/
theorem bk_two (s : List UInt8) : (∃ r, bkp s = some r ∧ r.wf ∧ isR r.k ∧ rl r = s ∧ bkR s = .tuple #[.agg (R.vals r).toArray, .int .i64 0]) ∨ (bkp s = none ∧ bkR s = .tuple #[.agg (R.vals R0).toArray, .int .i64 13]) := by
  cases h : bkp s with
  | none => exact Or.inr ⟨rfl, bkR_none h⟩
  | some r =>
    obtain ⟨h1, h2, h3⟩ := (bkp_iff _ _).1 h
    exact Or.inl ⟨r, rfl, h1, h2, h3, bkR_some h⟩

set_option maxHeartbeats 4000000 in
theorem backs_law (l : List UInt8) (w : World) (g : GW w) : Calls Tryd.prog 4 #[.string (sb l)] w fun e w' => e = .returned (.bool true) ∧ Below w.heap.size w w' := by
  have CK : Hid (∀ u, Below w.heap.size w u → _) := fun u b => known_yes u (g.below b)
  by_cases hl : 200 < l.length
  · have h1 : (200 : Int) < (l.length : Int) := by omega
    have B0 : Hid (Below w.heap.size w w) := Below.refl _ _
    clear g hl
    go_enter Tryd.func4, Tryd.ntmps4
    go_wp2_with fail
    refine (CK.out _ B0.out).mono ?_
    rintro e u1 ⟨rfl, b1⟩
    go_wp2
    go_ret
    exact ⟨rfl, b1⟩
  · have h1 : ¬ (200 : Int) < (l.length : Int) := by omega
    have h2 : decide ((200 : Int) < (l.length : Int)) = false := decide_eq_false h1
    have C1 : Hid (∀ _ : Unit, _) := fun _ => back_any l (by omega) w g
    have C2 : Hid (∀ u : World, _) := fun u => rrback_any l (by omega) u
    have RR : ∃ (r : Sv.R) (y : Int), bkR l = .tuple #[.agg (R.vals r).toArray, .int .i64 y] := by
      rcases bk_two l with ⟨r, _, _, _, _, h⟩ | ⟨_, h⟩
      · exact ⟨r, 0, h⟩
      · exact ⟨R0, 13, h⟩
    obtain ⟨r, y, hR⟩ := RR
    rw [hR] at C1 C2
    obtain ⟨k, c, i, n, z⟩ := r
    dsimp only [R.vals] at C1 C2
    clear g hR hl
    go_enter Tryd.func4, Tryd.ntmps4
    go_wp2_with fail
    refine (C1.out ()).mono ?_
    rintro e u1 ⟨rfl, b1⟩
    have KA : Hid (Blk (u1.alloc (.cells #[.int .i64 k, .int .i64 c, .int .i64 i, .int .i64 n, .int .i64 z] 28)) u1.heap.size [.int .i64 k, .int .i64 c, .int .i64 i, .int .i64 n, .int .i64 z] 28) := Blk.new u1 _ _
    have BA : Hid (Below w.heap.size w (u1.alloc (.cells #[.int .i64 k, .int .i64 c, .int .i64 i, .int .i64 n, .int .i64 z] 28))) := b1.alloc b1.size _
    clear b1 C1
    go_wp2_with fail
    refine (C2.out _).mono ?_
    rintro e u2 ⟨rfl, b2⟩
    have K2 : Blk u2 u1.heap.size [.int .i64 k, .int .i64 c, .int .i64 i, .int .i64 n, .int .i64 z] 28 := Blk.keep KA.out (Fr.of_below b2) (Blk.lt KA.out) (by simp)
    have K3 : Blk (u2.alloc (.cells #[.int .i64 k, .int .i64 c, .int .i64 i, .int .i64 n, .int .i64 z] 28)) u1.heap.size [.int .i64 k, .int .i64 c, .int .i64 i, .int .i64 n, .int .i64 z] 28 := K2.alloc _
    have K4 : Blk (u2.alloc (.cells #[.int .i64 k, .int .i64 c, .int .i64 i, .int .i64 n, .int .i64 z] 28)) u2.heap.size [.int .i64 k, .int .i64 c, .int .i64 i, .int .i64 n, .int .i64 z] 28 := Blk.new u2 _ _
    have BB : Hid (Below w.heap.size w (u2.alloc (.cells #[.int .i64 k, .int .i64 c, .int .i64 i, .int .i64 n, .int .i64 z] 28))) := (BA.out.trans (b2.mono BA.out.size)).alloc (Nat.le_trans BA.out.size b2.size) _
    have k0 := K3.cell 0
    have k1 := K3.cell 1
    have k2 := K3.cell 2
    have k3 := K3.cell 3
    have k4 := K3.cell 4
    have m0 := K4.cell 0
    have m1 := K4.cell 1
    have m2 := K4.cell 2
    have m3 := K4.cell 3
    have m4 := K4.cell 4
    simp only [List.getElem?_cons_zero, List.getElem?_cons_succ] at k0 k1 k2 k3 k4 m0 m1 m2 m3 m4
    clear b2 C2 KA BA K2 K3 K4
    go_wp2_with fail
    refine (CK.out _ BB.out).mono ?_
    rintro e u3 ⟨rfl, b3⟩
    go_wp2
    go_ret
    exact ⟨rfl, BB.out.trans (b3.mono BB.out.size)⟩
end Go.Proofs.YtnmbacegcbjfaaaDoor
