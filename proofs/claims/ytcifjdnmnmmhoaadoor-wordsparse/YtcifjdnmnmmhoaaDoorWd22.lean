/- Events as lines: the law of readings of one line. -/
import Derived.Test.YtcifjdnmnmmhoaaDoorWd18
import Derived.Test.YtcifjdnmnmmhoaaDoorWd19
import Derived.Test.YtcifjdnmnmmhoaaDoorWd20
namespace Go.Proofs.YtcifjdnmnmmhoaaDoor
open Go.ChangeShapes Go.WideShapes Go.ChangeAt Go.RowKit
open Wd
set_option linter.unusedVariables false
set_option linter.unusedSimpArgs false
set_option maxRecDepth 100000

set_option maxHeartbeats 4000000 in
theorem parse_law (l : List UInt8) (w : World) (g : GW w) :
    Calls Tryd.prog 4 #[.string (sb l)] w fun r w' => r = .returned (.bool true) ∧ Below w.heap.size w w' := by
  have CK : Hid (∀ u, Below w.heap.size w u → _) := fun u b => known_yes u (g.below b)
  by_cases hl : 1000 < l.length
  · have h1 : decide ((l.length : Int) > 1000) = true := decide_eq_true (by omega)
    have h2 : (1000 : Int) < (l.length : Int) := by omega
    have BA : Hid (Below w.heap.size w w) := Below.refl _ _
    clear g hl
    go_enter Tryd.func4, Tryd.ntmps4
    go_wp2_with fail
    refine (CK.out _ BA.out).mono ?_
    rintro r u5 ⟨rfl, b5⟩
    have B5 : Hid (Below w.heap.size w u5) := b5
    clear b5 BA CK
    go_wp2
    go_ret
    exact ⟨rfl, B5.out⟩
  have CP : Hid (∀ _ : Unit, _) := fun _ => parse_any l w g
  have CR : Hid (∀ u, _) := fun u => rparse_any l (by omega) u
  have CN : Hid (∀ u, Below w.heap.size w u → _) := fun u b => kind_any l u (g.below b)
  have CM : Hid (∀ u, _) := fun u => rKind_any l u
  have CL : Hid (∀ e, V.wf e → ∀ u, Below w.heap.size w u → _) := fun e he u b => line_any e he u (g.below b)
  obtain ⟨e, c, CASE, hp⟩ : ∃ e c, ((c = 0 ∧ e.wf ∧ lineR e = .tuple #[.string (sb l), .int .i64 0]) ∨ c ≠ 0) ∧ parR l = .tuple #[.agg (V.vals e).toArray, .int .i64 c] := by
    unfold parR
    by_cases h3 : 300 < l.length
    · exact ⟨V.z, 15, Or.inr (by decide), if_pos h3⟩
    · rw [if_neg h3]
      cases he : evOf l with
      | none => exact ⟨V.z, 13, Or.inr (by decide), rfl⟩
      | some e =>
        have := (evOf_iff l e).1 he
        exact ⟨e, 0, Or.inl ⟨rfl, this.1, by unfold lineR; rw [this.2]⟩, rfl⟩
  rw [hp] at CP CR
  generalize kOf l = k at *
  have h1 : decide ((l.length : Int) > 1000) = false := decide_eq_false (by omega)
  have h2 : ¬ (1000 : Int) < (l.length : Int) := by omega
  clear hp g hl
  dsimp only [V.vals] at CP CR CL
  go_enter Tryd.func4, Tryd.ntmps4
  go_wp2_with fail
  refine (CP.out ()).mono ?_
  rintro r u1 ⟨rfl, b1⟩
  have K1 : Hid (Blk (u1.alloc (.cells (V.vals e).toArray 24)) u1.heap.size (V.vals e) 24) := Blk.new u1 _ _
  have B1 : Hid (Below w.heap.size w (u1.alloc (.cells (V.vals e).toArray 24))) := b1.alloc b1.size _
  dsimp only [V.vals] at K1 B1
  clear b1 CP
  go_wp2_with fail
  refine (CR.out _).mono ?_
  rintro r u2 ⟨rfl, b2⟩
  have K2 : Blk (u2.alloc (.cells (V.vals e).toArray 24)) u1.heap.size (V.vals e) 24 := (Blk.keep K1.out (Fr.of_below b2) (Blk.lt K1.out) (by simp)).alloc _
  have L2 : Blk (u2.alloc (.cells (V.vals e).toArray 24)) u2.heap.size (V.vals e) 24 := Blk.new u2 _ _
  have B2 : Hid (Below w.heap.size w (u2.alloc (.cells (V.vals e).toArray 24))) := (B1.out.trans (b2.mono B1.out.size)).alloc (Nat.le_trans B1.out.size b2.size) _
  have J2 : Hid (Blk (u2.alloc (.cells (V.vals e).toArray 24)) u1.heap.size (V.vals e) 24) := K2
  dsimp only [V.vals] at K2 L2 B2 J2
  have a0 := K2.cell 0
  have a1 := K2.cell 1
  have a2 := K2.cell 2
  have a3 := K2.cell 3
  have a4 := K2.cell 4
  have c0 := L2.cell 0
  have c1 := L2.cell 1
  have c2 := L2.cell 2
  have c3 := L2.cell 3
  have c4 := L2.cell 4
  clear b2 B1 K1 CR K2 L2
  go_wp2_with fail
  refine (CN.out _ B2.out).mono ?_
  rintro r u3 ⟨rfl, rfl⟩
  clear CN a0 a1 a2 a3 a4 c0 c1 c2 c3 c4
  go_wp2_with fail
  refine (CM.out _).mono ?_
  rintro r u3 ⟨rfl, b3⟩
  have K3 : Blk u3 u1.heap.size (V.vals e) 24 := Blk.keep J2.out (Fr.of_below b3) (Blk.lt J2.out) (by simp)
  have B3 : Hid (Below w.heap.size w u3) := B2.out.trans (b3.mono B2.out.size)
  dsimp only [V.vals] at K3
  have a0 := K3.cell 0
  have a1 := K3.cell 1
  have a2 := K3.cell 2
  have a3 := K3.cell 3
  have a4 := K3.cell 4
  clear b3 B2 K3 J2 CM
  rcases CASE with ⟨rfl, he, hr⟩ | hc
  · have CL1 : Hid (∀ u, Below w.heap.size w u → Calls Tryd.prog 7 #[.agg #[.int .i64 e.k, .int .i64 e.c, .int .i64 e.i, .int .u64 ((e.m : Nat) : Int), .int .i64 e.n]] u fun r w' => r = .returned (.tuple #[.string (sb l), .int .i64 0]) ∧ Below u.heap.size u w') := fun u b => by
      have := CL.out e he u b
      rw [hr] at this
      exact this
    clear CL he hr
    go_wp2_with fail
    refine (CL1.out _ B3.out).mono ?_
    rintro r u4 ⟨rfl, b4⟩
    have B4 : Hid (Below w.heap.size w u4) := B3.out.trans (b4.mono B3.out.size)
    clear b4 B3 CL1 a0 a1 a2 a3 a4
    go_wp2_with fail
    refine (CK.out _ B4.out).mono ?_
    rintro r u5 ⟨rfl, b5⟩
    have B5 : Hid (Below w.heap.size w u5) := B4.out.trans (b5.mono B4.out.size)
    clear b5 B4 CK
    go_wp2
    go_ret
    exact ⟨rfl, B5.out⟩
  · have hc2 : (c == 0) = false := by simpa using hc
    have hc3 : (c != 0) = true := by simpa using hc
    clear CL a0 a1 a2 a3 a4
    go_wp2_with fail
    refine (CK.out _ B3.out).mono ?_
    rintro r u5 ⟨rfl, b5⟩
    have B5 : Hid (Below w.heap.size w u5) := B3.out.trans (b5.mono B3.out.size)
    clear b5 B3 CK
    go_wp2
    go_ret
    exact ⟨rfl, B5.out⟩
end Go.Proofs.YtcifjdnmnmmhoaaDoor
