/- Events as lines: the law of lines. -/
import Derived.Test.YtcifjdnmnmmhoaaDoorWd18
import Derived.Test.YtcifjdnmnmmhoaaDoorWd19
import Derived.Test.YtcifjdnmnmmhoaaDoorWd20
namespace Go.Proofs.YtcifjdnmnmmhoaaDoor
open Go.ChangeShapes Go.WideShapes Go.ChangeAt Go.RowKit
open Wd
set_option linter.unusedVariables false
set_option linter.unusedSimpArgs false
set_option maxRecDepth 100000

set_option maxHeartbeats 4000000 in
theorem lines_law (e : V) (he : e.wf) (k : Int) (w : World) (g : GW w) :
    Calls Tryd.prog 3 #[.agg (V.vals e).toArray, .int .i64 k] w fun r w' => r = .returned (.bool true) ∧ Below w.heap.size w w' := by
  have CL : Hid (∀ u, Below w.heap.size w u → _) := fun u b => line_any e he u (g.below b)
  have CR : Hid (∀ u, _) := fun u => rline_any e he u
  have CN : Hid (∀ u, Below w.heap.size w u → _) := fun u b => name_any k u (g.below b)
  have CM : Hid (∀ u, _) := fun u => rname_any k u
  have CK : Hid (∀ u, Below w.heap.size w u → _) := fun u b => known_yes u (g.below b)
  have BA : Hid (Below w.heap.size w (w.alloc (.cells (V.vals e).toArray 24))) := (Below.refl _ _).alloc (Nat.le_refl _) _
  have KA : Hid (Blk (w.alloc (.cells (V.vals e).toArray 24)) w.heap.size (V.vals e) 24) := Blk.new w _ _
  obtain ⟨R, hR⟩ : ∃ R, lineR e = R := ⟨_, rfl⟩
  have CASE : (∃ l, l.length ≤ 300 ∧ parR l = .tuple #[.agg (V.vals e).toArray, .int .i64 0] ∧ R = .tuple #[.string (sb l), .int .i64 0]) ∨ R = .tuple #[.string (sb []), .int .i64 2] := by
    cases hl : lineOf e with
    | none => exact Or.inr (by rw [← hR]; unfold lineR; rw [hl])
    | some l =>
      have h3 := (line_len e he l hl).1
      refine Or.inl ⟨l, h3, ?_, by rw [← hR]; unfold lineR; rw [hl]⟩
      unfold parR
      rw [if_neg (by omega), (evOf_iff l e).2 ⟨he, hl⟩]
  have CP : Hid (∀ l u, Below w.heap.size w u → _) := fun l u b => parse_any l u (g.below b)
  rw [hR] at CL CR
  generalize nmI k = s at *
  clear hR he g
  dsimp only [V.vals] at CL CR BA KA CP CASE ⊢
  rcases CASE with ⟨l, h3, hp, rfl⟩ | rfl
  · have CP1 : Hid (∀ u, Below w.heap.size w u → Calls Tryd.prog 12 #[.string (sb l)] u fun r w' => r = .returned (.tuple #[.agg #[.int .i64 e.k, .int .i64 e.c, .int .i64 e.i, .int .u64 ((e.m : Nat) : Int), .int .i64 e.n], .int .i64 0]) ∧ Below u.heap.size u w') := fun u b => by
      have := CP.out l u b
      rw [hp] at this
      exact this
    have h4 : decide ((l.length : Int) > 300) = false := decide_eq_false (by omega)
    clear CP hp h3
    go_enter Tryd.func3, Tryd.ntmps3
    go_wp2_with fail
    refine (CL.out _ BA.out).mono ?_
    rintro r u1 ⟨rfl, b1⟩
    have K1 : Blk u1 w.heap.size (V.vals e) 24 := Blk.keep KA.out (Fr.of_below b1) (Blk.lt KA.out) (by simp)
    have B1 : Hid (Below w.heap.size w u1) := BA.out.trans (b1.mono BA.out.size)
    have a0 : u1.cell? ⟨w.heap.size, 0, none⟩ = some (.int .i64 e.k) := K1.cell 0
    have a1 : u1.cell? ⟨w.heap.size, 1, none⟩ = some (.int .i64 e.c) := K1.cell 1
    have a2 : u1.cell? ⟨w.heap.size, 2, none⟩ = some (.int .i64 e.i) := K1.cell 2
    have a3 : u1.cell? ⟨w.heap.size, 3, none⟩ = some (.int .u64 ((e.m : Nat) : Int)) := K1.cell 3
    have a4 : u1.cell? ⟨w.heap.size, 4, none⟩ = some (.int .i64 e.n) := K1.cell 4
    have KB : Hid (Blk u1 w.heap.size (V.vals e) 24) := K1
    clear b1 CL K1 KA BA
    go_wp2_with fail
    refine (CR.out _).mono ?_
    rintro r u2 ⟨rfl, b2⟩
    have K2 : Hid (Blk u2 w.heap.size (V.vals e) 24) := Blk.keep KB.out (Fr.of_below b2) (Blk.lt KB.out) (by simp)
    have B2 : Hid (Below w.heap.size w u2) := B1.out.trans (b2.mono B1.out.size)
    clear b2 B1 KB CR a0 a1 a2 a3 a4
    go_wp2_with fail
    refine (CN.out _ B2.out).mono ?_
    rintro r u3 ⟨rfl, rfl⟩
    clear CN
    go_wp2_with fail
    refine (CM.out _).mono ?_
    rintro r u3 ⟨rfl, b3⟩
    have K3 : Hid (Blk u3 w.heap.size (V.vals e) 24) := Blk.keep K2.out (Fr.of_below b3) (Blk.lt K2.out) (by simp)
    have B3 : Hid (Below w.heap.size w u3) := B2.out.trans (b3.mono B2.out.size)
    clear b3 B2 K2 CM
    go_wp2_with fail
    refine (CP1.out _ B3.out).mono ?_
    rintro r u4 ⟨rfl, b4⟩
    have K4 : Blk (u4.alloc (.cells (V.vals e).toArray 24)) w.heap.size (V.vals e) 24 := (Blk.keep K3.out (Fr.of_below b4) (Blk.lt K3.out) (by simp)).alloc _
    have L4 : Blk (u4.alloc (.cells (V.vals e).toArray 24)) u4.heap.size (V.vals e) 24 := Blk.new u4 _ _
    have B4 : Hid (Below w.heap.size w (u4.alloc (.cells (V.vals e).toArray 24))) := (B3.out.trans (b4.mono B3.out.size)).alloc (Nat.le_trans B3.out.size b4.size) _
    dsimp only [V.vals] at K4 L4 B4
    have a0 := K4.cell 0
    have a1 := K4.cell 1
    have a2 := K4.cell 2
    have a3 := K4.cell 3
    have a4 := K4.cell 4
    have c0 := L4.cell 0
    have c1 := L4.cell 1
    have c2 := L4.cell 2
    have c3 := L4.cell 3
    have c4 := L4.cell 4
    clear b4 B3 K3 CP1 K4 L4
    go_wp2_with fail
    refine (CK.out _ B4.out).mono ?_
    rintro r u5 ⟨rfl, b5⟩
    have B5 : Hid (Below w.heap.size w u5) := B4.out.trans (b5.mono B4.out.size)
    clear b5 B4 CK a0 a1 a2 a3 a4 c0 c1 c2 c3 c4
    go_wp2
    go_ret
    exact ⟨rfl, B5.out⟩
  · clear CP
    go_enter Tryd.func3, Tryd.ntmps3
    go_wp2_with fail
    refine (CL.out _ BA.out).mono ?_
    rintro r u1 ⟨rfl, b1⟩
    have K1 : Blk u1 w.heap.size (V.vals e) 24 := Blk.keep KA.out (Fr.of_below b1) (Blk.lt KA.out) (by simp)
    have B1 : Hid (Below w.heap.size w u1) := BA.out.trans (b1.mono BA.out.size)
    have a0 : u1.cell? ⟨w.heap.size, 0, none⟩ = some (.int .i64 e.k) := K1.cell 0
    have a1 : u1.cell? ⟨w.heap.size, 1, none⟩ = some (.int .i64 e.c) := K1.cell 1
    have a2 : u1.cell? ⟨w.heap.size, 2, none⟩ = some (.int .i64 e.i) := K1.cell 2
    have a3 : u1.cell? ⟨w.heap.size, 3, none⟩ = some (.int .u64 ((e.m : Nat) : Int)) := K1.cell 3
    have a4 : u1.cell? ⟨w.heap.size, 4, none⟩ = some (.int .i64 e.n) := K1.cell 4
    have KB : Hid (Blk u1 w.heap.size (V.vals e) 24) := K1
    clear b1 CL K1 KA BA
    go_wp2_with fail
    refine (CR.out _).mono ?_
    rintro r u2 ⟨rfl, b2⟩
    have K2 : Hid (Blk u2 w.heap.size (V.vals e) 24) := Blk.keep KB.out (Fr.of_below b2) (Blk.lt KB.out) (by simp)
    have B2 : Hid (Below w.heap.size w u2) := B1.out.trans (b2.mono B1.out.size)
    clear b2 B1 KB CR a0 a1 a2 a3 a4
    go_wp2_with fail
    refine (CN.out _ B2.out).mono ?_
    rintro r u3 ⟨rfl, rfl⟩
    clear CN
    go_wp2_with fail
    refine (CM.out _).mono ?_
    rintro r u3 ⟨rfl, b3⟩
    have K3 : Hid (Blk u3 w.heap.size (V.vals e) 24) := Blk.keep K2.out (Fr.of_below b3) (Blk.lt K2.out) (by simp)
    have B3 : Hid (Below w.heap.size w u3) := B2.out.trans (b3.mono B2.out.size)
    clear b3 B2 K2 CM
    go_wp2_with fail
    refine (CK.out _ B3.out).mono ?_
    rintro r u5 ⟨rfl, b5⟩
    have B5 : Hid (Below w.heap.size w u5) := B3.out.trans (b5.mono B3.out.size)
    clear b5 B3 K3 CK
    go_wp2
    go_ret
    exact ⟨rfl, B5.out⟩
end Go.Proofs.YtcifjdnmnmmhoaaDoor
