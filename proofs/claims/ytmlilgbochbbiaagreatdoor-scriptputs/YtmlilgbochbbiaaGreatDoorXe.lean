/- The texts Aa Ft Ia Ib of one layer, laid together. -/
import Derived.Test.YtmlilgbochbbiaaGreatDoorRows
import Derived.Test.YtmlilgbochbbiaaGreatDoorXb
import Derived.WalkKit
import Derived.ProofKit
import Derived.OpenShut
import Derived.BigQuiet
import Derived.OwnWalk
import Derived.Deep.Slices
import Derived.Lib.SmallJoins
namespace Go.Proofs.YtmlilgbochbbiaaGreatDoor.Aff
open Go.ChangeShapes Go.WideShapes Go.ChangeAt Go.RowKit
open Mm
/-- The cores that one is chosen of. -/
def cS (a b : Nat) : Nat := if a &&& b = 0 then b else a &&& b
/-- The core that is chosen, whether it is forced, and the error. -/
def cN (a b : Nat) (c : Int) : Int := if b = 0 then 0 else if tb (cS a b) c = true then c else ((hd (nx (cS a b) c) : Nat) : Int)
def cF (a b : Nat) : Bool := if b = 0 then false else decide (a &&& b = 0)
def cE (b : Nat) : Int := if b = 0 then 12 else 0
theorem cS_lt {a b : Nat} (hb : b < 18446744073709551616) : cS a b < 18446744073709551616 := by
  unfold cS
  split
  · exact hb
  · exact and_lt hb
theorem cS_ne {a b : Nat} (hb : b ≠ 0) : cS a b ≠ 0 := by
  unfold cS
  split
  · exact hb
  · assumption
theorem many_zero : (ls 0).length = 0 := by rw [ls_zero]; rfl
theorem many_pos {a : Nat} (ha : a < 18446744073709551616) (h : a ≠ 0) : 0 < (ls a).length := by
  rcases Nat.eq_zero_or_pos (ls a).length with e | e
  · exact absurd (ls_nil a ha (List.eq_nil_of_length_eq_zero e)) h
  · exact e
theorem er_nx {m : Nat} {c : Int} (hm : m < 18446744073709551616) (h : m ≠ 0) : er (nx m c) = 0 := by
  apply if_neg
  unfold nx
  split
  · exact fun e => h (ls_nil m hm e)
  · assumption
set_option maxRecDepth 100000 in
set_option maxHeartbeats 1000000 in
theorem choose_any (a b : Nat) (c : Int) (w : World) (ha : a < 18446744073709551616) (hb : b < 18446744073709551616) (hc : -9223372036854775808 ≤ c) (ht : Tab w) :
    Calls Tryz.prog 266 #[.int .u64 (a : Int), .int .u64 (b : Int), .int .i64 c] w fun e w' => e = .returned (.tuple #[.int .i64 (cN a b c), .bool (cF a b), .int .i64 (cE b)]) ∧ w' = w := by
  by_cases h0 : b = 0
  · subst h0
    have M : Hid (∀ w, _) := fun w => kmany_any 0 w hb
    rw [many_zero] at M
    rw [show cN a 0 c = 0 from if_pos rfl, show cF a 0 = false from if_pos rfl, show cE 0 = 12 from if_pos rfl]
    clear ha hb hc ht
    go_enter Tryz.func266, Tryz.ntmps266
    go_wp2_with fail
    refine (M.out _).mono ?_
    rintro e w' ⟨rfl, rfl⟩
    go_wp2
    go_ret3
    exact ⟨rfl, rfl⟩
  · have HT : Hid (Tab w) := ht
    have M1 : Hid (∀ w, _) := fun w => kmany_any b w hb
    have M2 : Hid (∀ w, _) := fun w => kand_any a b w ha hb
    have M3 : Hid (∀ w, _) := fun w => kmany_any (a &&& b) w (and_lt hb)
    have M4 : Hid (∀ w, _) := fun w => khas_any (cS a b) c w (cS_lt hb)
    have M5 : Hid (∀ w, Tab w → _) := fun w ht => knext_any (cS a b) c w (cS_lt hb) hc ht
    rw [er_nx (cS_lt hb) (cS_ne h0)] at M5
    have p1 := many_pos hb h0
    have q1 : (((ls b).length : Int) == 0) = false := by rw [beq_eq_false_iff_ne]; omega
    have l1 := ls_le b
    rw [show cE b = 0 from if_neg h0]
    rcases Bool.eq_false_or_eq_true (tb (cS a b) c) with ht2 | ht2
    · rw [show cN a b c = c from (if_neg h0).trans (if_pos ht2)]
      rw [ht2] at M4
      by_cases h1 : a &&& b = 0
      · rw [show cF a b = true from (if_neg h0).trans (decide_eq_true h1)]
        rw [show cS a b = b from if_pos h1] at M4
        rw [h1, many_zero] at M3
        rw [h1] at M2
        generalize (ls b).length = n1 at *
        clear ha hb ht h0 ht2 h1 M5
        go_enter Tryz.func266, Tryz.ntmps266
        go_wp2_with fail
        refine (M1.out _).mono ?_
        rintro e w' ⟨rfl, rfl⟩
        go_wp2_with fail
        refine (M2.out _).mono ?_
        rintro e w' ⟨rfl, rfl⟩
        go_wp2_with fail
        refine (M3.out _).mono ?_
        rintro e w' ⟨rfl, rfl⟩
        go_wp2_with fail
        refine (M4.out _).mono ?_
        rintro e w' ⟨rfl, rfl⟩
        go_wp2
        go_ret3
        exact ⟨rfl, rfl⟩
      · rw [show cF a b = false from (if_neg h0).trans (decide_eq_false h1)]
        rw [show cS a b = a &&& b from if_neg h1] at M4
        have p2 := many_pos (and_lt hb) h1
        have q2 : (((ls (a &&& b)).length : Int) == 0) = false := by rw [beq_eq_false_iff_ne]; omega
        generalize (ls b).length = n1 at *
        generalize (ls (a &&& b)).length = n2 at *
        generalize a &&& b = P at *
        clear ha hb ht h0 ht2 h1 M5
        go_enter Tryz.func266, Tryz.ntmps266
        go_wp2_with fail
        refine (M1.out _).mono ?_
        rintro e w' ⟨rfl, rfl⟩
        go_wp2_with fail
        refine (M2.out _).mono ?_
        rintro e w' ⟨rfl, rfl⟩
        go_wp2_with fail
        refine (M3.out _).mono ?_
        rintro e w' ⟨rfl, rfl⟩
        go_wp2_with fail
        refine (M4.out _).mono ?_
        rintro e w' ⟨rfl, rfl⟩
        go_wp2
        go_ret3
        exact ⟨rfl, rfl⟩
    · rw [show cN a b c = ((hd (nx (cS a b) c) : Nat) : Int) from (if_neg h0).trans (if_neg (by rw [ht2]; simp))]
      rw [ht2] at M4
      generalize hd (nx (cS a b) c) = R at *
      by_cases h1 : a &&& b = 0
      · rw [show cF a b = true from (if_neg h0).trans (decide_eq_true h1)]
        rw [show cS a b = b from if_pos h1] at M4 M5
        rw [h1, many_zero] at M3
        rw [h1] at M2
        generalize (ls b).length = n1 at *
        clear ha hb ht h0 ht2 h1
        go_enter Tryz.func266, Tryz.ntmps266
        go_wp2_with fail
        refine (M1.out _).mono ?_
        rintro e w' ⟨rfl, rfl⟩
        go_wp2_with fail
        refine (M2.out _).mono ?_
        rintro e w' ⟨rfl, rfl⟩
        go_wp2_with fail
        refine (M3.out _).mono ?_
        rintro e w' ⟨rfl, rfl⟩
        go_wp2_with fail
        refine (M4.out _).mono ?_
        rintro e w' ⟨rfl, rfl⟩
        go_wp2_with fail
        refine (M5.out _ HT.out).mono ?_
        rintro e w' ⟨rfl, rfl⟩
        go_wp2
        go_ret3
        exact ⟨rfl, rfl⟩
      · rw [show cF a b = false from (if_neg h0).trans (decide_eq_false h1)]
        rw [show cS a b = a &&& b from if_neg h1] at M4 M5
        have p2 := many_pos (and_lt hb) h1
        have q2 : (((ls (a &&& b)).length : Int) == 0) = false := by rw [beq_eq_false_iff_ne]; omega
        generalize (ls b).length = n1 at *
        generalize (ls (a &&& b)).length = n2 at *
        generalize a &&& b = P at *
        clear ha hb ht h0 ht2 h1
        go_enter Tryz.func266, Tryz.ntmps266
        go_wp2_with fail
        refine (M1.out _).mono ?_
        rintro e w' ⟨rfl, rfl⟩
        go_wp2_with fail
        refine (M2.out _).mono ?_
        rintro e w' ⟨rfl, rfl⟩
        go_wp2_with fail
        refine (M3.out _).mono ?_
        rintro e w' ⟨rfl, rfl⟩
        go_wp2_with fail
        refine (M4.out _).mono ?_
        rintro e w' ⟨rfl, rfl⟩
        go_wp2_with fail
        refine (M5.out _ HT.out).mono ?_
        rintro e w' ⟨rfl, rfl⟩
        go_wp2
        go_ret3
        exact ⟨rfl, rfl⟩
end Go.Proofs.YtmlilgbochbbiaaGreatDoor.Aff
namespace Go.Proofs.YtmlilgbochbbiaaGreatDoor.Aff
open Go.ChangeShapes Go.WideShapes Go.ChangeAt Go.RowKit Go.Deep
end Go.Proofs.YtmlilgbochbbiaaGreatDoor.Aff
namespace Go.Proofs.YtmlilgbochbbiaaGreatDoor.Aff
open Go.ChangeShapes Go.WideShapes Go.ChangeAt Go.RowKit
open Mm
structure It where
  id : Int
  mask : Nat
  cpu : Int
  forced : Bool
def zi : It := ⟨0, 0, 0, false⟩
def i4 (x : It) : List Value := [.int .i64 x.id, .int .u64 (x.mask : Int), .int .i64 x.cpu, .bool x.forced]
/-- A slice of such things, as they lie in memory. -/
def IRow (w : World) (v : Value) (Y : List It) : Prop :=
  (Y = [] ∧ ∃ a cap, v = .slice a 0 cap) ∨ ∃ b off cap, v = .slice (some ⟨b, off, none⟩) Y.length cap ∧ b < w.heap.size ∧ ∀ i, i < Y.length → ∀ j, j < 4 → w.cell? ⟨b, off + i * 4 + j, none⟩ = (i4 (Y.getD i zi))[j]?
theorem IRow.below {w w' : World} {v : Value} {Y : List It} (h : IRow w v Y) (f : Below w.heap.size w w') : IRow w' v Y := by
  rcases h with h | ⟨b, off, cap, hv, hb, hc⟩
  · exact Or.inl h
  · exact Or.inr ⟨b, off, cap, hv, Nat.lt_of_lt_of_le hb f.size, fun i hi j hj => (f.cell (p := ⟨b, off + i * 4 + j, none⟩) hb).trans (hc i hi j hj)⟩
/- What the document says of them. -/
def wrg (b : Nat) (x : It) : Bool := !(tb b x.cpu) || (!(tb x.mask x.cpu) && decide (x.mask &&& b ≠ 0)) || (x.forced == tb x.mask x.cpu)
def rpr (b : Nat) (x : It) : It := ⟨x.id, x.mask, cN x.mask b x.cpu, cF x.mask b⟩
def mend (b : Nat) (Y : List It) : List It := if b = 0 then [] else (Y.filter (wrg b)).map (rpr b)
end Go.Proofs.YtmlilgbochbbiaaGreatDoor.Aff
namespace Go.Proofs.YtmlilgbochbbiaaGreatDoor.Aff
open Go.ChangeShapes Go.WideShapes Go.ChangeAt Go.RowKit
open Mm
end Go.Proofs.YtmlilgbochbbiaaGreatDoor.Aff
