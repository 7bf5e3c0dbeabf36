/- Scripts as bytes: the walk of ScriptPuts, of what came in. -/
import Derived.Test.YtmlilgbochbbiaaGreatDoorSch
import Derived.Test.YtmlilgbochbbiaaGreatDoorScf
namespace Go.Proofs.YtmlilgbochbbiaaGreatDoor.Scr
open Go.ChangeShapes Go.WideShapes Go.ChangeAt Go.RowKit
open Wir Wi0

theorem puts_walk (c0 : Int) (a0 : Option Addr) (len0 cap0 : Nat) (X0 : Nat → Nat → Int) (c1 : Int) (a1 : Option Addr) (len1 cap1 : Nat) (X1 : Nat → Nat → Int) (w : World)
    (_v0 : (Lit.int .i64 c0).wf = true) (w0 : TRow w (.slice a0 len0 cap0) len0 [1, 1, 1, 2, 1] X0) (z0 : ∀ i, i < len0 → ∀ j, j < [1, 1, 1, 2, 1].length → kwf ([1, 1, 1, 2, 1].getD j 1) (X0 i j))
    (_v1 : (Lit.int .i64 c1).wf = true) (w1 : TRow w (.slice a1 len1 cap1) len1 [1, 1, 1, 2, 1] X1) (_z1 : ∀ i, i < len1 → ∀ j, j < [1, 1, 1, 2, 1].length → kwf ([1, 1, 1, 2, 1].getD j 1) (X1 i j)) (T : Tab w) (hs : 0 < w.heap.size) :
    Calls Tryz.prog 3 #[.agg #[.int .i64 c0, .slice a0 len0 cap0], .agg #[.int .i64 c1, .slice a1 len1 cap1]] w fun e w' => e = .returned (.bool true) ∧ Below w.heap.size w w' :=
  puts_law c0 c1 _ _ a0 len0 cap0 a1 len1 cap1 w T hs (lrow_of_trow w0) (lrow_of_trow w1) (ok_of_trow z0) (by simp) (by simp)
end Go.Proofs.YtmlilgbochbbiaaGreatDoor.Scr
