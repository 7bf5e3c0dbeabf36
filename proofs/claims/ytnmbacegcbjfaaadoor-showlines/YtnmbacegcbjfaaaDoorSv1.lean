/- Records as lines: a record as a value. -/
import Derived.Test.YtnmbacegcbjfaaaDoorWsb
import Derived.Test.YtnmbacegcbjfaaaDoorSv0
import Derived.WalkKit
import Derived.ProofKit
import Derived.OpenShut
import Derived.BigQuiet
import Derived.WalkSmall
import Derived.WalkSpells
namespace Go.Proofs.YtnmbacegcbjfaaaDoor
open Go.ChangeShapes Go.WideShapes Go.ChangeAt Go.RowKit
open Wd Mm
set_option linter.unusedVariables false
set_option linter.unusedSimpArgs false
set_option maxRecDepth 100000

open Sv
def R.vals (r : Sv.R) : List Value := [.int .i64 r.k, .int .i64 r.c, .int .i64 r.i, .int .i64 r.n, .int .i64 r.y]
abbrev rv (r : Sv.R) : List Value := R.vals r
def R0 : Sv.R := ⟨0, 0, 0, 0, 0⟩
/-- How a record lies. -/
def rlay : Lay Sv.R where
  n := 5
  f := R.vals
  z := R0
  len := fun _ => rfl
  one := fun x u hu => by
    simp only [R.vals, List.mem_cons, List.mem_nil_iff, or_false] at hu
    rcases hu with rfl | rfl | rfl | rfl | rfl <;> rfl
  pos := by omega
/-- What Back answers. -/
def bkR (s : List UInt8) : Value := match bkp s with
  | some r => .tuple #[.agg (R.vals r).toArray, .int .i64 0]
  | none => .tuple #[.agg (R.vals R0).toArray, .int .i64 13]
theorem bkR_some {s : List UInt8} {r : Sv.R} (h : bkp s = some r) : bkR s = .tuple #[.agg (R.vals r).toArray, .int .i64 0] := by
  unfold bkR
  rw [h]
theorem bkR_none {s : List UInt8} (h : bkp s = none) : bkR s = .tuple #[.agg (R.vals R0).toArray, .int .i64 13] := by
  unfold bkR
  rw [h]

theorem five {w : World} {a : Nat} {cs : List Value} {t : TypeId} (h : Blk w a cs t) (hl : cs.length = 5) (v0 v1 v2 v3 v4 : Value) : Blk (((((w.setCell ⟨a, 0, none⟩ v0).setCell ⟨a, 1, none⟩ v1).setCell ⟨a, 2, none⟩ v2).setCell ⟨a, 3, none⟩ v3).setCell ⟨a, 4, none⟩ v4) a [v0, v1, v2, v3, v4] t := by
  match cs, hl with
  | [_, _, _, _, _], _ => exact ((((h.set 0 v0).set 1 v1).set 2 v2).set 3 v3).set 4 v4
theorem fr5 {a w : World} {B : Nat} {S : List Nat} {g : Nat} (h : Fr B S a w) (hg : g ∈ S) (v0 v1 v2 v3 v4 : Value) : Fr B S a (((((w.setCell ⟨g, 0, none⟩ v0).setCell ⟨g, 1, none⟩ v1).setCell ⟨g, 2, none⟩ v2).setCell ⟨g, 3, none⟩ v3).setCell ⟨g, 4, none⟩ v4) :=
  ((((h.st g 0 v0 hg).st g 1 v1 hg).st g 2 v2 hg).st g 3 v3 hg).st g 4 v4 hg
end Go.Proofs.YtnmbacegcbjfaaaDoor
