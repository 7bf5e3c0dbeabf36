/- Of the law's proof: the row's statement. -/
import Derived.Test.YtmlilgbochbbiaaGreatDoorRows
import Derived.Test.YtmlilgbochbbiaaGreatDoorTie
import Derived.Test.YtmlilgbochbbiaaGreatDoorCards
import Derived.Test.YtmlilgbochbbiaaGreatDoorZke
import Derived.Test.YtmlilgbochbbiaaGreatDoorScp
import Derived.WalkKit
import Derived.ProofKit
import Derived.OpenShut
import Derived.Stop.Joined
import Derived.ShutString
import Derived.ChangeOld
import Derived.Below
import Derived.Carry
import Derived.LaidMore
import Derived.SevenTiedAt
import Derived.Test.YtmlilgbochbbiaaGreatDoorSpsa
import Derived.Test.YtmlilgbochbbiaaGreatDoorSpsc
namespace Go.Proofs.YtmlilgbochbbiaaGreatDoor.scriptPuts
open Go.ChangeShapes Go.WideShapes Go.ChangeAt Go.RowKit
open Wir Scr
set_option linter.unusedVariables false
set_option linter.unusedSimpArgs false
theorem over : Rows.ScriptPutsSaid :=
  OpenClaim.holds_of_wide 3 Tryz.f3 rfl rfl rfl rfl rfl rfl rfl ⟨rfl, rfl, rfl, rfl, rfl⟩ rfl rfl rfl rfl rfl (by kernel_rfl) Tryz.func3 closed
    (of_decide_eq_true (by kernel_rfl)) (by unfold Func.isWrapper; first | (rw [if_pos (by decide +kernel)]; kernel_rfl) | (rw [if_neg (by decide +kernel)]; exact ⟨rfl, rfl⟩))
    (fun os started H enc _ => lifted os started H enc)
end Go.Proofs.YtmlilgbochbbiaaGreatDoor.scriptPuts
