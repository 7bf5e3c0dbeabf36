/- Of the law's proof: the row's statement. -/
import Derived.Test.YtfipiifickdeiaaGreatDoorRows
import Derived.Test.YtfipiifickdeiaaGreatDoorTie
import Derived.Test.YtfipiifickdeiaaGreatDoorCards
import Derived.Test.YtfipiifickdeiaaGreatDoorZke
import Derived.Test.YtfipiifickdeiaaGreatDoorFp6
import Derived.WalkKit
import Derived.ProofKit
import Derived.OpenShut
import Derived.Stop.Joined
import Derived.ShutString
import Derived.ChangeOld
import Derived.Below
import Derived.Carry
import Derived.LaidMore
import Derived.SevenTiedAt
import Derived.Test.YtfipiifickdeiaaGreatDoorOcp
import Derived.Test.YtfipiifickdeiaaGreatDoorFra
import Derived.Test.YtfipiifickdeiaaGreatDoorFrc
namespace Go.Proofs.YtfipiifickdeiaaGreatDoor.fairPicks
open Go.ChangeShapes Go.WideShapes Go.ChangeAt Go.RowKit
open Krn
set_option linter.unusedVariables false
set_option linter.unusedSimpArgs false
theorem over : Rows.FairPicksSaid :=
  OpenClaim.holds_of_wide 3 Tryz.f3 rfl rfl rfl rfl rfl rfl rfl ⟨rfl, rfl, rfl, rfl, rfl⟩ rfl rfl rfl rfl rfl (by kernel_rfl) Tryz.func3 closed
    (of_decide_eq_true (by kernel_rfl)) (by unfold Func.isWrapper; first | (rw [if_pos (by decide +kernel)]; kernel_rfl) | (rw [if_neg (by decide +kernel)]; exact ⟨rfl, rfl⟩))
    (fun os started H enc _ => lifted os started H enc)
end Go.Proofs.YtfipiifickdeiaaGreatDoor.fairPicks
