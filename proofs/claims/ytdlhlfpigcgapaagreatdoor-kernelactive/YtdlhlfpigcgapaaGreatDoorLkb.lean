/- Of the law's proof: the row's statement. -/
import Derived.Test.YtdlhlfpigcgapaaGreatDoorRows
import Derived.Test.YtdlhlfpigcgapaaGreatDoorTie
import Derived.Test.YtdlhlfpigcgapaaGreatDoorCards
import Derived.Test.YtdlhlfpigcgapaaGreatDoorAZke
import Derived.Test.YtdlhlfpigcgapaaGreatDoorAZkj
import Derived.WalkKit
import Derived.ProofKit
import Derived.OpenShut
import Derived.Stop.Joined
import Derived.ShutString
import Derived.ChangeOld
import Derived.Below
import Derived.Carry
import Derived.LaidMore
import Derived.SevenTiedAt
import Derived.Test.YtdlhlfpigcgapaaGreatDoorLka
import Derived.Test.YtdlhlfpigcgapaaGreatDoorLkc
namespace Go.Proofs.YtdlhlfpigcgapaaGreatDoor.kernelActive
open Go.ChangeShapes Go.WideShapes Go.ChangeAt Go.RowKit
open Aff
set_option linter.unusedVariables false
set_option linter.unusedSimpArgs false
theorem over : Rows.KernelActiveSaid :=
  OpenClaim.holds_of_wide 3 Tryz.f3 rfl rfl rfl rfl rfl rfl rfl ⟨rfl, rfl, rfl, rfl, rfl⟩ rfl rfl rfl rfl rfl (by kernel_rfl) Tryz.func3 closed
    (of_decide_eq_true (by kernel_rfl)) (by unfold Func.isWrapper; first | (rw [if_pos (by decide +kernel)]; kernel_rfl) | (rw [if_neg (by decide +kernel)]; exact ⟨rfl, rfl⟩))
    (fun os started H enc _ => lifted os started H enc)
end Go.Proofs.YtdlhlfpigcgapaaGreatDoor.kernelActive
