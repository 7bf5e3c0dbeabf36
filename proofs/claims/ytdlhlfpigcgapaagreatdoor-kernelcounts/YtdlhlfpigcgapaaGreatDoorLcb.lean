/- Of the law's proof: the row's statement. -/
import Derived.Test.YtdlhlfpigcgapaaGreatDoorRows
import Derived.Test.YtdlhlfpigcgapaaGreatDoorTie
import Derived.Test.YtdlhlfpigcgapaaGreatDoorCards
import Derived.Test.YtdlhlfpigcgapaaGreatDoorZke
import Derived.Test.YtdlhlfpigcgapaaGreatDoorZkh
import Derived.WalkKit
import Derived.ProofKit
import Derived.OpenShut
import Derived.Stop.Joined
import Derived.ShutString
import Derived.ChangeOld
import Derived.Below
import Derived.Carry
import Derived.LaidMore
import Derived.SevenTiedAt
import Derived.Test.YtdlhlfpigcgapaaGreatDoorLca
import Derived.Test.YtdlhlfpigcgapaaGreatDoorLcc
namespace Go.Proofs.YtdlhlfpigcgapaaGreatDoor.kernelCounts
open Go.ChangeShapes Go.WideShapes Go.ChangeAt Go.RowKit
open Aff
set_option linter.unusedVariables false
set_option linter.unusedSimpArgs false
theorem over : Rows.KernelCountsSaid :=
  OpenClaim.holds_of_wide 6 Tryz.f6 rfl rfl rfl rfl rfl rfl rfl ⟨rfl, rfl, rfl, rfl, rfl⟩ rfl rfl rfl rfl rfl (by kernel_rfl) Tryz.func6 closed
    (of_decide_eq_true (by kernel_rfl)) (by unfold Func.isWrapper; first | (rw [if_pos (by decide +kernel)]; kernel_rfl) | (rw [if_neg (by decide +kernel)]; exact ⟨rfl, rfl⟩))
    (fun os started H enc _ => lifted os started H enc)
end Go.Proofs.YtdlhlfpigcgapaaGreatDoor.kernelCounts
