/- Of the law's proof: the row's statement. -/
import Derived.Test.YtmkboahjkhkefaaGreatDoorRows
import Derived.Test.YtmkboahjkhkefaaGreatDoorTie
import Derived.Test.YtmkboahjkhkefaaGreatDoorCards
import Derived.Test.YtmkboahjkhkefaaGreatDoorQKmu
import Derived.Test.YtmkboahjkhkefaaGreatDoorQKwm
import Derived.WalkKit
import Derived.ProofKit
import Derived.OpenShut
import Derived.Stop.Joined
import Derived.ShutString
import Derived.ChangeOld
import Derived.Below
import Derived.Carry
import Derived.LaidMore
import Derived.SevenTiedAt
import Derived.Test.YtmkboahjkhkefaaGreatDoorLna
import Derived.Test.YtmkboahjkhkefaaGreatDoorLnc
namespace Go.Proofs.YtmkboahjkhkefaaGreatDoor.kernelNil
open Go.ChangeShapes Go.WideShapes Go.ChangeAt Go.RowKit
open Aff
set_option linter.unusedVariables false
set_option linter.unusedSimpArgs false
theorem over : Rows.KernelNilSaid :=
  OpenClaim.holds_of_wide 7 Tryz.f7 rfl rfl rfl rfl rfl rfl rfl ⟨rfl, rfl, rfl, rfl, rfl⟩ rfl rfl rfl rfl rfl (by kernel_rfl) Tryz.func7 closed
    (of_decide_eq_true (by kernel_rfl)) (by unfold Func.isWrapper; first | (rw [if_pos (by decide +kernel)]; kernel_rfl) | (rw [if_neg (by decide +kernel)]; exact ⟨rfl, rfl⟩))
    (fun os started H enc _ => lifted os started H enc)
end Go.Proofs.YtmkboahjkhkefaaGreatDoor.kernelNil
