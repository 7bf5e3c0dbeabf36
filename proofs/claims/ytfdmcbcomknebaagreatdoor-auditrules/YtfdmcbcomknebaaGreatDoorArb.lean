/- Of the law's proof: the row's statement. -/
import Derived.Test.YtfdmcbcomknebaaGreatDoorRows
import Derived.Test.YtfdmcbcomknebaaGreatDoorTie
import Derived.Test.YtfdmcbcomknebaaGreatDoorCards
import Derived.Test.YtfdmcbcomknebaaGreatDoorZke
import Derived.Test.YtfdmcbcomknebaaGreatDoorAuD
import Derived.Test.YtfdmcbcomknebaaGreatDoorAuF
import Derived.WalkKit
import Derived.ProofKit
import Derived.OpenShut
import Derived.Stop.Joined
import Derived.ShutString
import Derived.ChangeOld
import Derived.Below
import Derived.Carry
import Derived.LaidMore
import Derived.SevenTiedAt
import Derived.Test.YtfdmcbcomknebaaGreatDoorAra
import Derived.Test.YtfdmcbcomknebaaGreatDoorArc
namespace Go.Proofs.YtfdmcbcomknebaaGreatDoor.auditRules
open Go.ChangeShapes Go.WideShapes Go.ChangeAt Go.RowKit
open Krn
set_option linter.unusedVariables false
set_option linter.unusedSimpArgs false
theorem over : Rows.AuditRulesSaid :=
  OpenClaim.holds_of_wide 3 Tryz.f3 rfl rfl rfl rfl rfl rfl rfl ⟨rfl, rfl, rfl, rfl, rfl⟩ rfl rfl rfl rfl rfl (by kernel_rfl) Tryz.func3 closed
    (of_decide_eq_true (by kernel_rfl)) (by unfold Func.isWrapper; first | (rw [if_pos (by decide +kernel)]; kernel_rfl) | (rw [if_neg (by decide +kernel)]; exact ⟨rfl, rfl⟩))
    (fun os started H enc _ => lifted os started H enc)
end Go.Proofs.YtfdmcbcomknebaaGreatDoor.auditRules
