/- Of the card's proof: its closed facts, each a theorem of its own. -/
import Derived.Test.YtfdmcbcomknebaaGreatDoorRows
import Derived.Test.YtfdmcbcomknebaaGreatDoorTie
import Derived.Test.YtfdmcbcomknebaaGreatDoorCards
import Derived.ProofKit
import Derived.SevenTiedAt
namespace Go.Proofs.YtfdmcbcomknebaaGreatDoor.auditRules
open Go
theorem f1 : Rows.auditRulesRow.wfByText (OpenSpec.ofChange Rows.auditRulesSpec) = true := by kernel_rfl
theorem f2 : Tryz.prog.mainIs = some (true, "b7284fd4daf6b0c68f6ae9f30c01e804b63afe23866a21ec54dcbfa7eae8a595".toList) := by kernel_rfl
theorem f3 : Tryz.prog.funcNamed "davit/davitlaw35.AuditRules" = some 3 := by kernel_rfl
theorem f5 : ([26, 3].all fun u => !Tryz.prog.wantsStandIn u) = true := by kernel_rfl
theorem f4 : false = Tryz.prog.looks [] := by kernel_rfl
theorem f6 : false = Rows.auditRulesRow.goesBy Tryz.prog := by kernel_rfl
end Go.Proofs.YtfdmcbcomknebaaGreatDoor.auditRules
