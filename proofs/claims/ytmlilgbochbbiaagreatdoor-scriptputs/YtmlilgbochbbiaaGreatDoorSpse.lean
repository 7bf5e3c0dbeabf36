/- Of the card's proof: its closed facts, each a theorem of its own. -/
import Derived.Test.YtmlilgbochbbiaaGreatDoorRows
import Derived.Test.YtmlilgbochbbiaaGreatDoorTie
import Derived.Test.YtmlilgbochbbiaaGreatDoorCards
import Derived.ProofKit
import Derived.SevenTiedAt
namespace Go.Proofs.YtmlilgbochbbiaaGreatDoor.scriptPuts
open Go
theorem f1 : Rows.scriptPutsRow.wfByText (OpenSpec.ofChange Rows.scriptPutsSpec) = true := by kernel_rfl
theorem f2 : Tryz.prog.mainIs = some (true, "773663e3b60af148ff0ff953bfb04ea4f8d257089fe8977050621210807f9519".toList) := by kernel_rfl
theorem f3 : Tryz.prog.funcNamed "davit/davitlaw31.ScriptPuts" = some 3 := by kernel_rfl
theorem f5 : ([24, 24].all fun u => !Tryz.prog.wantsStandIn u) = true := by kernel_rfl
theorem f4 : false = Tryz.prog.looks [] := by kernel_rfl
theorem f6 : false = Rows.scriptPutsRow.goesBy Tryz.prog := by kernel_rfl
end Go.Proofs.YtmlilgbochbbiaaGreatDoor.scriptPuts
