/- Of the card's proof: its closed facts, each a theorem of its own. -/
import Derived.Test.YtdlhlfpigcgapaaGreatDoorRows
import Derived.Test.YtdlhlfpigcgapaaGreatDoorTie
import Derived.Test.YtdlhlfpigcgapaaGreatDoorCards
import Derived.ProofKit
import Derived.SevenTiedAt
namespace Go.Proofs.YtdlhlfpigcgapaaGreatDoor.kernelActive
open Go
theorem f1 : Rows.kernelActiveRow.wfByText (OpenSpec.ofChange Rows.kernelActiveSpec) = true := by kernel_rfl
theorem f2 : Tryz.prog.mainIs = some (true, "f6e9977f7bba549c8414f4f1bc2cd538d47e03bc58c88a616f8717993b4835d7".toList) := by kernel_rfl
theorem f3 : Tryz.prog.funcNamed "davit/davitlaw28.KernelActive" = some 3 := by kernel_rfl
theorem f5 : ([3, 22].all fun u => !Tryz.prog.wantsStandIn u) = true := by kernel_rfl
theorem f4 : false = Tryz.prog.looks [] := by kernel_rfl
theorem f6 : false = Rows.kernelActiveRow.goesBy Tryz.prog := by kernel_rfl
end Go.Proofs.YtdlhlfpigcgapaaGreatDoor.kernelActive
