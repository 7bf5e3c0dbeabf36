/- Of the card's proof: its closed facts, each a theorem of its own. -/
import Derived.Test.YtmkboahjkhkefaaGreatDoorRows
import Derived.Test.YtmkboahjkhkefaaGreatDoorTie
import Derived.Test.YtmkboahjkhkefaaGreatDoorCards
import Derived.ProofKit
import Derived.SevenTiedAt
namespace Go.Proofs.YtmkboahjkhkefaaGreatDoor.kernelNil
open Go
theorem f1 : Rows.kernelNilRow.wfByText (OpenSpec.ofChange Rows.kernelNilSpec) = true := by kernel_rfl
theorem f2 : Tryz.prog.mainIs = some (true, "f6707ee6add9dd0dffa84f801ca6fcddc6c5986d05ab89a3ee9a9cbc4e5c7388".toList) := by kernel_rfl
theorem f3 : Tryz.prog.funcNamed "davit/davitlaw28.KernelNil" = some 7 := by kernel_rfl
theorem f5 : ([34].all fun u => !Tryz.prog.wantsStandIn u) = true := by kernel_rfl
theorem f4 : false = Tryz.prog.looks [] := by kernel_rfl
theorem f6 : false = Rows.kernelNilRow.goesBy Tryz.prog := by kernel_rfl
end Go.Proofs.YtmkboahjkhkefaaGreatDoor.kernelNil
