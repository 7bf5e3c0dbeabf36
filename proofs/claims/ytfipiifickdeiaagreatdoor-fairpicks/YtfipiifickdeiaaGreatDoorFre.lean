/- Of the card's proof: its closed facts, each a theorem of its own. -/
import Derived.Test.YtfipiifickdeiaaGreatDoorRows
import Derived.Test.YtfipiifickdeiaaGreatDoorTie
import Derived.Test.YtfipiifickdeiaaGreatDoorCards
import Derived.ProofKit
import Derived.SevenTiedAt
namespace Go.Proofs.YtfipiifickdeiaaGreatDoor.fairPicks
open Go
theorem f1 : Rows.fairPicksRow.wfByText (OpenSpec.ofChange Rows.fairPicksSpec) = true := by kernel_rfl
theorem f2 : Tryz.prog.mainIs = some (true, "fa1972de3addbeabda183c713debb2cc4c2d837ca415417b0248673bee8c4f82".toList) := by kernel_rfl
theorem f3 : Tryz.prog.funcNamed "davit/davitlaw36.FairPicks" = some 3 := by kernel_rfl
theorem f5 : ([22, 23, 3].all fun u => !Tryz.prog.wantsStandIn u) = true := by kernel_rfl
theorem f4 : false = Tryz.prog.looks [] := by kernel_rfl
theorem f6 : false = Rows.fairPicksRow.goesBy Tryz.prog := by kernel_rfl
end Go.Proofs.YtfipiifickdeiaaGreatDoor.fairPicks
