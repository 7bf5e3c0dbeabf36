/-
  DERIVED. GIVEN WITH THE SEED: THE CARDS: each row of YtfipiifickdeiaaGreatDoorRows.lean that lists a variable, with what it lists TIED to the program's text (the seventh form; the later family's looks); each row that meets fmt, with fmt's text TOLD by the authors' own Lean function (tested against real Go, not proved from fmt's source: count such statements apart). THE CARD IS WHAT COUNTS. Prove the row's statement (the work); the ties are given (YtfipiifickdeiaaGreatDoorTie.lean); close each card by the builder's one call (the guide's Derived/Test/ToyasCard.lean, 'card_holds'). Laid BY PROGRAM, IN A SANDBOX (cutbox-door.mjs). By AI agents, Wed Nov 11 2026. No macro, syntax, notation, axiom, sorry.
-/
import Derived.Test.YtfipiifickdeiaaGreatDoorRows
import GoSem.ClaimSeven
namespace Go.Proofs.YtfipiifickdeiaaGreatDoor
namespace Rows

/-- THE TIED CARD OF 'davitlaw36.FairPicks'. -/
def fairPicksCard : Claim7 := { stood := { row := fairPicksRow, standIns := [], harness := (true, "fa1972de3addbeabda183c713debb2cc4c2d837ca415417b0248673bee8c4f82"), looks := false }, kinds := [], alts := [], laidByText := true, laidKinds := [.data], laidTests := true, laidLooks := .later }
def FairPicksCardSaid : Prop := Claim7.holds Tryz.pinned (.plain (OpenSpec.ofChange fairPicksSpec)) fairPicksCard

/-- THE SECOND FORM's CARD OF 'davitlaw36.FairPicks'. -/
def fairPicksUptoCard : Claim7 := { stood := { row := fairPicksUptoRow, standIns := [], harness := (true, "fa1972de3addbeabda183c713debb2cc4c2d837ca415417b0248673bee8c4f82"), looks := false }, kinds := [], alts := [], laidByText := true, laidKinds := [.data], laidTests := true, laidLooks := .later }
def FairPicksUptoCardSaid : Prop := Claim7.holds Tryz.pinned (.plain (OpenSpec.upto fairPicksSpec)) fairPicksUptoCard
end Rows
end Go.Proofs.YtfipiifickdeiaaGreatDoor
