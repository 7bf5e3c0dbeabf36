/-
  DERIVED. GIVEN WITH THE SEED: THE CARDS: each row of YtdkacamnelodaabDoorRows.lean that lists a variable, with what it lists TIED to the program's text (the seventh form; the later family's looks); each row that meets fmt, with fmt's text TOLD by the authors' own Lean function (tested against real Go, not proved from fmt's source: count such statements apart). THE CARD IS WHAT COUNTS. Prove the row's statement (the work); the ties are given (YtdkacamnelodaabDoorTie.lean); close each card by the builder's one call (the guide's Derived/Test/ToyasCard.lean, 'card_holds'). Laid BY PROGRAM, IN A SANDBOX (cutbox-door.mjs). By AI agents, Wed Nov 11 2026. No macro, syntax, notation, axiom, sorry.
-/
import Derived.Test.YtdkacamnelodaabDoorRows
import GoSem.ClaimSeven
namespace Go.Proofs.YtdkacamnelodaabDoor
namespace Rows

/-- THE TIED CARD OF 'davitlaw04.SlotNil'. -/
def slotNilCard : Claim7 := { stood := { row := slotNilRow, standIns := [], harness := (true, "6c4fb4dfa4c5054ddd34322d2909cd6beb1d55d2acea84b4b44c70b6e0a06de0"), looks := false }, kinds := [], alts := [], laidByText := true, laidKinds := [.data], laidTests := true, laidLooks := .later }
def SlotNilCardSaid : Prop := Claim7.holds Tryd.pinned (.plain (OpenSpec.ofChange slotNilSpec)) slotNilCard

/-- THE SECOND FORM's CARD OF 'davitlaw04.SlotNil'. -/
def slotNilUptoCard : Claim7 := { stood := { row := slotNilUptoRow, standIns := [], harness := (true, "6c4fb4dfa4c5054ddd34322d2909cd6beb1d55d2acea84b4b44c70b6e0a06de0"), looks := false }, kinds := [], alts := [], laidByText := true, laidKinds := [.data], laidTests := true, laidLooks := .later }
def SlotNilUptoCardSaid : Prop := Claim7.holds Tryd.pinned (.plain (OpenSpec.upto slotNilSpec)) slotNilUptoCard
end Rows
end Go.Proofs.YtdkacamnelodaabDoor
