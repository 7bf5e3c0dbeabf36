/-
  DERIVED. GIVEN WITH THE SEED: THE CARDS: each row of YtdkacamnelodaaaDoorRows.lean that lists a variable, with what it lists TIED to the program's text (the seventh form; the later family's looks); each row that meets fmt, with fmt's text TOLD by the authors' own Lean function (tested against real Go, not proved from fmt's source: count such statements apart). THE CARD IS WHAT COUNTS. Prove the row's statement (the work); the ties are given (YtdkacamnelodaaaDoorTie.lean); close each card by the builder's one call (the guide's Derived/Test/ToyasCard.lean, 'card_holds'). Laid BY PROGRAM, IN A SANDBOX (cutbox-door.mjs). By AI agents, Wed Nov 11 2026. No macro, syntax, notation, axiom, sorry.
-/
import Derived.Test.YtdkacamnelodaaaDoorRows
import GoSem.ClaimSeven
namespace Go.Proofs.YtdkacamnelodaaaDoor
namespace Rows

/-- THE TIED CARD OF 'davitlaw04.SlotPlays'. -/
def slotPlaysCard : Claim7 := { stood := { row := slotPlaysRow, standIns := [], harness := (true, "bbe5e8cc457fa9530c7762d472c60528add6950c8a8bac24023daf62482e6ff6"), looks := false }, kinds := [], alts := [], laidByText := true, laidKinds := [.data], laidTests := true, laidLooks := .later }
def SlotPlaysCardSaid : Prop := Claim7.holds Tryd.pinned (.plain (OpenSpec.ofChange slotPlaysSpec)) slotPlaysCard

/-- THE TIED CARD OF 'davitlaw04.SlotOnce'. -/
def slotOnceCard : Claim7 := { stood := { row := slotOnceRow, standIns := [], harness := (true, "bbe5e8cc457fa9530c7762d472c60528add6950c8a8bac24023daf62482e6ff6"), looks := false }, kinds := [], alts := [], laidByText := true, laidKinds := [.data], laidTests := true, laidLooks := .later }
def SlotOnceCardSaid : Prop := Claim7.holds Tryd.pinned (.plain (OpenSpec.ofChange slotOnceSpec)) slotOnceCard

/-- THE SECOND FORM's CARD OF 'davitlaw04.SlotPlays'. -/
def slotPlaysUptoCard : Claim7 := { stood := { row := slotPlaysUptoRow, standIns := [], harness := (true, "bbe5e8cc457fa9530c7762d472c60528add6950c8a8bac24023daf62482e6ff6"), looks := false }, kinds := [], alts := [], laidByText := true, laidKinds := [.data], laidTests := true, laidLooks := .later }
def SlotPlaysUptoCardSaid : Prop := Claim7.holds Tryd.pinned (.plain (OpenSpec.upto slotPlaysSpec)) slotPlaysUptoCard

/-- THE SECOND FORM's CARD OF 'davitlaw04.SlotOnce'. -/
def slotOnceUptoCard : Claim7 := { stood := { row := slotOnceUptoRow, standIns := [], harness := (true, "bbe5e8cc457fa9530c7762d472c60528add6950c8a8bac24023daf62482e6ff6"), looks := false }, kinds := [], alts := [], laidByText := true, laidKinds := [.data], laidTests := true, laidLooks := .later }
def SlotOnceUptoCardSaid : Prop := Claim7.holds Tryd.pinned (.plain (OpenSpec.upto slotOnceSpec)) slotOnceUptoCard
end Rows
end Go.Proofs.YtdkacamnelodaaaDoor
