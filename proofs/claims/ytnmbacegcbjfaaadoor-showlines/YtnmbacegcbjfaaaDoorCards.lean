/-
  DERIVED. GIVEN WITH THE SEED: THE CARDS: each row of YtnmbacegcbjfaaaDoorRows.lean that lists a variable, with what it lists TIED to the program's text (the seventh form; the later family's looks); each row that meets fmt, with fmt's text TOLD by the authors' own Lean function (tested against real Go, not proved from fmt's source: count such statements apart). THE CARD IS WHAT COUNTS. Prove the row's statement (the work); the ties are given (YtnmbacegcbjfaaaDoorTie.lean); close each card by the builder's one call (the guide's Derived/Test/ToyasCard.lean, 'card_holds'). Laid BY PROGRAM, IN A SANDBOX (cutbox-door.mjs). By AI agents, Wed Nov 11 2026. No macro, syntax, notation, axiom, sorry.
-/
import Derived.Test.YtnmbacegcbjfaaaDoorRows
import GoSem.ClaimSeven
namespace Go.Proofs.YtnmbacegcbjfaaaDoor
namespace Rows

/-- THE TIED CARD OF 'davitlaw33.ShowLines'. -/
def showLinesCard : Claim7 := { stood := { row := showLinesRow, standIns := [], harness := (true, "9ecff85403913690ff622071a0d6a40385766ac7ca31309025196955cd97f44f"), looks := true }, kinds := [], alts := [], laidByText := true, laidKinds := [.data, .data, .data, .sentinel, .sentinel, .data], laidTests := true, laidLooks := .later }
def ShowLinesCardSaid : Prop := Claim7.holds Tryd.pinned (.plain (OpenSpec.ofChange showLinesSpec)) showLinesCard

/-- THE TIED CARD OF 'davitlaw33.ShowBacks'. -/
def showBacksCard : Claim7 := { stood := { row := showBacksRow, standIns := [], harness := (true, "9ecff85403913690ff622071a0d6a40385766ac7ca31309025196955cd97f44f"), looks := true }, kinds := [], alts := [], laidByText := true, laidKinds := [.data, .data, .data, .sentinel, .sentinel, .data], laidTests := true, laidLooks := .later }
def ShowBacksCardSaid : Prop := Claim7.holds Tryd.pinned (.plain (OpenSpec.ofChange showBacksSpec)) showBacksCard

/-- THE TIED CARD OF 'davitlaw33.ShowBoth'. -/
def showBothCard : Claim7 := { stood := { row := showBothRow, standIns := [], harness := (true, "9ecff85403913690ff622071a0d6a40385766ac7ca31309025196955cd97f44f"), looks := true }, kinds := [], alts := [], laidByText := true, laidKinds := [.data, .data, .data, .sentinel, .sentinel, .data], laidTests := true, laidLooks := .later }
def ShowBothCardSaid : Prop := Claim7.holds Tryd.pinned (.plain (OpenSpec.ofChange showBothSpec)) showBothCard

/-- THE SECOND FORM's CARD OF 'davitlaw33.ShowLines'. -/
def showLinesUptoCard : Claim7 := { stood := { row := showLinesUptoRow, standIns := [], harness := (true, "9ecff85403913690ff622071a0d6a40385766ac7ca31309025196955cd97f44f"), looks := true }, kinds := [], alts := [], laidByText := true, laidKinds := [.data, .data, .data, .sentinel, .sentinel, .data], laidTests := true, laidLooks := .later }
def ShowLinesUptoCardSaid : Prop := Claim7.holds Tryd.pinned (.plain (OpenSpec.upto showLinesSpec)) showLinesUptoCard

/-- THE SECOND FORM's CARD OF 'davitlaw33.ShowBacks'. -/
def showBacksUptoCard : Claim7 := { stood := { row := showBacksUptoRow, standIns := [], harness := (true, "9ecff85403913690ff622071a0d6a40385766ac7ca31309025196955cd97f44f"), looks := true }, kinds := [], alts := [], laidByText := true, laidKinds := [.data, .data, .data, .sentinel, .sentinel, .data], laidTests := true, laidLooks := .later }
def ShowBacksUptoCardSaid : Prop := Claim7.holds Tryd.pinned (.plain (OpenSpec.upto showBacksSpec)) showBacksUptoCard

/-- THE SECOND FORM's CARD OF 'davitlaw33.ShowBoth'. -/
def showBothUptoCard : Claim7 := { stood := { row := showBothUptoRow, standIns := [], harness := (true, "9ecff85403913690ff622071a0d6a40385766ac7ca31309025196955cd97f44f"), looks := true }, kinds := [], alts := [], laidByText := true, laidKinds := [.data, .data, .data, .sentinel, .sentinel, .data], laidTests := true, laidLooks := .later }
def ShowBothUptoCardSaid : Prop := Claim7.holds Tryd.pinned (.plain (OpenSpec.upto showBothSpec)) showBothUptoCard
end Rows
end Go.Proofs.YtnmbacegcbjfaaaDoor
