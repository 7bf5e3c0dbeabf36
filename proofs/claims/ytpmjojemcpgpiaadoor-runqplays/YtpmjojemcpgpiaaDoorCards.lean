/-
  DERIVED. GIVEN WITH THE SEED: THE CARDS: each row of YtpmjojemcpgpiaaDoorRows.lean that lists a variable, with what it lists TIED to the program's text (the seventh form; the later family's looks); each row that meets fmt, with fmt's text TOLD by the authors' own Lean function (tested against real Go, not proved from fmt's source: count such statements apart). THE CARD IS WHAT COUNTS. Prove the row's statement (the work); the ties are given (YtpmjojemcpgpiaaDoorTie.lean); close each card by the builder's one call (the guide's Derived/Test/ToyasCard.lean, 'card_holds'). Laid BY PROGRAM, IN A SANDBOX (cutbox-door.mjs). By AI agents, Wed Nov 11 2026. No macro, syntax, notation, axiom, sorry.
-/
import Derived.Test.YtpmjojemcpgpiaaDoorRows
import GoSem.ClaimSeven
namespace Go.Proofs.YtpmjojemcpgpiaaDoor
namespace Rows

/-- THE TIED CARD OF 'davitlaw10.RunqPlays'. -/
def runqPlaysCard : Claim7 := { stood := { row := runqPlaysRow, standIns := [], harness := (true, "87fdcc8c0e667e697086d02b05aea6f44724acde9f9bd9d0ce3fe22360106323"), looks := false }, kinds := [], alts := [], laidByText := true, laidKinds := [.data], laidTests := true, laidLooks := .later }
def RunqPlaysCardSaid : Prop := Claim7.holds Tryd.pinned (.plain (OpenSpec.ofChange runqPlaysSpec)) runqPlaysCard

/-- THE SECOND FORM's CARD OF 'davitlaw10.RunqPlays'. -/
def runqPlaysUptoCard : Claim7 := { stood := { row := runqPlaysUptoRow, standIns := [], harness := (true, "87fdcc8c0e667e697086d02b05aea6f44724acde9f9bd9d0ce3fe22360106323"), looks := false }, kinds := [], alts := [], laidByText := true, laidKinds := [.data], laidTests := true, laidLooks := .later }
def RunqPlaysUptoCardSaid : Prop := Claim7.holds Tryd.pinned (.plain (OpenSpec.upto runqPlaysSpec)) runqPlaysUptoCard
end Rows
end Go.Proofs.YtpmjojemcpgpiaaDoor
