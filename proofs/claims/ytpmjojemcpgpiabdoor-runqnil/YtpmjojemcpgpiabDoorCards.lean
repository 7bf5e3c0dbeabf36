/-
  DERIVED. GIVEN WITH THE SEED: THE CARDS: each row of YtpmjojemcpgpiabDoorRows.lean that lists a variable, with what it lists TIED to the program's text (the seventh form; the later family's looks); each row that meets fmt, with fmt's text TOLD by the authors' own Lean function (tested against real Go, not proved from fmt's source: count such statements apart). THE CARD IS WHAT COUNTS. Prove the row's statement (the work); the ties are given (YtpmjojemcpgpiabDoorTie.lean); close each card by the builder's one call (the guide's Derived/Test/ToyasCard.lean, 'card_holds'). Laid BY PROGRAM, IN A SANDBOX (cutbox-door.mjs). By AI agents, Wed Nov 11 2026. No macro, syntax, notation, axiom, sorry.
-/
import Derived.Test.YtpmjojemcpgpiabDoorRows
import GoSem.ClaimSeven
namespace Go.Proofs.YtpmjojemcpgpiabDoor
namespace Rows

/-- THE TIED CARD OF 'davitlaw10.RunqNil'. -/
def runqNilCard : Claim7 := { stood := { row := runqNilRow, standIns := [], harness := (true, "15470e620b508890f7e7b855f805e3bc42cedfb0561fcd5e91fe93c4b2458dc2"), looks := false }, kinds := [], alts := [], laidByText := true, laidKinds := [.data], laidTests := true, laidLooks := .later }
def RunqNilCardSaid : Prop := Claim7.holds Tryd.pinned (.plain (OpenSpec.ofChange runqNilSpec)) runqNilCard

/-- THE SECOND FORM's CARD OF 'davitlaw10.RunqNil'. -/
def runqNilUptoCard : Claim7 := { stood := { row := runqNilUptoRow, standIns := [], harness := (true, "15470e620b508890f7e7b855f805e3bc42cedfb0561fcd5e91fe93c4b2458dc2"), looks := false }, kinds := [], alts := [], laidByText := true, laidKinds := [.data], laidTests := true, laidLooks := .later }
def RunqNilUptoCardSaid : Prop := Claim7.holds Tryd.pinned (.plain (OpenSpec.upto runqNilSpec)) runqNilUptoCard
end Rows
end Go.Proofs.YtpmjojemcpgpiabDoor
