/-
  DERIVED. GIVEN WITH THE SEED: THE CARDS: each row of YtofdhljgchefgaaDoorRows.lean that lists a variable, with what it lists TIED to the program's text (the seventh form; the later family's looks); each row that meets fmt, with fmt's text TOLD by the authors' own Lean function (tested against real Go, not proved from fmt's source: count such statements apart). THE CARD IS WHAT COUNTS. Prove the row's statement (the work); the ties are given (YtofdhljgchefgaaDoorTie.lean); close each card by the builder's one call (the guide's Derived/Test/ToyasCard.lean, 'card_holds'). Laid BY PROGRAM, IN A SANDBOX (cutbox-door.mjs). By AI agents, Wed Nov 11 2026. No macro, syntax, notation, axiom, sorry.
-/
import Derived.Test.YtofdhljgchefgaaDoorRows
import GoSem.ClaimSeven
namespace Go.Proofs.YtofdhljgchefgaaDoor
namespace Rows

/-- THE TIED CARD OF 'davitlaw17.WorkPlays'. -/
def workPlaysCard : Claim7 := { stood := { row := workPlaysRow, standIns := [], harness := (true, "c2ca43f4ea73c02762d5147dd1f7580f6374eb27a6182fd3484bba9f58af2859"), looks := false }, kinds := [], alts := [], laidByText := true, laidKinds := [.data], laidTests := true, laidLooks := .later }
def WorkPlaysCardSaid : Prop := Claim7.holds Tryd.pinned (.plain (OpenSpec.ofChange workPlaysSpec)) workPlaysCard

/-- THE TIED CARD OF 'davitlaw17.WorkOnce'. -/
def workOnceCard : Claim7 := { stood := { row := workOnceRow, standIns := [], harness := (true, "c2ca43f4ea73c02762d5147dd1f7580f6374eb27a6182fd3484bba9f58af2859"), looks := false }, kinds := [], alts := [], laidByText := true, laidKinds := [.data], laidTests := true, laidLooks := .later }
def WorkOnceCardSaid : Prop := Claim7.holds Tryd.pinned (.plain (OpenSpec.ofChange workOnceSpec)) workOnceCard

/-- THE TIED CARD OF 'davitlaw17.WorkNil'. -/
def workNilCard : Claim7 := { stood := { row := workNilRow, standIns := [], harness := (true, "c2ca43f4ea73c02762d5147dd1f7580f6374eb27a6182fd3484bba9f58af2859"), looks := false }, kinds := [], alts := [], laidByText := true, laidKinds := [.data], laidTests := true, laidLooks := .later }
def WorkNilCardSaid : Prop := Claim7.holds Tryd.pinned (.plain (OpenSpec.ofChange workNilSpec)) workNilCard

/-- THE TIED CARD OF 'davitlaw18.CallPlays'. -/
def callPlaysCard : Claim7 := { stood := { row := callPlaysRow, standIns := [], harness := (true, "c2ca43f4ea73c02762d5147dd1f7580f6374eb27a6182fd3484bba9f58af2859"), looks := false }, kinds := [], alts := [], laidByText := true, laidKinds := [.data], laidTests := true, laidLooks := .later }
def CallPlaysCardSaid : Prop := Claim7.holds Tryd.pinned (.plain (OpenSpec.ofChange callPlaysSpec)) callPlaysCard

/-- THE TIED CARD OF 'davitlaw18.CallOnce'. -/
def callOnceCard : Claim7 := { stood := { row := callOnceRow, standIns := [], harness := (true, "c2ca43f4ea73c02762d5147dd1f7580f6374eb27a6182fd3484bba9f58af2859"), looks := false }, kinds := [], alts := [], laidByText := true, laidKinds := [.data], laidTests := true, laidLooks := .later }
def CallOnceCardSaid : Prop := Claim7.holds Tryd.pinned (.plain (OpenSpec.ofChange callOnceSpec)) callOnceCard

/-- THE TIED CARD OF 'davitlaw18.CallNil'. -/
def callNilCard : Claim7 := { stood := { row := callNilRow, standIns := [], harness := (true, "c2ca43f4ea73c02762d5147dd1f7580f6374eb27a6182fd3484bba9f58af2859"), looks := false }, kinds := [], alts := [], laidByText := true, laidKinds := [.data], laidTests := true, laidLooks := .later }
def CallNilCardSaid : Prop := Claim7.holds Tryd.pinned (.plain (OpenSpec.ofChange callNilSpec)) callNilCard

/-- THE SECOND FORM's CARD OF 'davitlaw17.WorkPlays'. -/
def workPlaysUptoCard : Claim7 := { stood := { row := workPlaysUptoRow, standIns := [], harness := (true, "c2ca43f4ea73c02762d5147dd1f7580f6374eb27a6182fd3484bba9f58af2859"), looks := false }, kinds := [], alts := [], laidByText := true, laidKinds := [.data], laidTests := true, laidLooks := .later }
def WorkPlaysUptoCardSaid : Prop := Claim7.holds Tryd.pinned (.plain (OpenSpec.upto workPlaysSpec)) workPlaysUptoCard

/-- THE SECOND FORM's CARD OF 'davitlaw17.WorkOnce'. -/
def workOnceUptoCard : Claim7 := { stood := { row := workOnceUptoRow, standIns := [], harness := (true, "c2ca43f4ea73c02762d5147dd1f7580f6374eb27a6182fd3484bba9f58af2859"), looks := false }, kinds := [], alts := [], laidByText := true, laidKinds := [.data], laidTests := true, laidLooks := .later }
def WorkOnceUptoCardSaid : Prop := Claim7.holds Tryd.pinned (.plain (OpenSpec.upto workOnceSpec)) workOnceUptoCard

/-- THE SECOND FORM's CARD OF 'davitlaw17.WorkNil'. -/
def workNilUptoCard : Claim7 := { stood := { row := workNilUptoRow, standIns := [], harness := (true, "c2ca43f4ea73c02762d5147dd1f7580f6374eb27a6182fd3484bba9f58af2859"), looks := false }, kinds := [], alts := [], laidByText := true, laidKinds := [.data], laidTests := true, laidLooks := .later }
def WorkNilUptoCardSaid : Prop := Claim7.holds Tryd.pinned (.plain (OpenSpec.upto workNilSpec)) workNilUptoCard

/-- THE SECOND FORM's CARD OF 'davitlaw18.CallPlays'. -/
def callPlaysUptoCard : Claim7 := { stood := { row := callPlaysUptoRow, standIns := [], harness := (true, "c2ca43f4ea73c02762d5147dd1f7580f6374eb27a6182fd3484bba9f58af2859"), looks := false }, kinds := [], alts := [], laidByText := true, laidKinds := [.data], laidTests := true, laidLooks := .later }
def CallPlaysUptoCardSaid : Prop := Claim7.holds Tryd.pinned (.plain (OpenSpec.upto callPlaysSpec)) callPlaysUptoCard

/-- THE SECOND FORM's CARD OF 'davitlaw18.CallOnce'. -/
def callOnceUptoCard : Claim7 := { stood := { row := callOnceUptoRow, standIns := [], harness := (true, "c2ca43f4ea73c02762d5147dd1f7580f6374eb27a6182fd3484bba9f58af2859"), looks := false }, kinds := [], alts := [], laidByText := true, laidKinds := [.data], laidTests := true, laidLooks := .later }
def CallOnceUptoCardSaid : Prop := Claim7.holds Tryd.pinned (.plain (OpenSpec.upto callOnceSpec)) callOnceUptoCard

/-- THE SECOND FORM's CARD OF 'davitlaw18.CallNil'. -/
def callNilUptoCard : Claim7 := { stood := { row := callNilUptoRow, standIns := [], harness := (true, "c2ca43f4ea73c02762d5147dd1f7580f6374eb27a6182fd3484bba9f58af2859"), looks := false }, kinds := [], alts := [], laidByText := true, laidKinds := [.data], laidTests := true, laidLooks := .later }
def CallNilUptoCardSaid : Prop := Claim7.holds Tryd.pinned (.plain (OpenSpec.upto callNilSpec)) callNilUptoCard
end Rows
end Go.Proofs.YtofdhljgchefgaaDoor
