/-
  DERIVED. GIVEN WITH THE SEED: THE CARDS: each row of YtghnpmkibnggeaaDoorRows.lean that lists a variable, with what it lists TIED to the program's text (the seventh form; the later family's looks); each row that meets fmt, with fmt's text TOLD by the authors' own Lean function (tested against real Go, not proved from fmt's source: count such statements apart). THE CARD IS WHAT COUNTS. Prove the row's statement (the work); the ties are given (YtghnpmkibnggeaaDoorTie.lean); close each card by the builder's one call (the guide's Derived/Test/ToyasCard.lean, 'card_holds'). Laid BY PROGRAM, IN A SANDBOX (cutbox-door.mjs). By AI agents, Wed Nov 11 2026. No macro, syntax, notation, axiom, sorry.
-/
import Derived.Test.YtghnpmkibnggeaaDoorRows
import GoSem.ClaimSeven
namespace Go.Proofs.YtghnpmkibnggeaaDoor
namespace Rows

/-- THE TIED CARD OF 'davitlaw11.ThreadPlays'. -/
def threadPlaysCard : Claim7 := { stood := { row := threadPlaysRow, standIns := [], harness := (true, "80b54aa34c40d67ba7f3d0bdc9eb09b27652aeb5d06e49ed2193b15d49b868c6"), looks := false }, kinds := [], alts := [], laidByText := true, laidKinds := [.data], laidTests := true, laidLooks := .later }
def ThreadPlaysCardSaid : Prop := Claim7.holds Tryd.pinned (.plain (OpenSpec.ofChange threadPlaysSpec)) threadPlaysCard

/-- THE TIED CARD OF 'davitlaw11.ThreadApart'. -/
def threadApartCard : Claim7 := { stood := { row := threadApartRow, standIns := [], harness := (true, "80b54aa34c40d67ba7f3d0bdc9eb09b27652aeb5d06e49ed2193b15d49b868c6"), looks := false }, kinds := [], alts := [], laidByText := true, laidKinds := [.data], laidTests := true, laidLooks := .later }
def ThreadApartCardSaid : Prop := Claim7.holds Tryd.pinned (.plain (OpenSpec.ofChange threadApartSpec)) threadApartCard

/-- THE TIED CARD OF 'davitlaw11.ThreadNil'. -/
def threadNilCard : Claim7 := { stood := { row := threadNilRow, standIns := [], harness := (true, "80b54aa34c40d67ba7f3d0bdc9eb09b27652aeb5d06e49ed2193b15d49b868c6"), looks := false }, kinds := [], alts := [], laidByText := true, laidKinds := [.data], laidTests := true, laidLooks := .later }
def ThreadNilCardSaid : Prop := Claim7.holds Tryd.pinned (.plain (OpenSpec.ofChange threadNilSpec)) threadNilCard

/-- THE TIED CARD OF 'davitlaw12.AffinChooses'. -/
def affinChoosesCard : Claim7 := { stood := { row := affinChoosesRow, standIns := [], harness := (true, "80b54aa34c40d67ba7f3d0bdc9eb09b27652aeb5d06e49ed2193b15d49b868c6"), looks := false }, kinds := [], alts := [], laidByText := true, laidKinds := [.data], laidTests := true, laidLooks := .later }
def AffinChoosesCardSaid : Prop := Claim7.holds Tryd.pinned (.plain (OpenSpec.ofChange affinChoosesSpec)) affinChoosesCard

/-- THE TIED CARD OF 'davitlaw12.AffinRight'. -/
def affinRightCard : Claim7 := { stood := { row := affinRightRow, standIns := [], harness := (true, "80b54aa34c40d67ba7f3d0bdc9eb09b27652aeb5d06e49ed2193b15d49b868c6"), looks := false }, kinds := [], alts := [], laidByText := true, laidKinds := [.data], laidTests := true, laidLooks := .later }
def AffinRightCardSaid : Prop := Claim7.holds Tryd.pinned (.plain (OpenSpec.ofChange affinRightSpec)) affinRightCard

/-- THE TIED CARD OF 'davitlaw12.AffinRepairs'. -/
def affinRepairsCard : Claim7 := { stood := { row := affinRepairsRow, standIns := [], harness := (true, "80b54aa34c40d67ba7f3d0bdc9eb09b27652aeb5d06e49ed2193b15d49b868c6"), looks := false }, kinds := [], alts := [], laidByText := true, laidKinds := [.data], laidTests := true, laidLooks := .later }
def AffinRepairsCardSaid : Prop := Claim7.holds Tryd.pinned (.plain (OpenSpec.ofChange affinRepairsSpec)) affinRepairsCard

/-- THE SECOND FORM's CARD OF 'davitlaw11.ThreadPlays'. -/
def threadPlaysUptoCard : Claim7 := { stood := { row := threadPlaysUptoRow, standIns := [], harness := (true, "80b54aa34c40d67ba7f3d0bdc9eb09b27652aeb5d06e49ed2193b15d49b868c6"), looks := false }, kinds := [], alts := [], laidByText := true, laidKinds := [.data], laidTests := true, laidLooks := .later }
def ThreadPlaysUptoCardSaid : Prop := Claim7.holds Tryd.pinned (.plain (OpenSpec.upto threadPlaysSpec)) threadPlaysUptoCard

/-- THE SECOND FORM's CARD OF 'davitlaw11.ThreadApart'. -/
def threadApartUptoCard : Claim7 := { stood := { row := threadApartUptoRow, standIns := [], harness := (true, "80b54aa34c40d67ba7f3d0bdc9eb09b27652aeb5d06e49ed2193b15d49b868c6"), looks := false }, kinds := [], alts := [], laidByText := true, laidKinds := [.data], laidTests := true, laidLooks := .later }
def ThreadApartUptoCardSaid : Prop := Claim7.holds Tryd.pinned (.plain (OpenSpec.upto threadApartSpec)) threadApartUptoCard

/-- THE SECOND FORM's CARD OF 'davitlaw11.ThreadNil'. -/
def threadNilUptoCard : Claim7 := { stood := { row := threadNilUptoRow, standIns := [], harness := (true, "80b54aa34c40d67ba7f3d0bdc9eb09b27652aeb5d06e49ed2193b15d49b868c6"), looks := false }, kinds := [], alts := [], laidByText := true, laidKinds := [.data], laidTests := true, laidLooks := .later }
def ThreadNilUptoCardSaid : Prop := Claim7.holds Tryd.pinned (.plain (OpenSpec.upto threadNilSpec)) threadNilUptoCard

/-- THE SECOND FORM's CARD OF 'davitlaw12.AffinChooses'. -/
def affinChoosesUptoCard : Claim7 := { stood := { row := affinChoosesUptoRow, standIns := [], harness := (true, "80b54aa34c40d67ba7f3d0bdc9eb09b27652aeb5d06e49ed2193b15d49b868c6"), looks := false }, kinds := [], alts := [], laidByText := true, laidKinds := [.data], laidTests := true, laidLooks := .later }
def AffinChoosesUptoCardSaid : Prop := Claim7.holds Tryd.pinned (.plain (OpenSpec.upto affinChoosesSpec)) affinChoosesUptoCard

/-- THE SECOND FORM's CARD OF 'davitlaw12.AffinRight'. -/
def affinRightUptoCard : Claim7 := { stood := { row := affinRightUptoRow, standIns := [], harness := (true, "80b54aa34c40d67ba7f3d0bdc9eb09b27652aeb5d06e49ed2193b15d49b868c6"), looks := false }, kinds := [], alts := [], laidByText := true, laidKinds := [.data], laidTests := true, laidLooks := .later }
def AffinRightUptoCardSaid : Prop := Claim7.holds Tryd.pinned (.plain (OpenSpec.upto affinRightSpec)) affinRightUptoCard

/-- THE SECOND FORM's CARD OF 'davitlaw12.AffinRepairs'. -/
def affinRepairsUptoCard : Claim7 := { stood := { row := affinRepairsUptoRow, standIns := [], harness := (true, "80b54aa34c40d67ba7f3d0bdc9eb09b27652aeb5d06e49ed2193b15d49b868c6"), looks := false }, kinds := [], alts := [], laidByText := true, laidKinds := [.data], laidTests := true, laidLooks := .later }
def AffinRepairsUptoCardSaid : Prop := Claim7.holds Tryd.pinned (.plain (OpenSpec.upto affinRepairsSpec)) affinRepairsUptoCard
end Rows
end Go.Proofs.YtghnpmkibnggeaaDoor
