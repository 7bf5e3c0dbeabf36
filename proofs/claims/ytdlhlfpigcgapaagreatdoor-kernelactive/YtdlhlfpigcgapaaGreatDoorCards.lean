/-
  DERIVED. GIVEN WITH THE SEED: THE CARDS: each row of YtdlhlfpigcgapaaGreatDoorRows.lean that lists a variable, with what it lists TIED to the program's text (the seventh form; the later family's looks); each row that meets fmt, with fmt's text TOLD by the authors' own Lean function (tested against real Go, not proved from fmt's source: count such statements apart). THE CARD IS WHAT COUNTS. Prove the row's statement (the work); the ties are given (YtdlhlfpigcgapaaGreatDoorTie.lean); close each card by the builder's one call (the guide's Derived/Test/ToyasCard.lean, 'card_holds'). Laid BY PROGRAM, IN A SANDBOX (cutbox-door.mjs). By AI agents, Wed Nov 11 2026. No macro, syntax, notation, axiom, sorry.
-/
import Derived.Test.YtdlhlfpigcgapaaGreatDoorRows
import GoSem.ClaimSeven
namespace Go.Proofs.YtdlhlfpigcgapaaGreatDoor
namespace Rows

/-- THE TIED CARD OF 'davitlaw28.KernelActive'. -/
def kernelActiveCard : Claim7 := { stood := { row := kernelActiveRow, standIns := [], harness := (true, "f6e9977f7bba549c8414f4f1bc2cd538d47e03bc58c88a616f8717993b4835d7"), looks := false }, kinds := [], alts := [], laidByText := true, laidKinds := [.data], laidTests := true, laidLooks := .later }
def KernelActiveCardSaid : Prop := Claim7.holds Tryz.pinned (.plain (OpenSpec.ofChange kernelActiveSpec)) kernelActiveCard

/-- THE TIED CARD OF 'davitlaw28.KernelGone'. -/
def kernelGoneCard : Claim7 := { stood := { row := kernelGoneRow, standIns := [], harness := (true, "f6e9977f7bba549c8414f4f1bc2cd538d47e03bc58c88a616f8717993b4835d7"), looks := false }, kinds := [], alts := [], laidByText := true, laidKinds := [.data], laidTests := true, laidLooks := .later }
def KernelGoneCardSaid : Prop := Claim7.holds Tryz.pinned (.plain (OpenSpec.ofChange kernelGoneSpec)) kernelGoneCard

/-- THE TIED CARD OF 'davitlaw28.KernelHot'. -/
def kernelHotCard : Claim7 := { stood := { row := kernelHotRow, standIns := [], harness := (true, "f6e9977f7bba549c8414f4f1bc2cd538d47e03bc58c88a616f8717993b4835d7"), looks := false }, kinds := [], alts := [], laidByText := true, laidKinds := [.data], laidTests := true, laidLooks := .later }
def KernelHotCardSaid : Prop := Claim7.holds Tryz.pinned (.plain (OpenSpec.ofChange kernelHotSpec)) kernelHotCard

/-- THE TIED CARD OF 'davitlaw28.KernelCounts'. -/
def kernelCountsCard : Claim7 := { stood := { row := kernelCountsRow, standIns := [], harness := (true, "f6e9977f7bba549c8414f4f1bc2cd538d47e03bc58c88a616f8717993b4835d7"), looks := false }, kinds := [], alts := [], laidByText := true, laidKinds := [.data], laidTests := true, laidLooks := .later }
def KernelCountsCardSaid : Prop := Claim7.holds Tryz.pinned (.plain (OpenSpec.ofChange kernelCountsSpec)) kernelCountsCard

/-- THE SECOND FORM's CARD OF 'davitlaw28.KernelActive'. -/
def kernelActiveUptoCard : Claim7 := { stood := { row := kernelActiveUptoRow, standIns := [], harness := (true, "f6e9977f7bba549c8414f4f1bc2cd538d47e03bc58c88a616f8717993b4835d7"), looks := false }, kinds := [], alts := [], laidByText := true, laidKinds := [.data], laidTests := true, laidLooks := .later }
def KernelActiveUptoCardSaid : Prop := Claim7.holds Tryz.pinned (.plain (OpenSpec.upto kernelActiveSpec)) kernelActiveUptoCard

/-- THE SECOND FORM's CARD OF 'davitlaw28.KernelGone'. -/
def kernelGoneUptoCard : Claim7 := { stood := { row := kernelGoneUptoRow, standIns := [], harness := (true, "f6e9977f7bba549c8414f4f1bc2cd538d47e03bc58c88a616f8717993b4835d7"), looks := false }, kinds := [], alts := [], laidByText := true, laidKinds := [.data], laidTests := true, laidLooks := .later }
def KernelGoneUptoCardSaid : Prop := Claim7.holds Tryz.pinned (.plain (OpenSpec.upto kernelGoneSpec)) kernelGoneUptoCard

/-- THE SECOND FORM's CARD OF 'davitlaw28.KernelHot'. -/
def kernelHotUptoCard : Claim7 := { stood := { row := kernelHotUptoRow, standIns := [], harness := (true, "f6e9977f7bba549c8414f4f1bc2cd538d47e03bc58c88a616f8717993b4835d7"), looks := false }, kinds := [], alts := [], laidByText := true, laidKinds := [.data], laidTests := true, laidLooks := .later }
def KernelHotUptoCardSaid : Prop := Claim7.holds Tryz.pinned (.plain (OpenSpec.upto kernelHotSpec)) kernelHotUptoCard

/-- THE SECOND FORM's CARD OF 'davitlaw28.KernelCounts'. -/
def kernelCountsUptoCard : Claim7 := { stood := { row := kernelCountsUptoRow, standIns := [], harness := (true, "f6e9977f7bba549c8414f4f1bc2cd538d47e03bc58c88a616f8717993b4835d7"), looks := false }, kinds := [], alts := [], laidByText := true, laidKinds := [.data], laidTests := true, laidLooks := .later }
def KernelCountsUptoCardSaid : Prop := Claim7.holds Tryz.pinned (.plain (OpenSpec.upto kernelCountsSpec)) kernelCountsUptoCard
end Rows
end Go.Proofs.YtdlhlfpigcgapaaGreatDoor
