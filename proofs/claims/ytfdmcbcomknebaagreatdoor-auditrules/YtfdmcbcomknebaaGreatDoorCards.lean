/-
  DERIVED. GIVEN WITH THE SEED: THE CARDS: each row of YtfdmcbcomknebaaGreatDoorRows.lean that lists a variable, with what it lists TIED to the program's text (the seventh form; the later family's looks); each row that meets fmt, with fmt's text TOLD by the authors' own Lean function (tested against real Go, not proved from fmt's source: count such statements apart). THE CARD IS WHAT COUNTS. Prove the row's statement (the work); the ties are given (YtfdmcbcomknebaaGreatDoorTie.lean); close each card by the builder's one call (the guide's Derived/Test/ToyasCard.lean, 'card_holds'). Laid BY PROGRAM, IN A SANDBOX (cutbox-door.mjs). By AI agents, Wed Nov 11 2026. No macro, syntax, notation, axiom, sorry.
-/
import Derived.Test.YtfdmcbcomknebaaGreatDoorRows
import GoSem.ClaimSeven
namespace Go.Proofs.YtfdmcbcomknebaaGreatDoor
namespace Rows

/-- THE TIED CARD OF 'davitlaw35.AuditRules'. -/
def auditRulesCard : Claim7 := { stood := { row := auditRulesRow, standIns := [], harness := (true, "b7284fd4daf6b0c68f6ae9f30c01e804b63afe23866a21ec54dcbfa7eae8a595"), looks := false }, kinds := [], alts := [], laidByText := true, laidKinds := [.data], laidTests := true, laidLooks := .later }
def AuditRulesCardSaid : Prop := Claim7.holds Tryz.pinned (.plain (OpenSpec.ofChange auditRulesSpec)) auditRulesCard

/-- THE SECOND FORM's CARD OF 'davitlaw35.AuditRules'. -/
def auditRulesUptoCard : Claim7 := { stood := { row := auditRulesUptoRow, standIns := [], harness := (true, "b7284fd4daf6b0c68f6ae9f30c01e804b63afe23866a21ec54dcbfa7eae8a595"), looks := false }, kinds := [], alts := [], laidByText := true, laidKinds := [.data], laidTests := true, laidLooks := .later }
def AuditRulesUptoCardSaid : Prop := Claim7.holds Tryz.pinned (.plain (OpenSpec.upto auditRulesSpec)) auditRulesUptoCard
end Rows
end Go.Proofs.YtfdmcbcomknebaaGreatDoor
