/-
  No cell of these rows narrows 'for every input' (looked for: loops, veiled, ifaces, maps, wideKeys, modest, calm, conditions, laid).
  DERIVED. THE GIVEN ROWS OF THIS SEAT. 6 by the template 'for every input the law returns true; each argument reads behind the call as it read before'; 0 by the template 'total and deterministic' (their statements: YtaaikbehdfkhlaaTotals.lean).
  GIVEN WITH THE SEED: the statements are not yours to turn. If you find one false, say at which input.
  Laid BY PROGRAM, IN A SANDBOX (cutbox-rows.mjs): the forced cells as the released guide's own fill.sh prints them over the translation 30579c04edfbc513… (all of the seat's roots in one cut). By AI agents, Wed Nov 11 2026. No macro, syntax, notation, axiom, sorry.
-/
import Derived.Test.YtaaikbehdfkhlaaChecked
import GoSem.Claim
import GoSem.ClaimJoined
import GoSem.ClaimMapViews
import Derived.JoinedTies
import Derived.KernelRfl
namespace Go.Proofs.Ytaaikbehdfkhlaa
/- THE CELL 'sum', in the pinned program and in every row, IS THE sha256 OF THE DUMP (.gsa) THAT YtaaikbehdfkhlaaProg.lean LOADS. Nothing in Lean hashes anything: it is a label: what it is worth is what the hold of that sum in a sandbox is worth. -/
noncomputable def Try.pinned : Pinned := { name := "ytaaikbehdfkhlaa", sum := "30579c04edfbc5135745a06077857e42a0f4c8d94b728ffa26b46ad3a24d104f", checked := Try.checked }
namespace Rows
def none {H : Type} : Left H := { results := [], args := [] }

/-- 'davitlaw21.StagePlays': WHATEVER THE INPUT: true; the input reads as it did. -/
def stagePlaysSpec : ChangeSpec := { name := "stagePlays", fn := fun _ => fun
  | [d1, d2] => { results := [.lit (.bool true)], args := [d1, d2] }
  | _ => none }
def stagePlaysRow : OpenClaim := { program := "ytaaikbehdfkhlaa", sum := "30579c04edfbc5135745a06077857e42a0f4c8d94b728ffa26b46ad3a24d104f", func := "davit/davitlaw21.StagePlays", spec := "stagePlays", apart := false }
def StagePlaysSaid : Prop := stagePlaysRow.holds Try.pinned (OpenSpec.ofChange stagePlaysSpec)

/-- ITS FALSE NEIGHBOUR: 'it returns false'. Refute it at one input. -/
def stagePlaysWrong : ChangeSpec := { name := "stagePlays", fn := fun _ => fun
  | [d1, d2] => { results := [.lit (.bool false)], args := [d1, d2] }
  | _ => none }
def StagePlaysWrongFalsely : Prop := stagePlaysRow.holds Try.pinned (OpenSpec.ofChange stagePlaysWrong)

/-- 'davitlaw21.StageUndoes': WHATEVER THE INPUT: true; the input reads as it did. -/
def stageUndoesSpec : ChangeSpec := { name := "stageUndoes", fn := fun _ => fun
  | [d1, d2] => { results := [.lit (.bool true)], args := [d1, d2] }
  | _ => none }
def stageUndoesRow : OpenClaim := { program := "ytaaikbehdfkhlaa", sum := "30579c04edfbc5135745a06077857e42a0f4c8d94b728ffa26b46ad3a24d104f", func := "davit/davitlaw21.StageUndoes", spec := "stageUndoes", apart := false }
def StageUndoesSaid : Prop := stageUndoesRow.holds Try.pinned (OpenSpec.ofChange stageUndoesSpec)

/-- ITS FALSE NEIGHBOUR: 'it returns false'. Refute it at one input. -/
def stageUndoesWrong : ChangeSpec := { name := "stageUndoes", fn := fun _ => fun
  | [d1, d2] => { results := [.lit (.bool false)], args := [d1, d2] }
  | _ => none }
def StageUndoesWrongFalsely : Prop := stageUndoesRow.holds Try.pinned (OpenSpec.ofChange stageUndoesWrong)

/-- 'davitlaw21.StageNil': WHATEVER THE INPUT: true; the input reads as it did. -/
def stageNilSpec : ChangeSpec := { name := "stageNil", fn := fun _ => fun
  | [d] => { results := [.lit (.bool true)], args := [d] }
  | _ => none }
def stageNilRow : OpenClaim := { program := "ytaaikbehdfkhlaa", sum := "30579c04edfbc5135745a06077857e42a0f4c8d94b728ffa26b46ad3a24d104f", func := "davit/davitlaw21.StageNil", spec := "stageNil", apart := false }
def StageNilSaid : Prop := stageNilRow.holds Try.pinned (OpenSpec.ofChange stageNilSpec)

/-- ITS FALSE NEIGHBOUR: 'it returns false'. Refute it at one input. -/
def stageNilWrong : ChangeSpec := { name := "stageNil", fn := fun _ => fun
  | [d] => { results := [.lit (.bool false)], args := [d] }
  | _ => none }
def StageNilWrongFalsely : Prop := stageNilRow.holds Try.pinned (OpenSpec.ofChange stageNilWrong)

/-- 'davitlaw22.HotPlays': WHATEVER THE INPUT: true; the input reads as it did. -/
def hotPlaysSpec : ChangeSpec := { name := "hotPlays", fn := fun _ => fun
  | [d] => { results := [.lit (.bool true)], args := [d] }
  | _ => none }
def hotPlaysRow : OpenClaim := { program := "ytaaikbehdfkhlaa", sum := "30579c04edfbc5135745a06077857e42a0f4c8d94b728ffa26b46ad3a24d104f", func := "davit/davitlaw22.HotPlays", spec := "hotPlays", apart := false }
def HotPlaysSaid : Prop := hotPlaysRow.holds Try.pinned (OpenSpec.ofChange hotPlaysSpec)

/-- ITS FALSE NEIGHBOUR: 'it returns false'. Refute it at one input. -/
def hotPlaysWrong : ChangeSpec := { name := "hotPlays", fn := fun _ => fun
  | [d] => { results := [.lit (.bool false)], args := [d] }
  | _ => none }
def HotPlaysWrongFalsely : Prop := hotPlaysRow.holds Try.pinned (OpenSpec.ofChange hotPlaysWrong)

/-- 'davitlaw22.HotFails': WHATEVER THE INPUT: true; the input reads as it did. -/
def hotFailsSpec : ChangeSpec := { name := "hotFails", fn := fun _ => fun
  | [d1, d2] => { results := [.lit (.bool true)], args := [d1, d2] }
  | _ => none }
def hotFailsRow : OpenClaim := { program := "ytaaikbehdfkhlaa", sum := "30579c04edfbc5135745a06077857e42a0f4c8d94b728ffa26b46ad3a24d104f", func := "davit/davitlaw22.HotFails", spec := "hotFails", apart := false }
def HotFailsSaid : Prop := hotFailsRow.holds Try.pinned (OpenSpec.ofChange hotFailsSpec)

/-- ITS FALSE NEIGHBOUR: 'it returns false'. Refute it at one input. -/
def hotFailsWrong : ChangeSpec := { name := "hotFails", fn := fun _ => fun
  | [d1, d2] => { results := [.lit (.bool false)], args := [d1, d2] }
  | _ => none }
def HotFailsWrongFalsely : Prop := hotFailsRow.holds Try.pinned (OpenSpec.ofChange hotFailsWrong)

/-- 'davitlaw22.HotNil': WHATEVER THE INPUT: true; the input reads as it did. -/
def hotNilSpec : ChangeSpec := { name := "hotNil", fn := fun _ => fun
  | [d1, d2] => { results := [.lit (.bool true)], args := [d1, d2] }
  | _ => none }
def hotNilRow : OpenClaim := { program := "ytaaikbehdfkhlaa", sum := "30579c04edfbc5135745a06077857e42a0f4c8d94b728ffa26b46ad3a24d104f", func := "davit/davitlaw22.HotNil", spec := "hotNil", apart := false }
def HotNilSaid : Prop := hotNilRow.holds Try.pinned (OpenSpec.ofChange hotNilSpec)

/-- ITS FALSE NEIGHBOUR: 'it returns false'. Refute it at one input. -/
def hotNilWrong : ChangeSpec := { name := "hotNil", fn := fun _ => fun
  | [d1, d2] => { results := [.lit (.bool false)], args := [d1, d2] }
  | _ => none }
def HotNilWrongFalsely : Prop := hotNilRow.holds Try.pinned (OpenSpec.ofChange hotNilWrong)

/- THE SECOND FORM. 'bulk': how many values and letters a reading holds, each counted each time it is reached (what is shared counts as often as it is met; a slice's spare places count too). A statement '..UptoSaid' is the law's where the arguments, and the package variables that the reading takes, are together of bulk at most 1048576: NARROWER than '..Said'. Prove '..Said' where nothing that the law and all that it calls make is longer than what came in: it says more and counts as full. Else prove '..UptoSaid'. A law counts once. -/
mutual
def uptoBulk {H : Type} : DataW H → Nat
  | .lit (.string bytes) => bytes.length + 1
  | .lit _ => 1
  | .nil => 1
  | .ptr d => uptoBulk d + 1
  | .slice elems spare => uptoBulkAll elems + uptoBulkAll spare + 1
  | .agg parts => uptoBulkAll parts + 1
  | .iface _ d => uptoBulk d + 1
  | .map entries => uptoBulkEntries entries + 1
  | .held _ => 1
def uptoBulkAll {H : Type} : List (DataW H) → Nat
  | [] => 0
  | d :: r => uptoBulk d + uptoBulkAll r
def uptoBulkEntries {H : Type} : List (Lit × DataW H) → Nat
  | [] => 0
  | x :: r => uptoBulkEntry x + uptoBulkEntries r
def uptoBulkEntry {H : Type} : Lit × DataW H → Nat
  | (.string bytes, d) => bytes.length + uptoBulk d + 1
  | (_, d) => uptoBulk d + 1
 end
def uptoSmall : (H : Type) → List (DataW H) → Bool := fun _ ds => decide (uptoBulkAll ds ≤ 1048576)
def OpenSpec.upto (s : _root_.Go.ChangeSpec) : _root_.Go.OpenSpec := { _root_.Go.OpenSpec.ofChange s with cond := some uptoSmall }

/-- 'davitlaw21.StagePlays', WHERE WHAT IT READS IS OF BULK AT MOST 1048576: true; the input reads as it did. -/
def stagePlaysUptoRow : OpenClaim := { program := "ytaaikbehdfkhlaa", sum := "30579c04edfbc5135745a06077857e42a0f4c8d94b728ffa26b46ad3a24d104f", func := "davit/davitlaw21.StagePlays", spec := "stagePlays", apart := false, narrowed := true }
def StagePlaysUptoSaid : Prop := stagePlaysUptoRow.holds Try.pinned (OpenSpec.upto stagePlaysSpec)

/-- 'davitlaw21.StageUndoes', WHERE WHAT IT READS IS OF BULK AT MOST 1048576: true; the input reads as it did. -/
def stageUndoesUptoRow : OpenClaim := { program := "ytaaikbehdfkhlaa", sum := "30579c04edfbc5135745a06077857e42a0f4c8d94b728ffa26b46ad3a24d104f", func := "davit/davitlaw21.StageUndoes", spec := "stageUndoes", apart := false, narrowed := true }
def StageUndoesUptoSaid : Prop := stageUndoesUptoRow.holds Try.pinned (OpenSpec.upto stageUndoesSpec)

/-- 'davitlaw21.StageNil', WHERE WHAT IT READS IS OF BULK AT MOST 1048576: true; the input reads as it did. -/
def stageNilUptoRow : OpenClaim := { program := "ytaaikbehdfkhlaa", sum := "30579c04edfbc5135745a06077857e42a0f4c8d94b728ffa26b46ad3a24d104f", func := "davit/davitlaw21.StageNil", spec := "stageNil", apart := false, narrowed := true }
def StageNilUptoSaid : Prop := stageNilUptoRow.holds Try.pinned (OpenSpec.upto stageNilSpec)

/-- 'davitlaw22.HotPlays', WHERE WHAT IT READS IS OF BULK AT MOST 1048576: true; the input reads as it did. -/
def hotPlaysUptoRow : OpenClaim := { program := "ytaaikbehdfkhlaa", sum := "30579c04edfbc5135745a06077857e42a0f4c8d94b728ffa26b46ad3a24d104f", func := "davit/davitlaw22.HotPlays", spec := "hotPlays", apart := false, narrowed := true }
def HotPlaysUptoSaid : Prop := hotPlaysUptoRow.holds Try.pinned (OpenSpec.upto hotPlaysSpec)

/-- 'davitlaw22.HotFails', WHERE WHAT IT READS IS OF BULK AT MOST 1048576: true; the input reads as it did. -/
def hotFailsUptoRow : OpenClaim := { program := "ytaaikbehdfkhlaa", sum := "30579c04edfbc5135745a06077857e42a0f4c8d94b728ffa26b46ad3a24d104f", func := "davit/davitlaw22.HotFails", spec := "hotFails", apart := false, narrowed := true }
def HotFailsUptoSaid : Prop := hotFailsUptoRow.holds Try.pinned (OpenSpec.upto hotFailsSpec)

/-- 'davitlaw22.HotNil', WHERE WHAT IT READS IS OF BULK AT MOST 1048576: true; the input reads as it did. -/
def hotNilUptoRow : OpenClaim := { program := "ytaaikbehdfkhlaa", sum := "30579c04edfbc5135745a06077857e42a0f4c8d94b728ffa26b46ad3a24d104f", func := "davit/davitlaw22.HotNil", spec := "hotNil", apart := false, narrowed := true }
def HotNilUptoSaid : Prop := hotNilUptoRow.holds Try.pinned (OpenSpec.upto hotNilSpec)

end Rows
end Go.Proofs.Ytaaikbehdfkhlaa
