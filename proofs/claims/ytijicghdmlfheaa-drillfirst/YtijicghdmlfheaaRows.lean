/-
  No cell of these rows narrows 'for every input' (looked for: loops, veiled, ifaces, maps, wideKeys, modest, calm, conditions, laid).
  DERIVED. THE GIVEN ROWS OF THIS SEAT. 4 by the template 'for every input the law returns true; each argument reads behind the call as it read before'; 0 by the template 'total and deterministic' (their statements: YtijicghdmlfheaaTotals.lean).
  GIVEN WITH THE SEED: the statements are not yours to turn. If you find one false, say at which input.
  Laid BY PROGRAM, IN A SANDBOX (cutbox-rows.mjs): the forced cells as the released guide's own fill.sh prints them over the translation f4baa54c94c093e0… (all of the seat's roots in one cut). By AI agents, Wed Nov 11 2026. No macro, syntax, notation, axiom, sorry.
-/
import Derived.Test.YtijicghdmlfheaaChecked
import GoSem.Claim
import GoSem.ClaimJoined
import GoSem.ClaimMapViews
import Derived.JoinedTies
import Derived.KernelRfl
namespace Go.Proofs.Ytijicghdmlfheaa
/- THE CELL 'sum', in the pinned program and in every row, IS THE sha256 OF THE DUMP (.gsa) THAT YtijicghdmlfheaaProg.lean LOADS. Nothing in Lean hashes anything: it is a label: what it is worth is what the hold of that sum in a sandbox is worth. -/
noncomputable def Try.pinned : Pinned := { name := "ytijicghdmlfheaa", sum := "f4baa54c94c093e023eb3868d095c1cc683f53dc44bcaccaf6243c5073ec2d73", checked := Try.checked }
namespace Rows
def none {H : Type} : Left H := { results := [], args := [] }

/-- 'davitlaw37.DrillRolls': WHATEVER THE INPUT: true; the input reads as it did. -/
def drillRollsSpec : ChangeSpec := { name := "drillRolls", fn := fun _ => fun
  | [d1, d2] => { results := [.lit (.bool true)], args := [d1, d2] }
  | _ => none }
def drillRollsRow : OpenClaim := { program := "ytijicghdmlfheaa", sum := "f4baa54c94c093e023eb3868d095c1cc683f53dc44bcaccaf6243c5073ec2d73", func := "davit/davitlaw37.DrillRolls", spec := "drillRolls", unfollowed := true, recurses := true, apart := false }
def DrillRollsSaid : Prop := drillRollsRow.holds Try.pinned (OpenSpec.ofChange drillRollsSpec)

/-- ITS FALSE NEIGHBOUR: 'it returns false'. Refute it at one input. -/
def drillRollsWrong : ChangeSpec := { name := "drillRolls", fn := fun _ => fun
  | [d1, d2] => { results := [.lit (.bool false)], args := [d1, d2] }
  | _ => none }
def DrillRollsWrongFalsely : Prop := drillRollsRow.holds Try.pinned (OpenSpec.ofChange drillRollsWrong)

/-- 'davitlaw37.DrillEvents': WHATEVER THE INPUT: true; the input reads as it did. -/
def drillEventsSpec : ChangeSpec := { name := "drillEvents", fn := fun _ => fun
  | [d1, d2, d3] => { results := [.lit (.bool true)], args := [d1, d2, d3] }
  | _ => none }
def drillEventsRow : OpenClaim := { program := "ytijicghdmlfheaa", sum := "f4baa54c94c093e023eb3868d095c1cc683f53dc44bcaccaf6243c5073ec2d73", func := "davit/davitlaw37.DrillEvents", spec := "drillEvents", unfollowed := true, recurses := true, apart := false }
def DrillEventsSaid : Prop := drillEventsRow.holds Try.pinned (OpenSpec.ofChange drillEventsSpec)

/-- ITS FALSE NEIGHBOUR: 'it returns false'. Refute it at one input. -/
def drillEventsWrong : ChangeSpec := { name := "drillEvents", fn := fun _ => fun
  | [d1, d2, d3] => { results := [.lit (.bool false)], args := [d1, d2, d3] }
  | _ => none }
def DrillEventsWrongFalsely : Prop := drillEventsRow.holds Try.pinned (OpenSpec.ofChange drillEventsWrong)

/-- 'davitlaw37.DrillFirst': WHATEVER THE INPUT: true; the input reads as it did. -/
def drillFirstSpec : ChangeSpec := { name := "drillFirst", fn := fun _ => fun
  | [d1, d2, d3, d4] => { results := [.lit (.bool true)], args := [d1, d2, d3, d4] }
  | _ => none }
def drillFirstRow : OpenClaim := { program := "ytijicghdmlfheaa", sum := "f4baa54c94c093e023eb3868d095c1cc683f53dc44bcaccaf6243c5073ec2d73", func := "davit/davitlaw37.DrillFirst", spec := "drillFirst", unfollowed := true, recurses := true, apart := false }
def DrillFirstSaid : Prop := drillFirstRow.holds Try.pinned (OpenSpec.ofChange drillFirstSpec)

/-- ITS FALSE NEIGHBOUR: 'it returns false'. Refute it at one input. -/
def drillFirstWrong : ChangeSpec := { name := "drillFirst", fn := fun _ => fun
  | [d1, d2, d3, d4] => { results := [.lit (.bool false)], args := [d1, d2, d3, d4] }
  | _ => none }
def DrillFirstWrongFalsely : Prop := drillFirstRow.holds Try.pinned (OpenSpec.ofChange drillFirstWrong)

/-- 'davitlaw37.DrillNil': WHATEVER THE INPUT: true; the input reads as it did. -/
def drillNilSpec : ChangeSpec := { name := "drillNil", fn := fun _ => fun
  | [d1, d2] => { results := [.lit (.bool true)], args := [d1, d2] }
  | _ => none }
def drillNilRow : OpenClaim := { program := "ytijicghdmlfheaa", sum := "f4baa54c94c093e023eb3868d095c1cc683f53dc44bcaccaf6243c5073ec2d73", func := "davit/davitlaw37.DrillNil", spec := "drillNil", unfollowed := true, recurses := true, apart := false }
def DrillNilSaid : Prop := drillNilRow.holds Try.pinned (OpenSpec.ofChange drillNilSpec)

/-- ITS FALSE NEIGHBOUR: 'it returns false'. Refute it at one input. -/
def drillNilWrong : ChangeSpec := { name := "drillNil", fn := fun _ => fun
  | [d1, d2] => { results := [.lit (.bool false)], args := [d1, d2] }
  | _ => none }
def DrillNilWrongFalsely : Prop := drillNilRow.holds Try.pinned (OpenSpec.ofChange drillNilWrong)

/- THE SECOND FORM. 'bulk': how many values and letters a reading holds, each counted each time it is reached (what is shared counts as often as it is met; a slice's spare places count too). A statement '..UptoSaid' is the law's where the arguments, and the package variables that the reading takes, are together of bulk at most 1048576: NARROWER than '..Said'. Prove '..Said' where nothing that the law and all that it calls make is longer than what came in: it says more and counts as full. Else prove '..UptoSaid'. A law counts once. -/
mutual
def uptoBulk {H : Type} : DataW H → Nat
  | .lit (.string bytes) => bytes.length + 1
  | .lit _ => 1
  | .nil => 1
  | .ptr d => uptoBulk d + 1
  | .slice elems spare => uptoBulkAll elems + uptoBulkAll spare + 1
  | .agg parts => uptoBulkAll parts + 1
  | .iface _ d => uptoBulk d + 1
  | .map entries => uptoBulkEntries entries + 1
  | .held _ => 1
def uptoBulkAll {H : Type} : List (DataW H) → Nat
  | [] => 0
  | d :: r => uptoBulk d + uptoBulkAll r
def uptoBulkEntries {H : Type} : List (Lit × DataW H) → Nat
  | [] => 0
  | x :: r => uptoBulkEntry x + uptoBulkEntries r
def uptoBulkEntry {H : Type} : Lit × DataW H → Nat
  | (.string bytes, d) => bytes.length + uptoBulk d + 1
  | (_, d) => uptoBulk d + 1
 end
def uptoSmall : (H : Type) → List (DataW H) → Bool := fun _ ds => decide (uptoBulkAll ds ≤ 1048576)
def OpenSpec.upto (s : _root_.Go.ChangeSpec) : _root_.Go.OpenSpec := { _root_.Go.OpenSpec.ofChange s with cond := some uptoSmall }

/-- 'davitlaw37.DrillRolls', WHERE WHAT IT READS IS OF BULK AT MOST 1048576: true; the input reads as it did. -/
def drillRollsUptoRow : OpenClaim := { program := "ytijicghdmlfheaa", sum := "f4baa54c94c093e023eb3868d095c1cc683f53dc44bcaccaf6243c5073ec2d73", func := "davit/davitlaw37.DrillRolls", spec := "drillRolls", unfollowed := true, recurses := true, apart := false, narrowed := true }
def DrillRollsUptoSaid : Prop := drillRollsUptoRow.holds Try.pinned (OpenSpec.upto drillRollsSpec)

/-- 'davitlaw37.DrillEvents', WHERE WHAT IT READS IS OF BULK AT MOST 1048576: true; the input reads as it did. -/
def drillEventsUptoRow : OpenClaim := { program := "ytijicghdmlfheaa", sum := "f4baa54c94c093e023eb3868d095c1cc683f53dc44bcaccaf6243c5073ec2d73", func := "davit/davitlaw37.DrillEvents", spec := "drillEvents", unfollowed := true, recurses := true, apart := false, narrowed := true }
def DrillEventsUptoSaid : Prop := drillEventsUptoRow.holds Try.pinned (OpenSpec.upto drillEventsSpec)

/-- 'davitlaw37.DrillFirst', WHERE WHAT IT READS IS OF BULK AT MOST 1048576: true; the input reads as it did. -/
def drillFirstUptoRow : OpenClaim := { program := "ytijicghdmlfheaa", sum := "f4baa54c94c093e023eb3868d095c1cc683f53dc44bcaccaf6243c5073ec2d73", func := "davit/davitlaw37.DrillFirst", spec := "drillFirst", unfollowed := true, recurses := true, apart := false, narrowed := true }
def DrillFirstUptoSaid : Prop := drillFirstUptoRow.holds Try.pinned (OpenSpec.upto drillFirstSpec)

/-- 'davitlaw37.DrillNil', WHERE WHAT IT READS IS OF BULK AT MOST 1048576: true; the input reads as it did. -/
def drillNilUptoRow : OpenClaim := { program := "ytijicghdmlfheaa", sum := "f4baa54c94c093e023eb3868d095c1cc683f53dc44bcaccaf6243c5073ec2d73", func := "davit/davitlaw37.DrillNil", spec := "drillNil", unfollowed := true, recurses := true, apart := false, narrowed := true }
def DrillNilUptoSaid : Prop := drillNilUptoRow.holds Try.pinned (OpenSpec.upto drillNilSpec)

end Rows
end Go.Proofs.Ytijicghdmlfheaa
