/-
  NARROWER THAN 'FOR EVERY INPUT', by the rows' own cells (each row's printed sentence says how): WorkPlays: laid · WorkOnce: laid · WorkNil: laid · CallPlays: laid · CallOnce: laid · CallNil: laid.
  DERIVED. THE GIVEN ROWS OF THIS SEAT. 6 by the template 'for every input the law returns true; each argument reads behind the call as it read before'; 0 by the template 'total and deterministic' (their statements: YtofdhljgchefgaaDoorTotals.lean).
  GIVEN WITH THE SEED: the statements are not yours to turn. If you find one false, say at which input.
  Laid BY PROGRAM, IN A SANDBOX (cutbox-rows.mjs): the forced cells as the released guide's own fill.sh prints them over the translation 7d31eb2a3b834f0b… (all of the seat's roots in one cut). By AI agents, Wed Nov 11 2026. No macro, syntax, notation, axiom, sorry.
-/
import Derived.Test.YtofdhljgchefgaaDoorChecked
import GoSem.Claim
import GoSem.ClaimJoined
import GoSem.ClaimMapViews
import Derived.JoinedTies
import Derived.KernelRfl
namespace Go.Proofs.YtofdhljgchefgaaDoor
/- THE CELL 'sum', in the pinned program and in every row, IS THE sha256 OF THE DUMP (.gsa) THAT YtofdhljgchefgaaDoorProg.lean LOADS. Nothing in Lean hashes anything: it is a label: what it is worth is what the hold of that sum in a sandbox is worth. -/
noncomputable def Tryd.pinned : Pinned := { name := "ytofdhljgchefgaadoor", sum := "7d31eb2a3b834f0bd256a09ec26e7558c375f87580b3dc362fb7b416ec7e6b6c", checked := Tryd.checked }
namespace Rows
def none {H : Type} : Left H := { results := [], args := [] }

/- WHAT THE LISTED PACKAGE-LEVEL VARIABLES READ AS WHEN THE CALL BEGINS. Each datum BY PROGRAM (the guide's laid-datum.mjs) off the statement by which the dump's own 'gosem.cut.vars' lays the variable. In a bare row this is a premise. The card (YtofdhljgchefgaaDoorCards.lean) ties it to the program's text. -/
def laid_math_bits_deBruijn64tab {H : Type} : DataW H := .agg [.lit (.int .u8 0), .lit (.int .u8 1), .lit (.int .u8 56), .lit (.int .u8 2), .lit (.int .u8 57), .lit (.int .u8 49), .lit (.int .u8 28), .lit (.int .u8 3), .lit (.int .u8 61), .lit (.int .u8 58), .lit (.int .u8 42), .lit (.int .u8 50), .lit (.int .u8 38), .lit (.int .u8 29), .lit (.int .u8 17), .lit (.int .u8 4), .lit (.int .u8 62), .lit (.int .u8 47), .lit (.int .u8 59), .lit (.int .u8 36), .lit (.int .u8 45), .lit (.int .u8 43), .lit (.int .u8 51), .lit (.int .u8 22), .lit (.int .u8 53), .lit (.int .u8 39), .lit (.int .u8 33), .lit (.int .u8 30), .lit (.int .u8 24), .lit (.int .u8 18), .lit (.int .u8 12), .lit (.int .u8 5), .lit (.int .u8 63), .lit (.int .u8 55), .lit (.int .u8 48), .lit (.int .u8 27), .lit (.int .u8 60), .lit (.int .u8 41), .lit (.int .u8 37), .lit (.int .u8 16), .lit (.int .u8 46), .lit (.int .u8 35), .lit (.int .u8 44), .lit (.int .u8 21), .lit (.int .u8 52), .lit (.int .u8 32), .lit (.int .u8 23), .lit (.int .u8 11), .lit (.int .u8 54), .lit (.int .u8 26), .lit (.int .u8 40), .lit (.int .u8 15), .lit (.int .u8 34), .lit (.int .u8 20), .lit (.int .u8 31), .lit (.int .u8 10), .lit (.int .u8 25), .lit (.int .u8 14), .lit (.int .u8 19), .lit (.int .u8 9), .lit (.int .u8 13), .lit (.int .u8 8), .lit (.int .u8 7), .lit (.int .u8 6)]

/-- 'davitlaw17.WorkPlays': WHATEVER THE INPUT: true; the input reads as it did. -/
def workPlaysSpec : ChangeSpec := { name := "workPlays", fn := fun _ => fun
  | [d1, d2] => { results := [.lit (.bool true)], args := [d1, d2] }
  | _ => none }
def workPlaysRow : OpenClaim := { program := "ytofdhljgchefgaadoor", sum := "7d31eb2a3b834f0bd256a09ec26e7558c375f87580b3dc362fb7b416ec7e6b6c", func := "davit/davitlaw17.WorkPlays", spec := "workPlays", named := ["math/bits.deBruijn64tab"], apart := false, laid := [("math/bits.deBruijn64tab", laid_math_bits_deBruijn64tab)] }
def WorkPlaysSaid : Prop := workPlaysRow.holds Tryd.pinned (OpenSpec.ofChange workPlaysSpec)

/-- ITS FALSE NEIGHBOUR: 'it returns false'. Refute it at one input. -/
def workPlaysWrong : ChangeSpec := { name := "workPlays", fn := fun _ => fun
  | [d1, d2] => { results := [.lit (.bool false)], args := [d1, d2] }
  | _ => none }
def WorkPlaysWrongFalsely : Prop := workPlaysRow.holds Tryd.pinned (OpenSpec.ofChange workPlaysWrong)

/-- 'davitlaw17.WorkOnce': WHATEVER THE INPUT: true; the input reads as it did. -/
def workOnceSpec : ChangeSpec := { name := "workOnce", fn := fun _ => fun
  | [d1, d2] => { results := [.lit (.bool true)], args := [d1, d2] }
  | _ => none }
def workOnceRow : OpenClaim := { program := "ytofdhljgchefgaadoor", sum := "7d31eb2a3b834f0bd256a09ec26e7558c375f87580b3dc362fb7b416ec7e6b6c", func := "davit/davitlaw17.WorkOnce", spec := "workOnce", named := ["math/bits.deBruijn64tab"], apart := false, laid := [("math/bits.deBruijn64tab", laid_math_bits_deBruijn64tab)] }
def WorkOnceSaid : Prop := workOnceRow.holds Tryd.pinned (OpenSpec.ofChange workOnceSpec)

/-- ITS FALSE NEIGHBOUR: 'it returns false'. Refute it at one input. -/
def workOnceWrong : ChangeSpec := { name := "workOnce", fn := fun _ => fun
  | [d1, d2] => { results := [.lit (.bool false)], args := [d1, d2] }
  | _ => none }
def WorkOnceWrongFalsely : Prop := workOnceRow.holds Tryd.pinned (OpenSpec.ofChange workOnceWrong)

/-- 'davitlaw17.WorkNil': WHATEVER THE INPUT: true; the input reads as it did. -/
def workNilSpec : ChangeSpec := { name := "workNil", fn := fun _ => fun
  | [d1, d2] => { results := [.lit (.bool true)], args := [d1, d2] }
  | _ => none }
def workNilRow : OpenClaim := { program := "ytofdhljgchefgaadoor", sum := "7d31eb2a3b834f0bd256a09ec26e7558c375f87580b3dc362fb7b416ec7e6b6c", func := "davit/davitlaw17.WorkNil", spec := "workNil", named := ["math/bits.deBruijn64tab"], apart := false, laid := [("math/bits.deBruijn64tab", laid_math_bits_deBruijn64tab)] }
def WorkNilSaid : Prop := workNilRow.holds Tryd.pinned (OpenSpec.ofChange workNilSpec)

/-- ITS FALSE NEIGHBOUR: 'it returns false'. Refute it at one input. -/
def workNilWrong : ChangeSpec := { name := "workNil", fn := fun _ => fun
  | [d1, d2] => { results := [.lit (.bool false)], args := [d1, d2] }
  | _ => none }
def WorkNilWrongFalsely : Prop := workNilRow.holds Tryd.pinned (OpenSpec.ofChange workNilWrong)

/-- 'davitlaw18.CallPlays': WHATEVER THE INPUT: true; the input reads as it did. -/
def callPlaysSpec : ChangeSpec := { name := "callPlays", fn := fun _ => fun
  | [d1, d2] => { results := [.lit (.bool true)], args := [d1, d2] }
  | _ => none }
def callPlaysRow : OpenClaim := { program := "ytofdhljgchefgaadoor", sum := "7d31eb2a3b834f0bd256a09ec26e7558c375f87580b3dc362fb7b416ec7e6b6c", func := "davit/davitlaw18.CallPlays", spec := "callPlays", named := ["math/bits.deBruijn64tab"], apart := false, laid := [("math/bits.deBruijn64tab", laid_math_bits_deBruijn64tab)] }
def CallPlaysSaid : Prop := callPlaysRow.holds Tryd.pinned (OpenSpec.ofChange callPlaysSpec)

/-- ITS FALSE NEIGHBOUR: 'it returns false'. Refute it at one input. -/
def callPlaysWrong : ChangeSpec := { name := "callPlays", fn := fun _ => fun
  | [d1, d2] => { results := [.lit (.bool false)], args := [d1, d2] }
  | _ => none }
def CallPlaysWrongFalsely : Prop := callPlaysRow.holds Tryd.pinned (OpenSpec.ofChange callPlaysWrong)

/-- 'davitlaw18.CallOnce': WHATEVER THE INPUT: true; the input reads as it did. -/
def callOnceSpec : ChangeSpec := { name := "callOnce", fn := fun _ => fun
  | [d1, d2] => { results := [.lit (.bool true)], args := [d1, d2] }
  | _ => none }
def callOnceRow : OpenClaim := { program := "ytofdhljgchefgaadoor", sum := "7d31eb2a3b834f0bd256a09ec26e7558c375f87580b3dc362fb7b416ec7e6b6c", func := "davit/davitlaw18.CallOnce", spec := "callOnce", named := ["math/bits.deBruijn64tab"], apart := false, laid := [("math/bits.deBruijn64tab", laid_math_bits_deBruijn64tab)] }
def CallOnceSaid : Prop := callOnceRow.holds Tryd.pinned (OpenSpec.ofChange callOnceSpec)

/-- ITS FALSE NEIGHBOUR: 'it returns false'. Refute it at one input. -/
def callOnceWrong : ChangeSpec := { name := "callOnce", fn := fun _ => fun
  | [d1, d2] => { results := [.lit (.bool false)], args := [d1, d2] }
  | _ => none }
def CallOnceWrongFalsely : Prop := callOnceRow.holds Tryd.pinned (OpenSpec.ofChange callOnceWrong)

/-- 'davitlaw18.CallNil': WHATEVER THE INPUT: true; the input reads as it did. -/
def callNilSpec : ChangeSpec := { name := "callNil", fn := fun _ => fun
  | [d1, d2] => { results := [.lit (.bool true)], args := [d1, d2] }
  | _ => none }
def callNilRow : OpenClaim := { program := "ytofdhljgchefgaadoor", sum := "7d31eb2a3b834f0bd256a09ec26e7558c375f87580b3dc362fb7b416ec7e6b6c", func := "davit/davitlaw18.CallNil", spec := "callNil", named := ["math/bits.deBruijn64tab"], apart := false, laid := [("math/bits.deBruijn64tab", laid_math_bits_deBruijn64tab)] }
def CallNilSaid : Prop := callNilRow.holds Tryd.pinned (OpenSpec.ofChange callNilSpec)

/-- ITS FALSE NEIGHBOUR: 'it returns false'. Refute it at one input. -/
def callNilWrong : ChangeSpec := { name := "callNil", fn := fun _ => fun
  | [d1, d2] => { results := [.lit (.bool false)], args := [d1, d2] }
  | _ => none }
def CallNilWrongFalsely : Prop := callNilRow.holds Tryd.pinned (OpenSpec.ofChange callNilWrong)

/- THE SECOND FORM. 'bulk': how many values and letters a reading holds, each counted each time it is reached (what is shared counts as often as it is met; a slice's spare places count too). A statement '..UptoSaid' is the law's where the arguments, and the package variables that the reading takes, are together of bulk at most 1048576: NARROWER than '..Said'. Prove '..Said' where nothing that the law and all that it calls make is longer than what came in: it says more and counts as full. Else prove '..UptoSaid'. A law counts once. -/
mutual
def uptoBulk {H : Type} : DataW H → Nat
  | .lit (.string bytes) => bytes.length + 1
  | .lit _ => 1
  | .nil => 1
  | .ptr d => uptoBulk d + 1
  | .slice elems spare => uptoBulkAll elems + uptoBulkAll spare + 1
  | .agg parts => uptoBulkAll parts + 1
  | .iface _ d => uptoBulk d + 1
  | .map entries => uptoBulkEntries entries + 1
  | .held _ => 1
def uptoBulkAll {H : Type} : List (DataW H) → Nat
  | [] => 0
  | d :: r => uptoBulk d + uptoBulkAll r
def uptoBulkEntries {H : Type} : List (Lit × DataW H) → Nat
  | [] => 0
  | x :: r => uptoBulkEntry x + uptoBulkEntries r
def uptoBulkEntry {H : Type} : Lit × DataW H → Nat
  | (.string bytes, d) => bytes.length + uptoBulk d + 1
  | (_, d) => uptoBulk d + 1
 end
def uptoSmall : (H : Type) → List (DataW H) → Bool := fun _ ds => decide (uptoBulkAll ds ≤ 1048576)
def OpenSpec.upto (s : _root_.Go.ChangeSpec) : _root_.Go.OpenSpec := { _root_.Go.OpenSpec.ofChange s with cond := some uptoSmall }

/-- 'davitlaw17.WorkPlays', WHERE WHAT IT READS IS OF BULK AT MOST 1048576: true; the input reads as it did. -/
def workPlaysUptoRow : OpenClaim := { program := "ytofdhljgchefgaadoor", sum := "7d31eb2a3b834f0bd256a09ec26e7558c375f87580b3dc362fb7b416ec7e6b6c", func := "davit/davitlaw17.WorkPlays", spec := "workPlays", named := ["math/bits.deBruijn64tab"], apart := false, laid := [("math/bits.deBruijn64tab", laid_math_bits_deBruijn64tab)], narrowed := true }
def WorkPlaysUptoSaid : Prop := workPlaysUptoRow.holds Tryd.pinned (OpenSpec.upto workPlaysSpec)

/-- 'davitlaw17.WorkOnce', WHERE WHAT IT READS IS OF BULK AT MOST 1048576: true; the input reads as it did. -/
def workOnceUptoRow : OpenClaim := { program := "ytofdhljgchefgaadoor", sum := "7d31eb2a3b834f0bd256a09ec26e7558c375f87580b3dc362fb7b416ec7e6b6c", func := "davit/davitlaw17.WorkOnce", spec := "workOnce", named := ["math/bits.deBruijn64tab"], apart := false, laid := [("math/bits.deBruijn64tab", laid_math_bits_deBruijn64tab)], narrowed := true }
def WorkOnceUptoSaid : Prop := workOnceUptoRow.holds Tryd.pinned (OpenSpec.upto workOnceSpec)

/-- 'davitlaw17.WorkNil', WHERE WHAT IT READS IS OF BULK AT MOST 1048576: true; the input reads as it did. -/
def workNilUptoRow : OpenClaim := { program := "ytofdhljgchefgaadoor", sum := "7d31eb2a3b834f0bd256a09ec26e7558c375f87580b3dc362fb7b416ec7e6b6c", func := "davit/davitlaw17.WorkNil", spec := "workNil", named := ["math/bits.deBruijn64tab"], apart := false, laid := [("math/bits.deBruijn64tab", laid_math_bits_deBruijn64tab)], narrowed := true }
def WorkNilUptoSaid : Prop := workNilUptoRow.holds Tryd.pinned (OpenSpec.upto workNilSpec)

/-- 'davitlaw18.CallPlays', WHERE WHAT IT READS IS OF BULK AT MOST 1048576: true; the input reads as it did. -/
def callPlaysUptoRow : OpenClaim := { program := "ytofdhljgchefgaadoor", sum := "7d31eb2a3b834f0bd256a09ec26e7558c375f87580b3dc362fb7b416ec7e6b6c", func := "davit/davitlaw18.CallPlays", spec := "callPlays", named := ["math/bits.deBruijn64tab"], apart := false, laid := [("math/bits.deBruijn64tab", laid_math_bits_deBruijn64tab)], narrowed := true }
def CallPlaysUptoSaid : Prop := callPlaysUptoRow.holds Tryd.pinned (OpenSpec.upto callPlaysSpec)

/-- 'davitlaw18.CallOnce', WHERE WHAT IT READS IS OF BULK AT MOST 1048576: true; the input reads as it did. -/
def callOnceUptoRow : OpenClaim := { program := "ytofdhljgchefgaadoor", sum := "7d31eb2a3b834f0bd256a09ec26e7558c375f87580b3dc362fb7b416ec7e6b6c", func := "davit/davitlaw18.CallOnce", spec := "callOnce", named := ["math/bits.deBruijn64tab"], apart := false, laid := [("math/bits.deBruijn64tab", laid_math_bits_deBruijn64tab)], narrowed := true }
def CallOnceUptoSaid : Prop := callOnceUptoRow.holds Tryd.pinned (OpenSpec.upto callOnceSpec)

/-- 'davitlaw18.CallNil', WHERE WHAT IT READS IS OF BULK AT MOST 1048576: true; the input reads as it did. -/
def callNilUptoRow : OpenClaim := { program := "ytofdhljgchefgaadoor", sum := "7d31eb2a3b834f0bd256a09ec26e7558c375f87580b3dc362fb7b416ec7e6b6c", func := "davit/davitlaw18.CallNil", spec := "callNil", named := ["math/bits.deBruijn64tab"], apart := false, laid := [("math/bits.deBruijn64tab", laid_math_bits_deBruijn64tab)], narrowed := true }
def CallNilUptoSaid : Prop := callNilUptoRow.holds Tryd.pinned (OpenSpec.upto callNilSpec)

end Rows
end Go.Proofs.YtofdhljgchefgaaDoor
