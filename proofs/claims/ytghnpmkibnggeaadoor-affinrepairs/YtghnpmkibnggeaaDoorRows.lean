/-
  NARROWER THAN 'FOR EVERY INPUT', by the rows' own cells (each row's printed sentence says how): ThreadPlays: laid · ThreadApart: laid · ThreadNil: laid · AffinChooses: laid · AffinRight: laid · AffinRepairs: laid.
  DERIVED. THE GIVEN ROWS OF THIS SEAT. 6 by the template 'for every input the law returns true; each argument reads behind the call as it read before'; 0 by the template 'total and deterministic' (their statements: YtghnpmkibnggeaaDoorTotals.lean).
  GIVEN WITH THE SEED: the statements are not yours to turn. If you find one false, say at which input.
  Laid BY PROGRAM, IN A SANDBOX (cutbox-rows.mjs): the forced cells as the released guide's own fill.sh prints them over the translation 7a7e211788832ff5… (all of the seat's roots in one cut). By AI agents, Wed Nov 11 2026. No macro, syntax, notation, axiom, sorry.
-/
import Derived.Test.YtghnpmkibnggeaaDoorChecked
import GoSem.Claim
import GoSem.ClaimJoined
import GoSem.ClaimMapViews
import Derived.JoinedTies
import Derived.KernelRfl
namespace Go.Proofs.YtghnpmkibnggeaaDoor
/- THE CELL 'sum', in the pinned program and in every row, IS THE sha256 OF THE DUMP (.gsa) THAT YtghnpmkibnggeaaDoorProg.lean LOADS. Nothing in Lean hashes anything: it is a label: what it is worth is what the hold of that sum in a sandbox is worth. -/
noncomputable def Tryd.pinned : Pinned := { name := "ytghnpmkibnggeaadoor", sum := "7a7e211788832ff513242c87323ab25ff4d6491ccd6a684115e0e22f1d499e11", checked := Tryd.checked }
namespace Rows
def none {H : Type} : Left H := { results := [], args := [] }

/- WHAT THE LISTED PACKAGE-LEVEL VARIABLES READ AS WHEN THE CALL BEGINS. Each datum BY PROGRAM (the guide's laid-datum.mjs) off the statement by which the dump's own 'gosem.cut.vars' lays the variable. In a bare row this is a premise. The card (YtghnpmkibnggeaaDoorCards.lean) ties it to the program's text. -/
def laid_math_bits_deBruijn64tab {H : Type} : DataW H := .agg [.lit (.int .u8 0), .lit (.int .u8 1), .lit (.int .u8 56), .lit (.int .u8 2), .lit (.int .u8 57), .lit (.int .u8 49), .lit (.int .u8 28), .lit (.int .u8 3), .lit (.int .u8 61), .lit (.int .u8 58), .lit (.int .u8 42), .lit (.int .u8 50), .lit (.int .u8 38), .lit (.int .u8 29), .lit (.int .u8 17), .lit (.int .u8 4), .lit (.int .u8 62), .lit (.int .u8 47), .lit (.int .u8 59), .lit (.int .u8 36), .lit (.int .u8 45), .lit (.int .u8 43), .lit (.int .u8 51), .lit (.int .u8 22), .lit (.int .u8 53), .lit (.int .u8 39), .lit (.int .u8 33), .lit (.int .u8 30), .lit (.int .u8 24), .lit (.int .u8 18), .lit (.int .u8 12), .lit (.int .u8 5), .lit (.int .u8 63), .lit (.int .u8 55), .lit (.int .u8 48), .lit (.int .u8 27), .lit (.int .u8 60), .lit (.int .u8 41), .lit (.int .u8 37), .lit (.int .u8 16), .lit (.int .u8 46), .lit (.int .u8 35), .lit (.int .u8 44), .lit (.int .u8 21), .lit (.int .u8 52), .lit (.int .u8 32), .lit (.int .u8 23), .lit (.int .u8 11), .lit (.int .u8 54), .lit (.int .u8 26), .lit (.int .u8 40), .lit (.int .u8 15), .lit (.int .u8 34), .lit (.int .u8 20), .lit (.int .u8 31), .lit (.int .u8 10), .lit (.int .u8 25), .lit (.int .u8 14), .lit (.int .u8 19), .lit (.int .u8 9), .lit (.int .u8 13), .lit (.int .u8 8), .lit (.int .u8 7), .lit (.int .u8 6)]

/-- 'davitlaw11.ThreadPlays': WHATEVER THE INPUT: true; the input reads as it did. -/
def threadPlaysSpec : ChangeSpec := { name := "threadPlays", fn := fun _ => fun
  | [d1, d2] => { results := [.lit (.bool true)], args := [d1, d2] }
  | _ => none }
def threadPlaysRow : OpenClaim := { program := "ytghnpmkibnggeaadoor", sum := "7a7e211788832ff513242c87323ab25ff4d6491ccd6a684115e0e22f1d499e11", func := "davit/davitlaw11.ThreadPlays", spec := "threadPlays", named := ["math/bits.deBruijn64tab"], apart := false, laid := [("math/bits.deBruijn64tab", laid_math_bits_deBruijn64tab)] }
def ThreadPlaysSaid : Prop := threadPlaysRow.holds Tryd.pinned (OpenSpec.ofChange threadPlaysSpec)

/-- ITS FALSE NEIGHBOUR: 'it returns false'. Refute it at one input. -/
def threadPlaysWrong : ChangeSpec := { name := "threadPlays", fn := fun _ => fun
  | [d1, d2] => { results := [.lit (.bool false)], args := [d1, d2] }
  | _ => none }
def ThreadPlaysWrongFalsely : Prop := threadPlaysRow.holds Tryd.pinned (OpenSpec.ofChange threadPlaysWrong)

/-- 'davitlaw11.ThreadApart': WHATEVER THE INPUT: true; the input reads as it did. -/
def threadApartSpec : ChangeSpec := { name := "threadApart", fn := fun _ => fun
  | [d1, d2] => { results := [.lit (.bool true)], args := [d1, d2] }
  | _ => none }
def threadApartRow : OpenClaim := { program := "ytghnpmkibnggeaadoor", sum := "7a7e211788832ff513242c87323ab25ff4d6491ccd6a684115e0e22f1d499e11", func := "davit/davitlaw11.ThreadApart", spec := "threadApart", named := ["math/bits.deBruijn64tab"], apart := false, laid := [("math/bits.deBruijn64tab", laid_math_bits_deBruijn64tab)] }
def ThreadApartSaid : Prop := threadApartRow.holds Tryd.pinned (OpenSpec.ofChange threadApartSpec)

/-- ITS FALSE NEIGHBOUR: 'it returns false'. Refute it at one input. -/
def threadApartWrong : ChangeSpec := { name := "threadApart", fn := fun _ => fun
  | [d1, d2] => { results := [.lit (.bool false)], args := [d1, d2] }
  | _ => none }
def ThreadApartWrongFalsely : Prop := threadApartRow.holds Tryd.pinned (OpenSpec.ofChange threadApartWrong)

/-- 'davitlaw11.ThreadNil': WHATEVER THE INPUT: true; the input reads as it did. -/
def threadNilSpec : ChangeSpec := { name := "threadNil", fn := fun _ => fun
  | [d1, d2] => { results := [.lit (.bool true)], args := [d1, d2] }
  | _ => none }
def threadNilRow : OpenClaim := { program := "ytghnpmkibnggeaadoor", sum := "7a7e211788832ff513242c87323ab25ff4d6491ccd6a684115e0e22f1d499e11", func := "davit/davitlaw11.ThreadNil", spec := "threadNil", named := ["math/bits.deBruijn64tab"], apart := false, laid := [("math/bits.deBruijn64tab", laid_math_bits_deBruijn64tab)] }
def ThreadNilSaid : Prop := threadNilRow.holds Tryd.pinned (OpenSpec.ofChange threadNilSpec)

/-- ITS FALSE NEIGHBOUR: 'it returns false'. Refute it at one input. -/
def threadNilWrong : ChangeSpec := { name := "threadNil", fn := fun _ => fun
  | [d1, d2] => { results := [.lit (.bool false)], args := [d1, d2] }
  | _ => none }
def ThreadNilWrongFalsely : Prop := threadNilRow.holds Tryd.pinned (OpenSpec.ofChange threadNilWrong)

/-- 'davitlaw12.AffinChooses': WHATEVER THE INPUT: true; the input reads as it did. -/
def affinChoosesSpec : ChangeSpec := { name := "affinChooses", fn := fun _ => fun
  | [d1, d2, d3] => { results := [.lit (.bool true)], args := [d1, d2, d3] }
  | _ => none }
def affinChoosesRow : OpenClaim := { program := "ytghnpmkibnggeaadoor", sum := "7a7e211788832ff513242c87323ab25ff4d6491ccd6a684115e0e22f1d499e11", func := "davit/davitlaw12.AffinChooses", spec := "affinChooses", named := ["math/bits.deBruijn64tab"], apart := false, laid := [("math/bits.deBruijn64tab", laid_math_bits_deBruijn64tab)] }
def AffinChoosesSaid : Prop := affinChoosesRow.holds Tryd.pinned (OpenSpec.ofChange affinChoosesSpec)

/-- ITS FALSE NEIGHBOUR: 'it returns false'. Refute it at one input. -/
def affinChoosesWrong : ChangeSpec := { name := "affinChooses", fn := fun _ => fun
  | [d1, d2, d3] => { results := [.lit (.bool false)], args := [d1, d2, d3] }
  | _ => none }
def AffinChoosesWrongFalsely : Prop := affinChoosesRow.holds Tryd.pinned (OpenSpec.ofChange affinChoosesWrong)

/-- 'davitlaw12.AffinRight': WHATEVER THE INPUT: true; the input reads as it did. -/
def affinRightSpec : ChangeSpec := { name := "affinRight", fn := fun _ => fun
  | [d1, d2, d3] => { results := [.lit (.bool true)], args := [d1, d2, d3] }
  | _ => none }
def affinRightRow : OpenClaim := { program := "ytghnpmkibnggeaadoor", sum := "7a7e211788832ff513242c87323ab25ff4d6491ccd6a684115e0e22f1d499e11", func := "davit/davitlaw12.AffinRight", spec := "affinRight", named := ["math/bits.deBruijn64tab"], apart := false, laid := [("math/bits.deBruijn64tab", laid_math_bits_deBruijn64tab)] }
def AffinRightSaid : Prop := affinRightRow.holds Tryd.pinned (OpenSpec.ofChange affinRightSpec)

/-- ITS FALSE NEIGHBOUR: 'it returns false'. Refute it at one input. -/
def affinRightWrong : ChangeSpec := { name := "affinRight", fn := fun _ => fun
  | [d1, d2, d3] => { results := [.lit (.bool false)], args := [d1, d2, d3] }
  | _ => none }
def AffinRightWrongFalsely : Prop := affinRightRow.holds Tryd.pinned (OpenSpec.ofChange affinRightWrong)

/-- 'davitlaw12.AffinRepairs': WHATEVER THE INPUT: true; the input reads as it did. -/
def affinRepairsSpec : ChangeSpec := { name := "affinRepairs", fn := fun _ => fun
  | [d1, d2] => { results := [.lit (.bool true)], args := [d1, d2] }
  | _ => none }
def affinRepairsRow : OpenClaim := { program := "ytghnpmkibnggeaadoor", sum := "7a7e211788832ff513242c87323ab25ff4d6491ccd6a684115e0e22f1d499e11", func := "davit/davitlaw12.AffinRepairs", spec := "affinRepairs", named := ["math/bits.deBruijn64tab"], apart := false, laid := [("math/bits.deBruijn64tab", laid_math_bits_deBruijn64tab)] }
def AffinRepairsSaid : Prop := affinRepairsRow.holds Tryd.pinned (OpenSpec.ofChange affinRepairsSpec)

/-- ITS FALSE NEIGHBOUR: 'it returns false'. Refute it at one input. -/
def affinRepairsWrong : ChangeSpec := { name := "affinRepairs", fn := fun _ => fun
  | [d1, d2] => { results := [.lit (.bool false)], args := [d1, d2] }
  | _ => none }
def AffinRepairsWrongFalsely : Prop := affinRepairsRow.holds Tryd.pinned (OpenSpec.ofChange affinRepairsWrong)

/- THE SECOND FORM. 'bulk': how many values and letters a reading holds, each counted each time it is reached (what is shared counts as often as it is met; a slice's spare places count too). A statement '..UptoSaid' is the law's where the arguments, and the package variables that the reading takes, are together of bulk at most 1048576: NARROWER than '..Said'. Prove '..Said' where nothing that the law and all that it calls make is longer than what came in: it says more and counts as full. Else prove '..UptoSaid'. A law counts once. -/
mutual
def uptoBulk {H : Type} : DataW H → Nat
  | .lit (.string bytes) => bytes.length + 1
  | .lit _ => 1
  | .nil => 1
  | .ptr d => uptoBulk d + 1
  | .slice elems spare => uptoBulkAll elems + uptoBulkAll spare + 1
  | .agg parts => uptoBulkAll parts + 1
  | .iface _ d => uptoBulk d + 1
  | .map entries => uptoBulkEntries entries + 1
  | .held _ => 1
def uptoBulkAll {H : Type} : List (DataW H) → Nat
  | [] => 0
  | d :: r => uptoBulk d + uptoBulkAll r
def uptoBulkEntries {H : Type} : List (Lit × DataW H) → Nat
  | [] => 0
  | x :: r => uptoBulkEntry x + uptoBulkEntries r
def uptoBulkEntry {H : Type} : Lit × DataW H → Nat
  | (.string bytes, d) => bytes.length + uptoBulk d + 1
  | (_, d) => uptoBulk d + 1
 end
def uptoSmall : (H : Type) → List (DataW H) → Bool := fun _ ds => decide (uptoBulkAll ds ≤ 1048576)
def OpenSpec.upto (s : _root_.Go.ChangeSpec) : _root_.Go.OpenSpec := { _root_.Go.OpenSpec.ofChange s with cond := some uptoSmall }

/-- 'davitlaw11.ThreadPlays', WHERE WHAT IT READS IS OF BULK AT MOST 1048576: true; the input reads as it did. -/
def threadPlaysUptoRow : OpenClaim := { program := "ytghnpmkibnggeaadoor", sum := "7a7e211788832ff513242c87323ab25ff4d6491ccd6a684115e0e22f1d499e11", func := "davit/davitlaw11.ThreadPlays", spec := "threadPlays", named := ["math/bits.deBruijn64tab"], apart := false, laid := [("math/bits.deBruijn64tab", laid_math_bits_deBruijn64tab)], narrowed := true }
def ThreadPlaysUptoSaid : Prop := threadPlaysUptoRow.holds Tryd.pinned (OpenSpec.upto threadPlaysSpec)

/-- 'davitlaw11.ThreadApart', WHERE WHAT IT READS IS OF BULK AT MOST 1048576: true; the input reads as it did. -/
def threadApartUptoRow : OpenClaim := { program := "ytghnpmkibnggeaadoor", sum := "7a7e211788832ff513242c87323ab25ff4d6491ccd6a684115e0e22f1d499e11", func := "davit/davitlaw11.ThreadApart", spec := "threadApart", named := ["math/bits.deBruijn64tab"], apart := false, laid := [("math/bits.deBruijn64tab", laid_math_bits_deBruijn64tab)], narrowed := true }
def ThreadApartUptoSaid : Prop := threadApartUptoRow.holds Tryd.pinned (OpenSpec.upto threadApartSpec)

/-- 'davitlaw11.ThreadNil', WHERE WHAT IT READS IS OF BULK AT MOST 1048576: true; the input reads as it did. -/
def threadNilUptoRow : OpenClaim := { program := "ytghnpmkibnggeaadoor", sum := "7a7e211788832ff513242c87323ab25ff4d6491ccd6a684115e0e22f1d499e11", func := "davit/davitlaw11.ThreadNil", spec := "threadNil", named := ["math/bits.deBruijn64tab"], apart := false, laid := [("math/bits.deBruijn64tab", laid_math_bits_deBruijn64tab)], narrowed := true }
def ThreadNilUptoSaid : Prop := threadNilUptoRow.holds Tryd.pinned (OpenSpec.upto threadNilSpec)

/-- 'davitlaw12.AffinChooses', WHERE WHAT IT READS IS OF BULK AT MOST 1048576: true; the input reads as it did. -/
def affinChoosesUptoRow : OpenClaim := { program := "ytghnpmkibnggeaadoor", sum := "7a7e211788832ff513242c87323ab25ff4d6491ccd6a684115e0e22f1d499e11", func := "davit/davitlaw12.AffinChooses", spec := "affinChooses", named := ["math/bits.deBruijn64tab"], apart := false, laid := [("math/bits.deBruijn64tab", laid_math_bits_deBruijn64tab)], narrowed := true }
def AffinChoosesUptoSaid : Prop := affinChoosesUptoRow.holds Tryd.pinned (OpenSpec.upto affinChoosesSpec)

/-- 'davitlaw12.AffinRight', WHERE WHAT IT READS IS OF BULK AT MOST 1048576: true; the input reads as it did. -/
def affinRightUptoRow : OpenClaim := { program := "ytghnpmkibnggeaadoor", sum := "7a7e211788832ff513242c87323ab25ff4d6491ccd6a684115e0e22f1d499e11", func := "davit/davitlaw12.AffinRight", spec := "affinRight", named := ["math/bits.deBruijn64tab"], apart := false, laid := [("math/bits.deBruijn64tab", laid_math_bits_deBruijn64tab)], narrowed := true }
def AffinRightUptoSaid : Prop := affinRightUptoRow.holds Tryd.pinned (OpenSpec.upto affinRightSpec)

/-- 'davitlaw12.AffinRepairs', WHERE WHAT IT READS IS OF BULK AT MOST 1048576: true; the input reads as it did. -/
def affinRepairsUptoRow : OpenClaim := { program := "ytghnpmkibnggeaadoor", sum := "7a7e211788832ff513242c87323ab25ff4d6491ccd6a684115e0e22f1d499e11", func := "davit/davitlaw12.AffinRepairs", spec := "affinRepairs", named := ["math/bits.deBruijn64tab"], apart := false, laid := [("math/bits.deBruijn64tab", laid_math_bits_deBruijn64tab)], narrowed := true }
def AffinRepairsUptoSaid : Prop := affinRepairsUptoRow.holds Tryd.pinned (OpenSpec.upto affinRepairsSpec)

end Rows
end Go.Proofs.YtghnpmkibnggeaaDoor
