/-
  No cell of these rows narrows 'for every input' (looked for: loops, veiled, ifaces, maps, wideKeys, modest, calm, conditions, laid).
  DERIVED. THE GIVEN ROWS OF THIS SEAT. 6 by the template 'for every input the law returns true; each argument reads behind the call as it read before'; 0 by the template 'total and deterministic' (their statements: YtjfmokfjnjbheaaTotals.lean).
  GIVEN WITH THE SEED: the statements are not yours to turn. If you find one false, say at which input.
  Laid BY PROGRAM, IN A SANDBOX (cutbox-rows.mjs): the forced cells as the released guide's own fill.sh prints them over the translation b12acbcc27267333… (all of the seat's roots in one cut). By AI agents, Wed Nov 11 2026. No macro, syntax, notation, axiom, sorry.
-/
import Derived.Test.YtjfmokfjnjbheaaChecked
import GoSem.Claim
import GoSem.ClaimJoined
import GoSem.ClaimMapViews
import Derived.JoinedTies
import Derived.KernelRfl
namespace Go.Proofs.Ytjfmokfjnjbheaa
/- THE CELL 'sum', in the pinned program and in every row, IS THE sha256 OF THE DUMP (.gsa) THAT YtjfmokfjnjbheaaProg.lean LOADS. Nothing in Lean hashes anything: it is a label: what it is worth is what the hold of that sum in a sandbox is worth. -/
noncomputable def Try.pinned : Pinned := { name := "ytjfmokfjnjbheaa", sum := "b12acbcc27267333e4018a41be003cc8d512dd103cc84d7274fa3fe1cf75d86e", checked := Try.checked }
namespace Rows
def none {H : Type} : Left H := { results := [], args := [] }

/-- 'davitlaw23.IdleChooses': WHATEVER THE INPUT: true; the input reads as it did. -/
def idleChoosesSpec : ChangeSpec := { name := "idleChooses", fn := fun _ => fun
  | [d1, d2, d3, d4] => { results := [.lit (.bool true)], args := [d1, d2, d3, d4] }
  | _ => none }
def idleChoosesRow : OpenClaim := { program := "ytjfmokfjnjbheaa", sum := "b12acbcc27267333e4018a41be003cc8d512dd103cc84d7274fa3fe1cf75d86e", func := "davit/davitlaw23.IdleChooses", spec := "idleChooses", apart := false }
def IdleChoosesSaid : Prop := idleChoosesRow.holds Try.pinned (OpenSpec.ofChange idleChoosesSpec)

/-- ITS FALSE NEIGHBOUR: 'it returns false'. Refute it at one input. -/
def idleChoosesWrong : ChangeSpec := { name := "idleChooses", fn := fun _ => fun
  | [d1, d2, d3, d4] => { results := [.lit (.bool false)], args := [d1, d2, d3, d4] }
  | _ => none }
def IdleChoosesWrongFalsely : Prop := idleChoosesRow.holds Try.pinned (OpenSpec.ofChange idleChoosesWrong)

/-- 'davitlaw23.IdlePredicts': WHATEVER THE INPUT: true; the input reads as it did. -/
def idlePredictsSpec : ChangeSpec := { name := "idlePredicts", fn := fun _ => fun
  | [d1, d2, d3] => { results := [.lit (.bool true)], args := [d1, d2, d3] }
  | _ => none }
def idlePredictsRow : OpenClaim := { program := "ytjfmokfjnjbheaa", sum := "b12acbcc27267333e4018a41be003cc8d512dd103cc84d7274fa3fe1cf75d86e", func := "davit/davitlaw23.IdlePredicts", spec := "idlePredicts", apart := false }
def IdlePredictsSaid : Prop := idlePredictsRow.holds Try.pinned (OpenSpec.ofChange idlePredictsSpec)

/-- ITS FALSE NEIGHBOUR: 'it returns false'. Refute it at one input. -/
def idlePredictsWrong : ChangeSpec := { name := "idlePredicts", fn := fun _ => fun
  | [d1, d2, d3] => { results := [.lit (.bool false)], args := [d1, d2, d3] }
  | _ => none }
def IdlePredictsWrongFalsely : Prop := idlePredictsRow.holds Try.pinned (OpenSpec.ofChange idlePredictsWrong)

/-- 'davitlaw23.IdleRight': WHATEVER THE INPUT: true; the input reads as it did. -/
def idleRightSpec : ChangeSpec := { name := "idleRight", fn := fun _ => fun
  | [d1, d2, d3, d4] => { results := [.lit (.bool true)], args := [d1, d2, d3, d4] }
  | _ => none }
def idleRightRow : OpenClaim := { program := "ytjfmokfjnjbheaa", sum := "b12acbcc27267333e4018a41be003cc8d512dd103cc84d7274fa3fe1cf75d86e", func := "davit/davitlaw23.IdleRight", spec := "idleRight", apart := false }
def IdleRightSaid : Prop := idleRightRow.holds Try.pinned (OpenSpec.ofChange idleRightSpec)

/-- ITS FALSE NEIGHBOUR: 'it returns false'. Refute it at one input. -/
def idleRightWrong : ChangeSpec := { name := "idleRight", fn := fun _ => fun
  | [d1, d2, d3, d4] => { results := [.lit (.bool false)], args := [d1, d2, d3, d4] }
  | _ => none }
def IdleRightWrongFalsely : Prop := idleRightRow.holds Try.pinned (OpenSpec.ofChange idleRightWrong)

/-- 'davitlaw24.FreqPlays': WHATEVER THE INPUT: true; the input reads as it did. -/
def freqPlaysSpec : ChangeSpec := { name := "freqPlays", fn := fun _ => fun
  | [d1, d2, d3] => { results := [.lit (.bool true)], args := [d1, d2, d3] }
  | _ => none }
def freqPlaysRow : OpenClaim := { program := "ytjfmokfjnjbheaa", sum := "b12acbcc27267333e4018a41be003cc8d512dd103cc84d7274fa3fe1cf75d86e", func := "davit/davitlaw24.FreqPlays", spec := "freqPlays", named := ["math/bits.divideError", "math/bits.overflowError"], apart := false }
def FreqPlaysSaid : Prop := freqPlaysRow.holds Try.pinned (OpenSpec.ofChange freqPlaysSpec)

/-- ITS FALSE NEIGHBOUR: 'it returns false'. Refute it at one input. -/
def freqPlaysWrong : ChangeSpec := { name := "freqPlays", fn := fun _ => fun
  | [d1, d2, d3] => { results := [.lit (.bool false)], args := [d1, d2, d3] }
  | _ => none }
def FreqPlaysWrongFalsely : Prop := freqPlaysRow.holds Try.pinned (OpenSpec.ofChange freqPlaysWrong)

/-- 'davitlaw24.FreqWithin': WHATEVER THE INPUT: true; the input reads as it did. -/
def freqWithinSpec : ChangeSpec := { name := "freqWithin", fn := fun _ => fun
  | [d1, d2, d3] => { results := [.lit (.bool true)], args := [d1, d2, d3] }
  | _ => none }
def freqWithinRow : OpenClaim := { program := "ytjfmokfjnjbheaa", sum := "b12acbcc27267333e4018a41be003cc8d512dd103cc84d7274fa3fe1cf75d86e", func := "davit/davitlaw24.FreqWithin", spec := "freqWithin", named := ["math/bits.divideError", "math/bits.overflowError"], apart := false }
def FreqWithinSaid : Prop := freqWithinRow.holds Try.pinned (OpenSpec.ofChange freqWithinSpec)

/-- ITS FALSE NEIGHBOUR: 'it returns false'. Refute it at one input. -/
def freqWithinWrong : ChangeSpec := { name := "freqWithin", fn := fun _ => fun
  | [d1, d2, d3] => { results := [.lit (.bool false)], args := [d1, d2, d3] }
  | _ => none }
def FreqWithinWrongFalsely : Prop := freqWithinRow.holds Try.pinned (OpenSpec.ofChange freqWithinWrong)

/-- 'davitlaw24.FreqEnds': WHATEVER THE INPUT: true; the input reads as it did. -/
def freqEndsSpec : ChangeSpec := { name := "freqEnds", fn := fun _ => fun
  | [d1, d2] => { results := [.lit (.bool true)], args := [d1, d2] }
  | _ => none }
def freqEndsRow : OpenClaim := { program := "ytjfmokfjnjbheaa", sum := "b12acbcc27267333e4018a41be003cc8d512dd103cc84d7274fa3fe1cf75d86e", func := "davit/davitlaw24.FreqEnds", spec := "freqEnds", named := ["math/bits.divideError", "math/bits.overflowError"], apart := false }
def FreqEndsSaid : Prop := freqEndsRow.holds Try.pinned (OpenSpec.ofChange freqEndsSpec)

/-- ITS FALSE NEIGHBOUR: 'it returns false'. Refute it at one input. -/
def freqEndsWrong : ChangeSpec := { name := "freqEnds", fn := fun _ => fun
  | [d1, d2] => { results := [.lit (.bool false)], args := [d1, d2] }
  | _ => none }
def FreqEndsWrongFalsely : Prop := freqEndsRow.holds Try.pinned (OpenSpec.ofChange freqEndsWrong)

/- THE SECOND FORM. 'bulk': how many values and letters a reading holds, each counted each time it is reached (what is shared counts as often as it is met; a slice's spare places count too). A statement '..UptoSaid' is the law's where the arguments, and the package variables that the reading takes, are together of bulk at most 1048576: NARROWER than '..Said'. Prove '..Said' where nothing that the law and all that it calls make is longer than what came in: it says more and counts as full. Else prove '..UptoSaid'. A law counts once. -/
mutual
def uptoBulk {H : Type} : DataW H → Nat
  | .lit (.string bytes) => bytes.length + 1
  | .lit _ => 1
  | .nil => 1
  | .ptr d => uptoBulk d + 1
  | .slice elems spare => uptoBulkAll elems + uptoBulkAll spare + 1
  | .agg parts => uptoBulkAll parts + 1
  | .iface _ d => uptoBulk d + 1
  | .map entries => uptoBulkEntries entries + 1
  | .held _ => 1
def uptoBulkAll {H : Type} : List (DataW H) → Nat
  | [] => 0
  | d :: r => uptoBulk d + uptoBulkAll r
def uptoBulkEntries {H : Type} : List (Lit × DataW H) → Nat
  | [] => 0
  | x :: r => uptoBulkEntry x + uptoBulkEntries r
def uptoBulkEntry {H : Type} : Lit × DataW H → Nat
  | (.string bytes, d) => bytes.length + uptoBulk d + 1
  | (_, d) => uptoBulk d + 1
 end
def uptoSmall : (H : Type) → List (DataW H) → Bool := fun _ ds => decide (uptoBulkAll ds ≤ 1048576)
def OpenSpec.upto (s : _root_.Go.ChangeSpec) : _root_.Go.OpenSpec := { _root_.Go.OpenSpec.ofChange s with cond := some uptoSmall }

/-- 'davitlaw23.IdleChooses', WHERE WHAT IT READS IS OF BULK AT MOST 1048576: true; the input reads as it did. -/
def idleChoosesUptoRow : OpenClaim := { program := "ytjfmokfjnjbheaa", sum := "b12acbcc27267333e4018a41be003cc8d512dd103cc84d7274fa3fe1cf75d86e", func := "davit/davitlaw23.IdleChooses", spec := "idleChooses", apart := false, narrowed := true }
def IdleChoosesUptoSaid : Prop := idleChoosesUptoRow.holds Try.pinned (OpenSpec.upto idleChoosesSpec)

/-- 'davitlaw23.IdlePredicts', WHERE WHAT IT READS IS OF BULK AT MOST 1048576: true; the input reads as it did. -/
def idlePredictsUptoRow : OpenClaim := { program := "ytjfmokfjnjbheaa", sum := "b12acbcc27267333e4018a41be003cc8d512dd103cc84d7274fa3fe1cf75d86e", func := "davit/davitlaw23.IdlePredicts", spec := "idlePredicts", apart := false, narrowed := true }
def IdlePredictsUptoSaid : Prop := idlePredictsUptoRow.holds Try.pinned (OpenSpec.upto idlePredictsSpec)

/-- 'davitlaw23.IdleRight', WHERE WHAT IT READS IS OF BULK AT MOST 1048576: true; the input reads as it did. -/
def idleRightUptoRow : OpenClaim := { program := "ytjfmokfjnjbheaa", sum := "b12acbcc27267333e4018a41be003cc8d512dd103cc84d7274fa3fe1cf75d86e", func := "davit/davitlaw23.IdleRight", spec := "idleRight", apart := false, narrowed := true }
def IdleRightUptoSaid : Prop := idleRightUptoRow.holds Try.pinned (OpenSpec.upto idleRightSpec)

/-- 'davitlaw24.FreqPlays', WHERE WHAT IT READS IS OF BULK AT MOST 1048576: true; the input reads as it did. -/
def freqPlaysUptoRow : OpenClaim := { program := "ytjfmokfjnjbheaa", sum := "b12acbcc27267333e4018a41be003cc8d512dd103cc84d7274fa3fe1cf75d86e", func := "davit/davitlaw24.FreqPlays", spec := "freqPlays", named := ["math/bits.divideError", "math/bits.overflowError"], apart := false, narrowed := true }
def FreqPlaysUptoSaid : Prop := freqPlaysUptoRow.holds Try.pinned (OpenSpec.upto freqPlaysSpec)

/-- 'davitlaw24.FreqWithin', WHERE WHAT IT READS IS OF BULK AT MOST 1048576: true; the input reads as it did. -/
def freqWithinUptoRow : OpenClaim := { program := "ytjfmokfjnjbheaa", sum := "b12acbcc27267333e4018a41be003cc8d512dd103cc84d7274fa3fe1cf75d86e", func := "davit/davitlaw24.FreqWithin", spec := "freqWithin", named := ["math/bits.divideError", "math/bits.overflowError"], apart := false, narrowed := true }
def FreqWithinUptoSaid : Prop := freqWithinUptoRow.holds Try.pinned (OpenSpec.upto freqWithinSpec)

/-- 'davitlaw24.FreqEnds', WHERE WHAT IT READS IS OF BULK AT MOST 1048576: true; the input reads as it did. -/
def freqEndsUptoRow : OpenClaim := { program := "ytjfmokfjnjbheaa", sum := "b12acbcc27267333e4018a41be003cc8d512dd103cc84d7274fa3fe1cf75d86e", func := "davit/davitlaw24.FreqEnds", spec := "freqEnds", named := ["math/bits.divideError", "math/bits.overflowError"], apart := false, narrowed := true }
def FreqEndsUptoSaid : Prop := freqEndsUptoRow.holds Try.pinned (OpenSpec.upto freqEndsSpec)

end Rows
end Go.Proofs.Ytjfmokfjnjbheaa
