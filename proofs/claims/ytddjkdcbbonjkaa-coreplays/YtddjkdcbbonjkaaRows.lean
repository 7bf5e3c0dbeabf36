/-
  No cell of these rows narrows 'for every input' (looked for: loops, veiled, ifaces, maps, wideKeys, modest, calm, conditions, laid).
  DERIVED. THE GIVEN ROWS OF THIS SEAT. 4 by the template 'for every input the law returns true; each argument reads behind the call as it read before'; 0 by the template 'total and deterministic' (their statements: YtddjkdcbbonjkaaTotals.lean).
  GIVEN WITH THE SEED: the statements are not yours to turn. If you find one false, say at which input.
  Laid BY PROGRAM, IN A SANDBOX (cutbox-rows.mjs): the forced cells as the released guide's own fill.sh prints them over the translation b1bcff95e3f57ba7… (all of the seat's roots in one cut). By AI agents, Wed Nov 11 2026. No macro, syntax, notation, axiom, sorry.
-/
import Derived.Test.YtddjkdcbbonjkaaChecked
import GoSem.Claim
import GoSem.ClaimJoined
import GoSem.ClaimMapViews
import Derived.JoinedTies
import Derived.KernelRfl
namespace Go.Proofs.Ytddjkdcbbonjkaa
/- THE CELL 'sum', in the pinned program and in every row, IS THE sha256 OF THE DUMP (.gsa) THAT YtddjkdcbbonjkaaProg.lean LOADS. Nothing in Lean hashes anything: it is a label: what it is worth is what the hold of that sum in a sandbox is worth. -/
noncomputable def Try.pinned : Pinned := { name := "ytddjkdcbbonjkaa", sum := "b1bcff95e3f57ba702b4d2b721931e8e7a19ec24456579de1dc562718c981435", checked := Try.checked }
namespace Rows
def none {H : Type} : Left H := { results := [], args := [] }

/-- 'davitlaw27.CoreNext': WHATEVER THE INPUT: true; the input reads as it did. -/
def coreNextSpec : ChangeSpec := { name := "coreNext", fn := fun _ => fun
  | [d1, d2] => { results := [.lit (.bool true)], args := [d1, d2] }
  | _ => none }
def coreNextRow : OpenClaim := { program := "ytddjkdcbbonjkaa", sum := "b1bcff95e3f57ba702b4d2b721931e8e7a19ec24456579de1dc562718c981435", func := "davit/davitlaw27.CoreNext", spec := "coreNext", apart := false }
def CoreNextSaid : Prop := coreNextRow.holds Try.pinned (OpenSpec.ofChange coreNextSpec)

/-- ITS FALSE NEIGHBOUR: 'it returns false'. Refute it at one input. -/
def coreNextWrong : ChangeSpec := { name := "coreNext", fn := fun _ => fun
  | [d1, d2] => { results := [.lit (.bool false)], args := [d1, d2] }
  | _ => none }
def CoreNextWrongFalsely : Prop := coreNextRow.holds Try.pinned (OpenSpec.ofChange coreNextWrong)

/-- 'davitlaw27.CorePlays': WHATEVER THE INPUT: true; the input reads as it did. -/
def corePlaysSpec : ChangeSpec := { name := "corePlays", fn := fun _ => fun
  | [d1, d2] => { results := [.lit (.bool true)], args := [d1, d2] }
  | _ => none }
def corePlaysRow : OpenClaim := { program := "ytddjkdcbbonjkaa", sum := "b1bcff95e3f57ba702b4d2b721931e8e7a19ec24456579de1dc562718c981435", func := "davit/davitlaw27.CorePlays", spec := "corePlays", apart := false }
def CorePlaysSaid : Prop := corePlaysRow.holds Try.pinned (OpenSpec.ofChange corePlaysSpec)

/-- ITS FALSE NEIGHBOUR: 'it returns false'. Refute it at one input. -/
def corePlaysWrong : ChangeSpec := { name := "corePlays", fn := fun _ => fun
  | [d1, d2] => { results := [.lit (.bool false)], args := [d1, d2] }
  | _ => none }
def CorePlaysWrongFalsely : Prop := corePlaysRow.holds Try.pinned (OpenSpec.ofChange corePlaysWrong)

/-- 'davitlaw27.CoreStill': WHATEVER THE INPUT: true; the input reads as it did. -/
def coreStillSpec : ChangeSpec := { name := "coreStill", fn := fun _ => fun
  | [d1, d2] => { results := [.lit (.bool true)], args := [d1, d2] }
  | _ => none }
def coreStillRow : OpenClaim := { program := "ytddjkdcbbonjkaa", sum := "b1bcff95e3f57ba702b4d2b721931e8e7a19ec24456579de1dc562718c981435", func := "davit/davitlaw27.CoreStill", spec := "coreStill", apart := false }
def CoreStillSaid : Prop := coreStillRow.holds Try.pinned (OpenSpec.ofChange coreStillSpec)

/-- ITS FALSE NEIGHBOUR: 'it returns false'. Refute it at one input. -/
def coreStillWrong : ChangeSpec := { name := "coreStill", fn := fun _ => fun
  | [d1, d2] => { results := [.lit (.bool false)], args := [d1, d2] }
  | _ => none }
def CoreStillWrongFalsely : Prop := coreStillRow.holds Try.pinned (OpenSpec.ofChange coreStillWrong)

/-- 'davitlaw27.CoreNil': WHATEVER THE INPUT: true; the input reads as it did. -/
def coreNilSpec : ChangeSpec := { name := "coreNil", fn := fun _ => fun
  | [d1, d2] => { results := [.lit (.bool true)], args := [d1, d2] }
  | _ => none }
def coreNilRow : OpenClaim := { program := "ytddjkdcbbonjkaa", sum := "b1bcff95e3f57ba702b4d2b721931e8e7a19ec24456579de1dc562718c981435", func := "davit/davitlaw27.CoreNil", spec := "coreNil", apart := false }
def CoreNilSaid : Prop := coreNilRow.holds Try.pinned (OpenSpec.ofChange coreNilSpec)

/-- ITS FALSE NEIGHBOUR: 'it returns false'. Refute it at one input. -/
def coreNilWrong : ChangeSpec := { name := "coreNil", fn := fun _ => fun
  | [d1, d2] => { results := [.lit (.bool false)], args := [d1, d2] }
  | _ => none }
def CoreNilWrongFalsely : Prop := coreNilRow.holds Try.pinned (OpenSpec.ofChange coreNilWrong)

/- THE SECOND FORM. 'bulk': how many values and letters a reading holds, each counted each time it is reached (what is shared counts as often as it is met; a slice's spare places count too). A statement '..UptoSaid' is the law's where the arguments, and the package variables that the reading takes, are together of bulk at most 1048576: NARROWER than '..Said'. Prove '..Said' where nothing that the law and all that it calls make is longer than what came in: it says more and counts as full. Else prove '..UptoSaid'. A law counts once. -/
mutual
def uptoBulk {H : Type} : DataW H → Nat
  | .lit (.string bytes) => bytes.length + 1
  | .lit _ => 1
  | .nil => 1
  | .ptr d => uptoBulk d + 1
  | .slice elems spare => uptoBulkAll elems + uptoBulkAll spare + 1
  | .agg parts => uptoBulkAll parts + 1
  | .iface _ d => uptoBulk d + 1
  | .map entries => uptoBulkEntries entries + 1
  | .held _ => 1
def uptoBulkAll {H : Type} : List (DataW H) → Nat
  | [] => 0
  | d :: r => uptoBulk d + uptoBulkAll r
def uptoBulkEntries {H : Type} : List (Lit × DataW H) → Nat
  | [] => 0
  | x :: r => uptoBulkEntry x + uptoBulkEntries r
def uptoBulkEntry {H : Type} : Lit × DataW H → Nat
  | (.string bytes, d) => bytes.length + uptoBulk d + 1
  | (_, d) => uptoBulk d + 1
 end
def uptoSmall : (H : Type) → List (DataW H) → Bool := fun _ ds => decide (uptoBulkAll ds ≤ 1048576)
def OpenSpec.upto (s : _root_.Go.ChangeSpec) : _root_.Go.OpenSpec := { _root_.Go.OpenSpec.ofChange s with cond := some uptoSmall }

/-- 'davitlaw27.CoreNext', WHERE WHAT IT READS IS OF BULK AT MOST 1048576: true; the input reads as it did. -/
def coreNextUptoRow : OpenClaim := { program := "ytddjkdcbbonjkaa", sum := "b1bcff95e3f57ba702b4d2b721931e8e7a19ec24456579de1dc562718c981435", func := "davit/davitlaw27.CoreNext", spec := "coreNext", apart := false, narrowed := true }
def CoreNextUptoSaid : Prop := coreNextUptoRow.holds Try.pinned (OpenSpec.upto coreNextSpec)

/-- 'davitlaw27.CorePlays', WHERE WHAT IT READS IS OF BULK AT MOST 1048576: true; the input reads as it did. -/
def corePlaysUptoRow : OpenClaim := { program := "ytddjkdcbbonjkaa", sum := "b1bcff95e3f57ba702b4d2b721931e8e7a19ec24456579de1dc562718c981435", func := "davit/davitlaw27.CorePlays", spec := "corePlays", apart := false, narrowed := true }
def CorePlaysUptoSaid : Prop := corePlaysUptoRow.holds Try.pinned (OpenSpec.upto corePlaysSpec)

/-- 'davitlaw27.CoreStill', WHERE WHAT IT READS IS OF BULK AT MOST 1048576: true; the input reads as it did. -/
def coreStillUptoRow : OpenClaim := { program := "ytddjkdcbbonjkaa", sum := "b1bcff95e3f57ba702b4d2b721931e8e7a19ec24456579de1dc562718c981435", func := "davit/davitlaw27.CoreStill", spec := "coreStill", apart := false, narrowed := true }
def CoreStillUptoSaid : Prop := coreStillUptoRow.holds Try.pinned (OpenSpec.upto coreStillSpec)

/-- 'davitlaw27.CoreNil', WHERE WHAT IT READS IS OF BULK AT MOST 1048576: true; the input reads as it did. -/
def coreNilUptoRow : OpenClaim := { program := "ytddjkdcbbonjkaa", sum := "b1bcff95e3f57ba702b4d2b721931e8e7a19ec24456579de1dc562718c981435", func := "davit/davitlaw27.CoreNil", spec := "coreNil", apart := false, narrowed := true }
def CoreNilUptoSaid : Prop := coreNilUptoRow.holds Try.pinned (OpenSpec.upto coreNilSpec)

end Rows
end Go.Proofs.Ytddjkdcbbonjkaa
