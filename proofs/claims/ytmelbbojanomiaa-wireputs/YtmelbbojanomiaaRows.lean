/-
  No cell of these rows narrows 'for every input' (looked for: loops, veiled, ifaces, maps, wideKeys, modest, calm, conditions, laid).
  DERIVED. THE GIVEN ROWS OF THIS SEAT. 6 by the template 'for every input the law returns true; each argument reads behind the call as it read before'; 0 by the template 'total and deterministic' (their statements: YtmelbbojanomiaaTotals.lean).
  GIVEN WITH THE SEED: the statements are not yours to turn. If you find one false, say at which input.
  Laid BY PROGRAM, IN A SANDBOX (cutbox-rows.mjs): the forced cells as the released guide's own fill.sh prints them over the translation 267f6ba89602dc98… (all of the seat's roots in one cut). By AI agents, Wed Nov 11 2026. No macro, syntax, notation, axiom, sorry.
-/
import Derived.Test.YtmelbbojanomiaaChecked
import GoSem.Claim
import GoSem.ClaimJoined
import GoSem.ClaimMapViews
import Derived.JoinedTies
import Derived.KernelRfl
namespace Go.Proofs.Ytmelbbojanomiaa
/- THE CELL 'sum', in the pinned program and in every row, IS THE sha256 OF THE DUMP (.gsa) THAT YtmelbbojanomiaaProg.lean LOADS. Nothing in Lean hashes anything: it is a label: what it is worth is what the hold of that sum in a sandbox is worth. -/
noncomputable def Try.pinned : Pinned := { name := "ytmelbbojanomiaa", sum := "267f6ba89602dc9866b577e78565b48f3402528b6b8713f45c709ea2e277b239", checked := Try.checked }
namespace Rows
def none {H : Type} : Left H := { results := [], args := [] }

/-- 'davitlaw25.MeterPlays': WHATEVER THE INPUT: true; the input reads as it did. -/
def meterPlaysSpec : ChangeSpec := { name := "meterPlays", fn := fun _ => fun
  | [d1, d2] => { results := [.lit (.bool true)], args := [d1, d2] }
  | _ => none }
def meterPlaysRow : OpenClaim := { program := "ytmelbbojanomiaa", sum := "267f6ba89602dc9866b577e78565b48f3402528b6b8713f45c709ea2e277b239", func := "davit/davitlaw25.MeterPlays", spec := "meterPlays", inPlace := ["math.Float64bits", "math.Float64frombits"], apart := false }
def MeterPlaysSaid : Prop := meterPlaysRow.holds Try.pinned (OpenSpec.ofChange meterPlaysSpec)

/-- ITS FALSE NEIGHBOUR: 'it returns false'. Refute it at one input. -/
def meterPlaysWrong : ChangeSpec := { name := "meterPlays", fn := fun _ => fun
  | [d1, d2] => { results := [.lit (.bool false)], args := [d1, d2] }
  | _ => none }
def MeterPlaysWrongFalsely : Prop := meterPlaysRow.holds Try.pinned (OpenSpec.ofChange meterPlaysWrong)

/-- 'davitlaw25.MeterRates': WHATEVER THE INPUT: true; the input reads as it did. -/
def meterRatesSpec : ChangeSpec := { name := "meterRates", fn := fun _ => fun
  | [d1, d2] => { results := [.lit (.bool true)], args := [d1, d2] }
  | _ => none }
def meterRatesRow : OpenClaim := { program := "ytmelbbojanomiaa", sum := "267f6ba89602dc9866b577e78565b48f3402528b6b8713f45c709ea2e277b239", func := "davit/davitlaw25.MeterRates", spec := "meterRates", inPlace := ["math.Float64frombits", "math.Float64bits"], apart := false }
def MeterRatesSaid : Prop := meterRatesRow.holds Try.pinned (OpenSpec.ofChange meterRatesSpec)

/-- ITS FALSE NEIGHBOUR: 'it returns false'. Refute it at one input. -/
def meterRatesWrong : ChangeSpec := { name := "meterRates", fn := fun _ => fun
  | [d1, d2] => { results := [.lit (.bool false)], args := [d1, d2] }
  | _ => none }
def MeterRatesWrongFalsely : Prop := meterRatesRow.holds Try.pinned (OpenSpec.ofChange meterRatesWrong)

/-- 'davitlaw25.MeterOrders': WHATEVER THE INPUT: true; the input reads as it did. -/
def meterOrdersSpec : ChangeSpec := { name := "meterOrders", fn := fun _ => fun
  | [d1, d2, d3] => { results := [.lit (.bool true)], args := [d1, d2, d3] }
  | _ => none }
def meterOrdersRow : OpenClaim := { program := "ytmelbbojanomiaa", sum := "267f6ba89602dc9866b577e78565b48f3402528b6b8713f45c709ea2e277b239", func := "davit/davitlaw25.MeterOrders", spec := "meterOrders", inPlace := ["math.Float64bits", "math.Float64frombits"], apart := false }
def MeterOrdersSaid : Prop := meterOrdersRow.holds Try.pinned (OpenSpec.ofChange meterOrdersSpec)

/-- ITS FALSE NEIGHBOUR: 'it returns false'. Refute it at one input. -/
def meterOrdersWrong : ChangeSpec := { name := "meterOrders", fn := fun _ => fun
  | [d1, d2, d3] => { results := [.lit (.bool false)], args := [d1, d2, d3] }
  | _ => none }
def MeterOrdersWrongFalsely : Prop := meterOrdersRow.holds Try.pinned (OpenSpec.ofChange meterOrdersWrong)

/-- 'davitlaw25.MeterLine': WHATEVER THE INPUT: true; the input reads as it did. -/
def meterLineSpec : ChangeSpec := { name := "meterLine", fn := fun _ => fun
  | [d1, d2, d3, d4] => { results := [.lit (.bool true)], args := [d1, d2, d3, d4] }
  | _ => none }
def meterLineRow : OpenClaim := { program := "ytmelbbojanomiaa", sum := "267f6ba89602dc9866b577e78565b48f3402528b6b8713f45c709ea2e277b239", func := "davit/davitlaw25.MeterLine", spec := "meterLine", inPlace := ["math.Float64bits", "math.Float64frombits"], apart := false }
def MeterLineSaid : Prop := meterLineRow.holds Try.pinned (OpenSpec.ofChange meterLineSpec)

/-- ITS FALSE NEIGHBOUR: 'it returns false'. Refute it at one input. -/
def meterLineWrong : ChangeSpec := { name := "meterLine", fn := fun _ => fun
  | [d1, d2, d3, d4] => { results := [.lit (.bool false)], args := [d1, d2, d3, d4] }
  | _ => none }
def MeterLineWrongFalsely : Prop := meterLineRow.holds Try.pinned (OpenSpec.ofChange meterLineWrong)

/-- 'davitlaw25.MeterNil': WHATEVER THE INPUT: true; the input reads as it did. -/
def meterNilSpec : ChangeSpec := { name := "meterNil", fn := fun _ => fun
  | [d1, d2] => { results := [.lit (.bool true)], args := [d1, d2] }
  | _ => none }
def meterNilRow : OpenClaim := { program := "ytmelbbojanomiaa", sum := "267f6ba89602dc9866b577e78565b48f3402528b6b8713f45c709ea2e277b239", func := "davit/davitlaw25.MeterNil", spec := "meterNil", inPlace := ["math.Float64bits"], apart := false }
def MeterNilSaid : Prop := meterNilRow.holds Try.pinned (OpenSpec.ofChange meterNilSpec)

/-- ITS FALSE NEIGHBOUR: 'it returns false'. Refute it at one input. -/
def meterNilWrong : ChangeSpec := { name := "meterNil", fn := fun _ => fun
  | [d1, d2] => { results := [.lit (.bool false)], args := [d1, d2] }
  | _ => none }
def MeterNilWrongFalsely : Prop := meterNilRow.holds Try.pinned (OpenSpec.ofChange meterNilWrong)

/-- 'davitlaw26.WirePuts': WHATEVER THE INPUT: true; the input reads as it did. -/
def wirePutsSpec : ChangeSpec := { name := "wirePuts", fn := fun _ => fun
  | [d] => { results := [.lit (.bool true)], args := [d] }
  | _ => none }
def wirePutsRow : OpenClaim := { program := "ytmelbbojanomiaa", sum := "267f6ba89602dc9866b577e78565b48f3402528b6b8713f45c709ea2e277b239", func := "davit/davitlaw26.WirePuts", spec := "wirePuts", apart := false }
def WirePutsSaid : Prop := wirePutsRow.holds Try.pinned (OpenSpec.ofChange wirePutsSpec)

/-- ITS FALSE NEIGHBOUR: 'it returns false'. Refute it at one input. -/
def wirePutsWrong : ChangeSpec := { name := "wirePuts", fn := fun _ => fun
  | [d] => { results := [.lit (.bool false)], args := [d] }
  | _ => none }
def WirePutsWrongFalsely : Prop := wirePutsRow.holds Try.pinned (OpenSpec.ofChange wirePutsWrong)

/- THE SECOND FORM. 'bulk': how many values and letters a reading holds, each counted each time it is reached (what is shared counts as often as it is met; a slice's spare places count too). A statement '..UptoSaid' is the law's where the arguments, and the package variables that the reading takes, are together of bulk at most 1048576: NARROWER than '..Said'. Prove '..Said' where nothing that the law and all that it calls make is longer than what came in: it says more and counts as full. Else prove '..UptoSaid'. A law counts once. -/
mutual
def uptoBulk {H : Type} : DataW H → Nat
  | .lit (.string bytes) => bytes.length + 1
  | .lit _ => 1
  | .nil => 1
  | .ptr d => uptoBulk d + 1
  | .slice elems spare => uptoBulkAll elems + uptoBulkAll spare + 1
  | .agg parts => uptoBulkAll parts + 1
  | .iface _ d => uptoBulk d + 1
  | .map entries => uptoBulkEntries entries + 1
  | .held _ => 1
def uptoBulkAll {H : Type} : List (DataW H) → Nat
  | [] => 0
  | d :: r => uptoBulk d + uptoBulkAll r
def uptoBulkEntries {H : Type} : List (Lit × DataW H) → Nat
  | [] => 0
  | x :: r => uptoBulkEntry x + uptoBulkEntries r
def uptoBulkEntry {H : Type} : Lit × DataW H → Nat
  | (.string bytes, d) => bytes.length + uptoBulk d + 1
  | (_, d) => uptoBulk d + 1
 end
def uptoSmall : (H : Type) → List (DataW H) → Bool := fun _ ds => decide (uptoBulkAll ds ≤ 1048576)
def OpenSpec.upto (s : _root_.Go.ChangeSpec) : _root_.Go.OpenSpec := { _root_.Go.OpenSpec.ofChange s with cond := some uptoSmall }

/-- 'davitlaw25.MeterPlays', WHERE WHAT IT READS IS OF BULK AT MOST 1048576: true; the input reads as it did. -/
def meterPlaysUptoRow : OpenClaim := { program := "ytmelbbojanomiaa", sum := "267f6ba89602dc9866b577e78565b48f3402528b6b8713f45c709ea2e277b239", func := "davit/davitlaw25.MeterPlays", spec := "meterPlays", inPlace := ["math.Float64bits", "math.Float64frombits"], apart := false, narrowed := true }
def MeterPlaysUptoSaid : Prop := meterPlaysUptoRow.holds Try.pinned (OpenSpec.upto meterPlaysSpec)

/-- 'davitlaw25.MeterRates', WHERE WHAT IT READS IS OF BULK AT MOST 1048576: true; the input reads as it did. -/
def meterRatesUptoRow : OpenClaim := { program := "ytmelbbojanomiaa", sum := "267f6ba89602dc9866b577e78565b48f3402528b6b8713f45c709ea2e277b239", func := "davit/davitlaw25.MeterRates", spec := "meterRates", inPlace := ["math.Float64frombits", "math.Float64bits"], apart := false, narrowed := true }
def MeterRatesUptoSaid : Prop := meterRatesUptoRow.holds Try.pinned (OpenSpec.upto meterRatesSpec)

/-- 'davitlaw25.MeterOrders', WHERE WHAT IT READS IS OF BULK AT MOST 1048576: true; the input reads as it did. -/
def meterOrdersUptoRow : OpenClaim := { program := "ytmelbbojanomiaa", sum := "267f6ba89602dc9866b577e78565b48f3402528b6b8713f45c709ea2e277b239", func := "davit/davitlaw25.MeterOrders", spec := "meterOrders", inPlace := ["math.Float64bits", "math.Float64frombits"], apart := false, narrowed := true }
def MeterOrdersUptoSaid : Prop := meterOrdersUptoRow.holds Try.pinned (OpenSpec.upto meterOrdersSpec)

/-- 'davitlaw25.MeterLine', WHERE WHAT IT READS IS OF BULK AT MOST 1048576: true; the input reads as it did. -/
def meterLineUptoRow : OpenClaim := { program := "ytmelbbojanomiaa", sum := "267f6ba89602dc9866b577e78565b48f3402528b6b8713f45c709ea2e277b239", func := "davit/davitlaw25.MeterLine", spec := "meterLine", inPlace := ["math.Float64bits", "math.Float64frombits"], apart := false, narrowed := true }
def MeterLineUptoSaid : Prop := meterLineUptoRow.holds Try.pinned (OpenSpec.upto meterLineSpec)

/-- 'davitlaw25.MeterNil', WHERE WHAT IT READS IS OF BULK AT MOST 1048576: true; the input reads as it did. -/
def meterNilUptoRow : OpenClaim := { program := "ytmelbbojanomiaa", sum := "267f6ba89602dc9866b577e78565b48f3402528b6b8713f45c709ea2e277b239", func := "davit/davitlaw25.MeterNil", spec := "meterNil", inPlace := ["math.Float64bits"], apart := false, narrowed := true }
def MeterNilUptoSaid : Prop := meterNilUptoRow.holds Try.pinned (OpenSpec.upto meterNilSpec)

/-- 'davitlaw26.WirePuts', WHERE WHAT IT READS IS OF BULK AT MOST 1048576: true; the input reads as it did. -/
def wirePutsUptoRow : OpenClaim := { program := "ytmelbbojanomiaa", sum := "267f6ba89602dc9866b577e78565b48f3402528b6b8713f45c709ea2e277b239", func := "davit/davitlaw26.WirePuts", spec := "wirePuts", apart := false, narrowed := true }
def WirePutsUptoSaid : Prop := wirePutsUptoRow.holds Try.pinned (OpenSpec.upto wirePutsSpec)

end Rows
end Go.Proofs.Ytmelbbojanomiaa
