/- Contracts of the program's layers, as far as this claim needs them. -/
import Derived.Test.YtmkboahjkhkefaaGreatDoorQKne
import Derived.Test.YtmkboahjkhkefaaGreatDoorQKp
import Derived.Test.YtmkboahjkhkefaaGreatDoorQKoj
import Derived.Test.YtmkboahjkhkefaaGreatDoorRows
import Derived.WalkKit
import Derived.ProofKit
import Derived.OpenShut
import Derived.BigQuiet
import Derived.Deep.RegionHeld3
set_option linter.unusedVariables false
set_option linter.unusedSimpArgs false
namespace Go.Proofs.YtmkboahjkhkefaaGreatDoor.Krn
open Go.ChangeShapes Go.WideShapes Go.ChangeAt Go.RowKit
open Mm
section
variable {B : Nat} {w0 : World} {A : List (Nat × List Value × TypeId)} {a : KA} {m m' : Nat} {S S' : KS} {w w' : World}
theorem same_one {b c : Nat} {x : Rec} (h1 : Blk w b (rc x) 37) (h2 : Blk w c (rc x) 37) : Calls Tryz.prog 56 #[.slice (some ⟨b, 0, none⟩) 1 1, .slice (some ⟨c, 0, none⟩) 1 1] w fun e w' => e = .returned (.bool true) ∧ Sm w' w := by
  have c0 : w.cell? ⟨b, 0, none⟩ = some (.int .i64 x.kind) := h1.cell 0
  have c1 : w.cell? ⟨b, 1, none⟩ = some (.int .i64 x.cpu) := h1.cell 1
  have c2 : w.cell? ⟨b, 2, none⟩ = some (.int .i64 x.id) := h1.cell 2
  have c3 : w.cell? ⟨b, 3, none⟩ = some (.int .i64 x.n) := h1.cell 3
  have c4 : w.cell? ⟨b, 4, none⟩ = some (.int .i64 x.why) := h1.cell 4
  have d0 : w.cell? ⟨c, 0, none⟩ = some (.int .i64 x.kind) := h2.cell 0
  have d1 : w.cell? ⟨c, 1, none⟩ = some (.int .i64 x.cpu) := h2.cell 1
  have d2 : w.cell? ⟨c, 2, none⟩ = some (.int .i64 x.id) := h2.cell 2
  have d3 : w.cell? ⟨c, 3, none⟩ = some (.int .i64 x.n) := h2.cell 3
  have d4 : w.cell? ⟨c, 4, none⟩ = some (.int .i64 x.why) := h2.cell 4
  clear h1 h2
  go_enter Tryz.func56, Tryz.ntmps56
  go_wp2
  go_loopw [5] (fun i wr => ∃ k q : Nat, (k : Int) ≤ 1 ∧ wr = w.drewN q ∧ i = .int .i64 k) (fun i _ => 1 - (intOf i).toNat)
  case atStart => exact ⟨0, 0, by omega, rfl, rfl⟩
  case round =>
    obtain ⟨k, q, hk, rfl, rfl⟩ := hrel
    by_cases h : (k : Int) < 1
    · obtain rfl : k = 0 := by omega
      go_wp2
      go_quiet (fail)
      go_wp2
      go_roundw
      case rel => exact ⟨1, _, by omega, rfl, by go_num⟩
      case measure => simp [intOf]
    · go_wp2
      go_ret
      exact ⟨rfl, rfl, rfl, rfl, rfl⟩
end
def kv1 : Ev := ⟨3, 0, 3, 1, 0⟩
def kv2 : Ev := ⟨1, 0, 0, 0, 0⟩
def ks1 : KS := (kdo 2 (new 2) kv1).2
def ks2 : KS := (kdo 2 ks1 kv2).2
theorem kr1 : (kdo 2 (new 2) kv1).1 = [⟨1, 0, 1, 0, 0⟩] := by kernel_rfl
theorem kr2 : (kdo 2 ks1 kv2).1 = [⟨2, 0, 1, 0, 0⟩] := by kernel_rfl
theorem ks2_on : ks2.on = 3 := by kernel_rfl
theorem ok1 : EvOk kv1 := ⟨by unfold wf; kernel_rfl, by unfold wf; kernel_rfl, by unfold wf; kernel_rfl, by unfold wf; kernel_rfl, by decide⟩
theorem ok2 : EvOk kv2 := ⟨by unfold wf; kernel_rfl, by unfold wf; kernel_rfl, by unfold wf; kernel_rfl, by unfold wf; kernel_rfl, by decide⟩
end Go.Proofs.YtmkboahjkhkefaaGreatDoor.Krn
