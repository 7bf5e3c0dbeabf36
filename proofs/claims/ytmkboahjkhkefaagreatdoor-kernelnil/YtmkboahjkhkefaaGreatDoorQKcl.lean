/- Contracts of the program's layers, as far as this claim needs them. -/
import Derived.Test.YtmkboahjkhkefaaGreatDoorQKan
import Derived.Test.YtmkboahjkhkefaaGreatDoorRows
import Derived.WalkKit
import Derived.ProofKit
import Derived.OpenShut
import Derived.BigQuiet
import Derived.Deep.RegionHeld3
import Derived.Test.YtmkboahjkhkefaaGreatDoorQKfl
import Derived.Test.YtmkboahjkhkefaaGreatDoorQKth
import Derived.Test.YtmkboahjkhkefaaGreatDoorQKrc
set_option linter.unusedVariables false
set_option linter.unusedSimpArgs false
namespace Go.Proofs.YtmkboahjkhkefaaGreatDoor.Krn
open Go.ChangeShapes Go.WideShapes Go.ChangeAt Go.RowKit
open Mm
section
variable {B : Nat} {w0 : World} {A : List (Nat × List Value × TypeId)} {a : KA} {m m' : Nat} {S S' : KS} {w w' : World}
def EvOk (e : Ev) : Prop := wf e.kind ∧ wf e.cpu ∧ wf e.id ∧ wf e.n ∧ e.mask < 18446744073709551616
set_option maxRecDepth 100000 in
set_option maxHeartbeats 1000000 in
theorem ofThreads_1_any {bk be bw : Nat} {e : Ev} (ok : EvOk e) (_hm : m + 64 ≤ 1000000) (hk : (bk, [Value.pointer (some ⟨a.k, 0, none⟩)], 23) ∈ A) (he : (be, [Value.int .i64 e.kind, .int .i64 e.cpu, .int .i64 e.id, .int .u64 (e.mask : Int), .int .i64 e.n], 34) ∈ A) (hw : (bw, [Value.int .u64 (e.mask : Int)], 29) ∈ A) : Ansr B w0 a A 92 #[.pointer (some ⟨bk, 0, none⟩), .pointer (some ⟨be, 0, none⟩), .pointer (some ⟨bw, 0, none⟩)] m (m + 64) S (spawn a.n S e.id e.mask) := by
  obtain ⟨o0, o1, o2, o3, o4⟩ := ok
  intro A' w sub h
  have h1 := h
  have ck0 : w.cell? ⟨bk, 0, none⟩ = some (.pointer (some ⟨a.k, 0, none⟩)) := (h1.bx _ (sub _ hk)).cell 0
  have ce0 : w.cell? ⟨be, 0, none⟩ = some (.int .i64 e.kind) := (h1.bx _ (sub _ he)).cell 0
  have ce1 : w.cell? ⟨be, 1, none⟩ = some (.int .i64 e.cpu) := (h1.bx _ (sub _ he)).cell 1
  have ce2 : w.cell? ⟨be, 2, none⟩ = some (.int .i64 e.id) := (h1.bx _ (sub _ he)).cell 2
  have ce3 : w.cell? ⟨be, 3, none⟩ = some (.int .u64 (e.mask : Int)) := (h1.bx _ (sub _ he)).cell 3
  have ce4 : w.cell? ⟨be, 4, none⟩ = some (.int .i64 e.n) := (h1.bx _ (sub _ he)).cell 4
  have cw0 : w.cell? ⟨bw, 0, none⟩ = some (.int .u64 (e.mask : Int)) := (h1.bx _ (sub _ hw)).cell 0
  have CC : Hid (∀ v, Sm v w → _) := fun v s => k_spawn (h1.sm s) e.id e.mask o4 (by omega)
  generalize spawn a.n S e.id e.mask = r at *
  obtain ⟨r1, r2, T⟩ := r
  simp only at *
  go_enter Tryz.func92, Tryz.ntmps92
  go_wp2_with fail
  refine (CC.out _ ?_).mono ?_
  · exact ⟨rfl, rfl, rfl, rfl⟩
  rintro e w3 ⟨rfl, h3⟩
  go_wp2
  go_ret2
  exact ⟨rfl, (h3).more (by omega)⟩
end
end Go.Proofs.YtmkboahjkhkefaaGreatDoor.Krn
