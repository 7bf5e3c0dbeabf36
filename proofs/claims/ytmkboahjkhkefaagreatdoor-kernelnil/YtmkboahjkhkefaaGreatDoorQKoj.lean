/- Contracts of the program's layers, as far as this claim needs them. -/
import Derived.Test.YtmkboahjkhkefaaGreatDoorQKof
import Derived.Test.YtmkboahjkhkefaaGreatDoorRows
import Derived.WalkKit
import Derived.ProofKit
import Derived.OpenShut
import Derived.BigQuiet
import Derived.Deep.RegionHeld3
set_option linter.unusedVariables false
set_option linter.unusedSimpArgs false
namespace Go.Proofs.YtmkboahjkhkefaaGreatDoor.Krn
open Go.ChangeShapes Go.WideShapes Go.ChangeAt Go.RowKit
open Mm
section
variable {B : Nat} {w0 : World} {A : List (Nat × List Value × TypeId)} {a : KA} {m m' : Nat} {S S' : KS} {w w' : World}
set_option maxRecDepth 100000 in
set_option maxHeartbeats 1000000 in
theorem ofThreads_3 (h : KX B w0 A a m S w) {ec ei : Int} {em : Nat} {en : Int} (ok : EvOk ⟨3, ec, ei, em, en⟩) (hm : m + 64 ≤ 1000000) : Calls Tryz.prog 60 #[.pointer (some ⟨a.k, 0, none⟩), .agg #[.int .i64 3, .int .i64 ec, .int .i64 ei, .int .u64 (em : Int), .int .i64 en]] w fun e w' => OfP B w0 a A m (m + 64) S (ofThreads a.n S ⟨3, ec, ei, em, en⟩) e w' := by
  have h0 := h
  have h1 := h0.at (z := w.heap.size) (by simp) [.pointer (some ⟨a.k, 0, none⟩)] 23
  have h2 := h1.at (z := w.heap.size + 1) (by simp) [.int .i64 3, .int .i64 ec, .int .i64 ei, .int .u64 (em : Int), .int .i64 en] 34
  have h3 := h2.at (z := w.heap.size + 2) (by simp) [.int .u64 (em : Int)] 29
  have hmf : ∀ (fn : Fn) (first cap : Array Value) (w : World), (Instr.makeFunc fn first cap).run Tryz.prog w = .ok (.func fn first cap) w := fun _ _ _ _ => rfl
  go_enter Tryz.func60, Tryz.ntmps60
  go_wp2
  go_ret
  exact OfP.mk (X := [_, _, _]) h3 (AnsV.mk fnc_92 (ofThreads_1_any (e := ⟨3, ec, ei, em, en⟩) ok hm (List.mem_cons_of_mem _ (List.mem_cons_of_mem _ (List.mem_cons_self ..))) (List.mem_cons_of_mem _ (List.mem_cons_self ..)) (List.mem_cons_self ..)))
end
end Go.Proofs.YtmkboahjkhkefaaGreatDoor.Krn
