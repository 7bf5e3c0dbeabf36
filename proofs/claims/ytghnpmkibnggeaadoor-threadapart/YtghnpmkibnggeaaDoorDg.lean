/- A thread of the program and one of the document are told to be alike (davitlaw11.same). -/
import Derived.Test.YtghnpmkibnggeaaDoorRows
import Derived.Test.YtghnpmkibnggeaaDoorTa
import Derived.WalkKit
import Derived.ProofKit
import Derived.OpenShut
import Derived.BigQuiet
namespace Go.Proofs.YtghnpmkibnggeaaDoor
open Go.ChangeShapes Go.WideShapes Go.ChangeAt Go.RowKit
open Mm Sl Tm

set_option maxRecDepth 100000 in
set_option maxHeartbeats 1000000 in
theorem same_any (t : Th) (n : Int) (w : World) :
    Calls Tryd.prog 18 #[.agg #[.int .i64 t.prio, .int .u64 (t.mask : Int), .int .i64 t.cpu, .bool t.forced, .bool t.sleeps, .int .i64 t.timer], .agg #[.int .i64 n, .int .i64 t.prio, .int .u64 (t.mask : Int), .int .i64 t.cpu, .bool t.forced, .bool t.sleeps, .int .i64 t.timer]] w fun e w' => e = .returned (.bool true) ∧ Below w.heap.size w w' := by
  have e0 : (t.prio == t.prio) = true := by simp
  have e1 : ((t.mask : Int) == (t.mask : Int)) = true := by simp
  have e2 : (t.cpu == t.cpu) = true := by simp
  have e3 : (t.forced == t.forced) = true := by simp
  have e4 : (t.sleeps == t.sleeps) = true := by simp
  have e5 : (t.timer == t.timer) = true := by simp
  have BB : Hid (∀ o1 o2, Below w.heap.size w ((w.alloc o1).alloc o2)) := fun o1 o2 => ((Below.refl _ _).alloc (Nat.le_refl _) o1).alloc (by simp) o2
  go_enter Tryd.func18, Tryd.ntmps18
  go_wp2
  go_ret
  exact ⟨rfl, BB.out _ _⟩
end Go.Proofs.YtghnpmkibnggeaaDoor
