/- The fixed calls of drill's laws. -/
import Derived.Test.YtijicghdmlfheaaRows
import Derived.Test.YtijicghdmlfheaaDr7
import Derived.WalkKit
import Derived.ProofKit
import Derived.OpenShut
import Derived.BigQuiet
import Derived.BigGuard
import Derived.Carry
namespace Go.Proofs.Ytijicghdmlfheaa.Dri
open Go.ChangeShapes Go.WideShapes Go.ChangeAt Go.RowKit
open Mm
set_option linter.unusedVariables false
set_option linter.unusedSimpArgs false
set_option maxRecDepth 100000

theorem first_roll : rlN 0 1000 = 807 := by kernel_rfl
theorem vd1000 : vd 1000 = true := rfl
set_option maxHeartbeats 4000000 in
theorem dknown_yes (w : World) :
    Calls Try.prog 10 #[] w fun e w' => e = .returned (.bool true) ∧ Below w.heap.size w w' := by
  have CN : Hid (∀ v, _) := fun v => new_any 0 v
  have CS : Hid (∀ v, _) := fun v => script_ok 2 7 40 v (by omega) (by omega) (by omega) (by omega)
  have CR : Hid (∀ v, Blk v w.heap.size [.int .u64 ((0 : Nat) : Int)] 44 → _) := fun v k => roll_of (w := v) vd1000 k (by omega)
  rw [first_roll] at CR
  have K0 : Hid (Blk (w.alloc (.cells #[.int .u64 ((0 : Nat) : Int)] 44)) w.heap.size [.int .u64 ((0 : Nat) : Int)] 44) := Blk.new w _ _
  have B0 : Hid (Below w.heap.size w (w.alloc (.cells #[.int .u64 ((0 : Nat) : Int)] 44))) := (Below.refl _ _).alloc (Nat.le_refl _) _
  go_enter Try.func10, Try.ntmps10
  go_wp2_with fail
  refine (CN.out _).mono ?_
  rintro e w1 ⟨rfl, rfl⟩
  go_wp2_with fail
  refine (CS.out _).mono ?_
  rintro e w2 ⟨v, rfl, hr, b2⟩
  obtain ⟨a, cap, rfl⟩ := hr.shape
  rw [scr_len]
  have K2 : Hid (Blk w2 w.heap.size [.int .u64 ((0 : Nat) : Int)] 44) := K0.out.keep (Fr.of_below b2) K0.out.lt (by simp)
  have B2 : Hid (Below w.heap.size w w2) := B0.out.trans (b2.mono B0.out.size)
  clear hr b2
  go_wp2_with fail
  refine (CR.out _ K2.out).mono ?_
  rintro e w3 ⟨rfl, b3, f3⟩
  have B3 : Hid (Below w.heap.size w w3) := B2.out.trans ((f3.less B2.out.size).below (by simp))
  clear b3 f3
  go_wp2
  go_ret
  exact ⟨rfl, B3.out⟩
end Go.Proofs.Ytijicghdmlfheaa.Dri
