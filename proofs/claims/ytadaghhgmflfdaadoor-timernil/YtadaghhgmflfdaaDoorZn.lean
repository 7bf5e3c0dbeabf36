/- The calls of timers that are not there. -/
import Derived.Test.YtadaghhgmflfdaaDoorRows
import Derived.Test.YtadaghhgmflfdaaDoorZa
import Derived.WalkKit
import Derived.ProofKit
import Derived.OpenShut
import Derived.BigQuiet
namespace Go.Proofs.YtadaghhgmflfdaaDoor
open Go.ChangeShapes Go.WideShapes Go.ChangeAt Go.RowKit
open Wm Zm

theorem tnil_arm (c d : Int) (w : World) : Calls Tryd.prog 23 #[.pointer none, .int .i64 c, .int .i64 d] w fun e w' => e = .returned (.tuple #[.int .i64 0, .int .i64 1]) ∧ w' = w := by
  have C0 : Hid (∀ w, _) := fun w => on_nil (w := w) c
  go_enter Tryd.func23, Tryd.ntmps23
  go_wp2_with fail
  refine (C0.out _).mono ?_
  rintro e w' ⟨rfl, rfl⟩
  go_wp2
  go_ret2
  exact ⟨rfl, rfl⟩
theorem tnil_cancel (c : Int) (w : World) : Calls Tryd.prog 28 #[.pointer none, .int .i64 c] w fun e w' => e = .returned (.int .i64 1) ∧ w' = w := by
  go_enter Tryd.func28, Tryd.ntmps28
  go_wp2
  go_ret
  exact ⟨rfl, rfl⟩
theorem tnil_go (c : Int) (w : World) : Calls Tryd.prog 25 #[.pointer none, .int .i64 c] w fun e w' => e = .returned (.int .i64 1) ∧ w' = w := by
  go_enter Tryd.func25, Tryd.ntmps25
  go_wp2
  go_ret
  exact ⟨rfl, rfl⟩
theorem tnil_now (w : World) : Calls Tryd.prog 22 #[.pointer none] w fun e w' => e = .returned (.int .i64 0) ∧ w' = w := by
  have C0 : Hid (∀ w, _) := fun w => on_nil (w := w) 0
  have C1 : Hid (∀ w, _) := fun w => wnil_now w
  go_enter Tryd.func22, Tryd.ntmps22
  go_wp2_with fail
  refine (C0.out _).mono ?_
  rintro e w' ⟨rfl, rfl⟩
  go_wp2_with fail
  refine (C1.out _).mono ?_
  rintro e w' ⟨rfl, rfl⟩
  go_wp2
  go_ret
  exact ⟨rfl, rfl⟩
theorem tnil_fire (c : Int) (w : World) : Calls Tryd.prog 26 #[.pointer none, .int .i64 c] w fun e w' => e = .returned (.tuple #[.int .i64 0, .int .i64 1]) ∧ w' = w := by
  have C0 : Hid (∀ w, _) := fun w => on_nil (w := w) c
  go_enter Tryd.func26, Tryd.ntmps26
  go_wp2_with fail
  refine (C0.out _).mono ?_
  rintro e w' ⟨rfl, rfl⟩
  go_wp2
  go_ret2
  exact ⟨rfl, rfl⟩
theorem tnil_ready (c : Int) (w : World) : Calls Tryd.prog 17 #[.pointer none, .int .i64 c] w fun e w' => e = .returned (.bool false) ∧ w' = w := by
  have C0 : Hid (∀ w, _) := fun w => on_nil (w := w) c
  have C1 : Hid (∀ w, _) := fun w => wnil_next w
  go_enter Tryd.func17, Tryd.ntmps17
  go_wp2_with fail
  refine (C0.out _).mono ?_
  rintro e w' ⟨rfl, rfl⟩
  go_wp2_with fail
  refine (C1.out _).mono ?_
  rintro e w' ⟨rfl, rfl⟩
  go_wp2
  go_ret
  exact ⟨rfl, rfl⟩
theorem tnil_next (c : Int) (w : World) : Calls Tryd.prog 10 #[.pointer none, .int .i64 c] w fun e w' => e = .returned (.tuple #[.int .i64 0, .int .i64 1]) ∧ w' = w := by
  have C0 : Hid (∀ w, _) := fun w => on_nil (w := w) c
  go_enter Tryd.func10, Tryd.ntmps10
  go_wp2_with fail
  refine (C0.out _).mono ?_
  rintro e w' ⟨rfl, rfl⟩
  go_wp2
  go_ret2
  exact ⟨rfl, rfl⟩
theorem tnil_move (c d : Int) (w : World) : Calls Tryd.prog 24 #[.pointer none, .int .i64 c, .int .i64 d] w fun e w' => e = .returned (.tuple #[.int .i64 0, .int .i64 1]) ∧ w' = w := by
  have C0 : Hid (∀ w, _) := fun w => on_nil (w := w) c
  go_enter Tryd.func24, Tryd.ntmps24
  go_wp2_with fail
  refine (C0.out _).mono ?_
  rintro e w' ⟨rfl, rfl⟩
  go_wp2
  go_ret2
  exact ⟨rfl, rfl⟩
theorem tnil_where (c : Int) (w : World) : Calls Tryd.prog 12 #[.pointer none, .int .i64 c] w fun e w' => e = .returned (.tuple #[.int .i64 0, .bool false]) ∧ w' = w := by
  go_enter Tryd.func12, Tryd.ntmps12
  go_wp2
  go_ret2
  exact ⟨rfl, rfl⟩
theorem tnil_when (c : Int) (w : World) : Calls Tryd.prog 14 #[.pointer none, .int .i64 c] w fun e w' => e = .returned (.tuple #[.int .i64 0, .bool false]) ∧ w' = w := by
  have C0 : Hid (∀ w, _) := fun w => tnil_where c w
  go_enter Tryd.func14, Tryd.ntmps14
  go_wp2_with fail
  refine (C0.out _).mono ?_
  rintro e w' ⟨rfl, rfl⟩
  go_wp2
  go_ret2
  exact ⟨rfl, rfl⟩
theorem tnil_load (c : Int) (w : World) : Calls Tryd.prog 19 #[.pointer none, .int .i64 c] w fun e w' => e = .returned (.int .i64 0) ∧ w' = w := by
  have C0 : Hid (∀ w, _) := fun w => on_nil (w := w) c
  have C1 : Hid (∀ w, _) := fun w => wnil_len w
  go_enter Tryd.func19, Tryd.ntmps19
  go_wp2_with fail
  refine (C0.out _).mono ?_
  rintro e w' ⟨rfl, rfl⟩
  go_wp2_with fail
  refine (C1.out _).mono ?_
  rintro e w' ⟨rfl, rfl⟩
  go_wp2
  go_ret
  exact ⟨rfl, rfl⟩
theorem tnil_list (c : Int) (w : World) : Calls Tryd.prog 21 #[.pointer none, .int .i64 c] w fun e w' => e = .returned (.slice none 0 0) ∧ w' = w := by
  have C0 : Hid (∀ w, _) := fun w => on_nil (w := w) c
  have C1 : Hid (∀ w, _) := fun w => wnil_list w
  go_enter Tryd.func21, Tryd.ntmps21
  go_wp2_with fail
  refine (C0.out _).mono ?_
  rintro e w' ⟨rfl, rfl⟩
  go_wp2_with fail
  refine (C1.out _).mono ?_
  rintro e w' ⟨rfl, rfl⟩
  go_wp2
  go_ret
  exact ⟨rfl, rfl⟩
end Go.Proofs.YtadaghhgmflfdaaDoor
