/- The calls of a table of interrupts that is not there. -/
import Derived.Test.YthhgmnkgeombhaaRows
import Derived.Test.YthhgmnkgeombhaaBc
import Derived.WalkKit
import Derived.ProofKit
import Derived.OpenShut
import Derived.BigQuiet
namespace Go.Proofs.Ythhgmnkgeombhaa
open Go.ChangeShapes Go.WideShapes Go.ChangeAt Go.RowKit
open Mm Bm

theorem iqnil_at (n : Int) (w : World) : Calls Try.prog 49 #[.pointer none, .int .i64 n] w fun e w' => e = .returned (.tuple #[.pointer none, .int .i64 1]) ∧ w' = w := by
  go_enter Try.func49, Try.ntmps49
  go_wp2
  go_ret2
  exact ⟨rfl, rfl⟩
theorem iqnil_wanted (n : Int) (w : World) : Calls Try.prog 53 #[.pointer none, .int .i64 n] w fun e w' => e = .returned (.tuple #[.pointer none, .int .i64 1]) ∧ w' = w := by
  have C : Hid (∀ w, _) := fun w => iqnil_at n w
  go_enter Try.func53, Try.ntmps53
  go_wp2_with fail
  refine (C.out _).mono ?_
  rintro e w' ⟨rfl, rfl⟩
  go_wp2
  go_ret2
  exact ⟨rfl, rfl⟩
theorem iqnil_list (w : World) : Calls Try.prog 16 #[.pointer none] w fun e w' => e = .returned (.slice none 0 0) ∧ w' = w := by
  go_enter Try.func16, Try.ntmps16
  go_wp2
  go_ret
  exact ⟨rfl, rfl⟩
theorem iqnil_request (n m : Int) (w : World) : Calls Try.prog 21 #[.pointer none, .int .i64 n, .int .u64 m] w fun e w' => e = .returned (.int .i64 1) ∧ w' = w := by
  have C : Hid (∀ w, _) := fun w => iqnil_at n w
  go_enter Try.func21, Try.ntmps21
  go_wp2_with fail
  refine (C.out _).mono ?_
  rintro e w' ⟨rfl, rfl⟩
  go_wp2
  go_ret
  exact ⟨rfl, rfl⟩
theorem iqnil_free (n : Int) (w : World) : Calls Try.prog 26 #[.pointer none, .int .i64 n] w fun e w' => e = .returned (.int .i64 1) ∧ w' = w := by
  have C : Hid (∀ w, _) := fun w => iqnil_wanted n w
  go_enter Try.func26, Try.ntmps26
  go_wp2_with fail
  refine (C.out _).mono ?_
  rintro e w' ⟨rfl, rfl⟩
  go_wp2
  go_ret
  exact ⟨rfl, rfl⟩
theorem iqnil_aim (n m : Int) (w : World) : Calls Try.prog 27 #[.pointer none, .int .i64 n, .int .u64 m] w fun e w' => e = .returned (.int .i64 1) ∧ w' = w := by
  have C : Hid (∀ w, _) := fun w => iqnil_wanted n w
  go_enter Try.func27, Try.ntmps27
  go_wp2_with fail
  refine (C.out _).mono ?_
  rintro e w' ⟨rfl, rfl⟩
  go_wp2
  go_ret
  exact ⟨rfl, rfl⟩
theorem iqnil_turn (n : Int) (b : Bool) (w : World) : Calls Try.prog 52 #[.pointer none, .int .i64 n, .bool b] w fun e w' => e = .returned (.int .i64 1) ∧ w' = w := by
  have C : Hid (∀ w, _) := fun w => iqnil_wanted n w
  go_enter Try.func52, Try.ntmps52
  go_wp2_with fail
  refine (C.out _).mono ?_
  rintro e w' ⟨rfl, rfl⟩
  go_wp2
  go_ret
  exact ⟨rfl, rfl⟩
theorem iqnil_hush (n : Int) (w : World) : Calls Try.prog 22 #[.pointer none, .int .i64 n] w fun e w' => e = .returned (.int .i64 1) ∧ w' = w := by
  have C : Hid (∀ w, _) := fun w => iqnil_turn n true w
  go_enter Try.func22, Try.ntmps22
  go_wp2_with fail
  refine (C.out _).mono ?_
  rintro e w' ⟨rfl, rfl⟩
  go_wp2
  go_ret
  exact ⟨rfl, rfl⟩
theorem iqnil_unhush (n : Int) (w : World) : Calls Try.prog 25 #[.pointer none, .int .i64 n] w fun e w' => e = .returned (.int .i64 1) ∧ w' = w := by
  have C : Hid (∀ w, _) := fun w => iqnil_turn n false w
  go_enter Try.func25, Try.ntmps25
  go_wp2_with fail
  refine (C.out _).mono ?_
  rintro e w' ⟨rfl, rfl⟩
  go_wp2
  go_ret
  exact ⟨rfl, rfl⟩
theorem iqnil_raise (n : Int) (w : World) : Calls Try.prog 23 #[.pointer none, .int .i64 n] w fun e w' => e = .returned (.int .i64 1) ∧ w' = w := by
  have C : Hid (∀ w, _) := fun w => iqnil_wanted n w
  go_enter Try.func23, Try.ntmps23
  go_wp2_with fail
  refine (C.out _).mono ?_
  rintro e w' ⟨rfl, rfl⟩
  go_wp2
  go_ret
  exact ⟨rfl, rfl⟩
theorem iqnil_clear (n : Int) (w : World) : Calls Try.prog 24 #[.pointer none, .int .i64 n] w fun e w' => e = .returned (.int .i64 1) ∧ w' = w := by
  have C : Hid (∀ w, _) := fun w => iqnil_wanted n w
  go_enter Try.func24, Try.ntmps24
  go_wp2_with fail
  refine (C.out _).mono ?_
  rintro e w' ⟨rfl, rfl⟩
  go_wp2
  go_ret
  exact ⟨rfl, rfl⟩
theorem iqnil_ready (n : Int) (w : World) : Calls Try.prog 13 #[.pointer none, .int .i64 n] w fun e w' => e = .returned (.bool false) ∧ w' = w := by
  have C : Hid (∀ w, _) := fun w => iqnil_at n w
  go_enter Try.func13, Try.ntmps13
  go_wp2_with fail
  refine (C.out _).mono ?_
  rintro e w' ⟨rfl, rfl⟩
  go_wp2
  go_ret
  exact ⟨rfl, rfl⟩

set_option maxRecDepth 100000 in
theorem iqnil_get (n : Int) (w : World) : Calls Try.prog 18 #[.pointer none, .int .i64 n] w fun e w' => e = .returned (.tuple #[iqv zi, .int .i64 1]) ∧ Below w.heap.size w w' := by
  obtain ⟨wa, hwa⟩ : ∃ wa, wi w = wa := ⟨_, rfl⟩
  have HWA : Hid (w.alloc (.cells #[.bool false, .bool false, .bool false, .int .u64 0] 41) = wa) := hwa
  have hb := wi_below w
  have hk := wi_blk w
  rw [hwa] at hb hk
  have C1 : Hid (∀ w, _) := fun w => iqnil_at n w
  have BL : Hid (Fr w.heap.size [] w wa) := Fr.of_below hb
  obtain ⟨z, hz⟩ : ∃ z, w.heap.size = z := ⟨_, rfl⟩
  have HZ : Hid (w.heap.size = z) := hz
  rw [hz] at hk BL ⊢
  have KB : Hid (∀ v0 v1 v2 v3 : Value, _) := blk_four hk
  have z0 : wa.cell? ⟨z, 0, none⟩ = some (.bool false) := hk.cell 0
  have z1 : wa.cell? ⟨z, 1, none⟩ = some (.bool false) := hk.cell 1
  have z2 : wa.cell? ⟨z, 2, none⟩ = some (.bool false) := hk.cell 2
  have z3 : wa.cell? ⟨z, 3, none⟩ = some (.int .u64 0) := hk.cell 3
  have f0 := hk.free 0
  have f1 := hk.free 1
  have f2 := hk.free 2
  have f3 := hk.free 3
  clear hwa hb hk hz
  go_enter Try.func18, Try.ntmps18
  go_wp2_with fail
  rw [HWA.out, HZ.out]
  refine (C1.out _).mono ?_
  rintro e w' ⟨rfl, rfl⟩
  go_wp2
  exact bodyPost_ret (iqget_ret (t := zi) (KB.out _ _ _ _) rfl rfl) rfl ⟨rfl, (fr_4 BL.out (Or.inl (Nat.le_refl _)) _ _ _ _).below (by simp)⟩
end Go.Proofs.Ythhgmnkgeombhaa
