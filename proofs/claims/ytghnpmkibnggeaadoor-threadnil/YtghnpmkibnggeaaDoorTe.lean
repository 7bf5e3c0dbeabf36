/- The calls of a table of threads that is not there. -/
import Derived.Test.YtghnpmkibnggeaaDoorRows
import Derived.Test.YtghnpmkibnggeaaDoorTa
import Derived.WalkKit
import Derived.ProofKit
import Derived.OpenShut
import Derived.BigQuiet
namespace Go.Proofs.YtghnpmkibnggeaaDoor
open Go.ChangeShapes Go.WideShapes Go.ChangeAt Go.RowKit
open Mm Sl Tm

theorem thnil_find (n : Int) (w : World) : Calls Tryd.prog 46 #[.pointer none, .int .i64 n] w fun e w' => e = .returned (.tuple #[.pointer none, .int .i64 1]) ∧ w' = w := by
  go_enter Tryd.func46, Tryd.ntmps46
  go_wp2
  go_ret2
  exact ⟨rfl, rfl⟩
theorem thnil_spawn (p m : Int) (w : World) : Calls Tryd.prog 19 #[.pointer none, .int .i64 p, .int .u64 m] w fun e w' => e = .returned (.tuple #[.int .i64 0, .int .i64 1]) ∧ w' = w := by
  go_enter Tryd.func19, Tryd.ntmps19
  go_wp2
  go_ret2
  exact ⟨rfl, rfl⟩
theorem thnil_list (w : World) : Calls Tryd.prog 14 #[.pointer none] w fun e w' => e = .returned (.slice none 0 0) ∧ w' = w := by
  go_enter Tryd.func14, Tryd.ntmps14
  go_wp2
  go_ret
  exact ⟨rfl, rfl⟩
theorem thnil_exit (n : Int) (w : World) : Calls Tryd.prog 21 #[.pointer none, .int .i64 n] w fun e w' => e = .returned (.int .i64 1) ∧ w' = w := by
  have C : Hid (∀ w, _) := fun w => thnil_find n w
  go_enter Tryd.func21, Tryd.ntmps21
  go_wp2_with fail
  refine (C.out _).mono ?_
  rintro e w' ⟨rfl, rfl⟩
  go_wp2
  go_ret
  exact ⟨rfl, rfl⟩
theorem thnil_aim (n m : Int) (w : World) : Calls Tryd.prog 22 #[.pointer none, .int .i64 n, .int .u64 m] w fun e w' => e = .returned (.int .i64 1) ∧ w' = w := by
  have C : Hid (∀ w, _) := fun w => thnil_find n w
  go_enter Tryd.func22, Tryd.ntmps22
  go_wp2_with fail
  refine (C.out _).mono ?_
  rintro e w' ⟨rfl, rfl⟩
  go_wp2
  go_ret
  exact ⟨rfl, rfl⟩
theorem thnil_place (n u : Int) (f : Bool) (w : World) : Calls Tryd.prog 23 #[.pointer none, .int .i64 n, .int .i64 u, .bool f] w fun e w' => e = .returned (.int .i64 1) ∧ w' = w := by
  have C : Hid (∀ w, _) := fun w => thnil_find n w
  go_enter Tryd.func23, Tryd.ntmps23
  go_wp2_with fail
  refine (C.out _).mono ?_
  rintro e w' ⟨rfl, rfl⟩
  go_wp2
  go_ret
  exact ⟨rfl, rfl⟩
theorem thnil_sleep (n u : Int) (w : World) : Calls Tryd.prog 24 #[.pointer none, .int .i64 n, .int .i64 u] w fun e w' => e = .returned (.int .i64 1) ∧ w' = w := by
  have C : Hid (∀ w, _) := fun w => thnil_find n w
  go_enter Tryd.func24, Tryd.ntmps24
  go_wp2_with fail
  refine (C.out _).mono ?_
  rintro e w' ⟨rfl, rfl⟩
  go_wp2
  go_ret
  exact ⟨rfl, rfl⟩
theorem thnil_wake (n : Int) (w : World) : Calls Tryd.prog 20 #[.pointer none, .int .i64 n] w fun e w' => e = .returned (.tuple #[.int .i64 0, .int .i64 1]) ∧ w' = w := by
  have C : Hid (∀ w, _) := fun w => thnil_find n w
  go_enter Tryd.func20, Tryd.ntmps20
  go_wp2_with fail
  refine (C.out _).mono ?_
  rintro e w' ⟨rfl, rfl⟩
  go_wp2
  go_ret2
  exact ⟨rfl, rfl⟩

set_option maxRecDepth 100000 in
theorem thnil_get (n : Int) (w : World) : Calls Tryd.prog 16 #[.pointer none, .int .i64 n] w fun e w' => e = .returned (.tuple #[thv zt, .int .i64 1]) ∧ Below w.heap.size w w' := by
  obtain ⟨wa, hwa⟩ : ∃ wa, wz w = wa := ⟨_, rfl⟩
  have HWA : Hid (w.alloc (.cells #[.int .i64 0, .int .u64 0, .int .i64 0, .bool false, .bool false, .int .i64 0] 40) = wa) := hwa
  have hb := wz_below w
  have hk := wz_blk w
  rw [hwa] at hb hk
  have C1 : Hid (∀ _ : Unit, _) := fun _ => thnil_find n wa
  have BL : Hid (Fr w.heap.size [] w wa) := Fr.of_below hb
  obtain ⟨z, hz⟩ : ∃ z, w.heap.size = z := ⟨_, rfl⟩
  have HZ : Hid (w.heap.size = z) := hz
  rw [hz] at hk BL ⊢
  have KB : Hid (∀ v0 v1 v2 v3 v4 v5 : Value, _) := blk_six hk
  have z0 : wa.cell? ⟨z, 0, none⟩ = some (.int .i64 0) := hk.cell 0
  have z1 : wa.cell? ⟨z, 1, none⟩ = some (.int .u64 0) := hk.cell 1
  have z2 : wa.cell? ⟨z, 2, none⟩ = some (.int .i64 0) := hk.cell 2
  have z3 : wa.cell? ⟨z, 3, none⟩ = some (.bool false) := hk.cell 3
  have z4 : wa.cell? ⟨z, 4, none⟩ = some (.bool false) := hk.cell 4
  have z5 : wa.cell? ⟨z, 5, none⟩ = some (.int .i64 0) := hk.cell 5
  have f0 := hk.free 0
  have f1 := hk.free 1
  have f2 := hk.free 2
  have f3 := hk.free 3
  have f4 := hk.free 4
  have f5 := hk.free 5
  clear hwa hb hk hz
  go_enter Tryd.func16, Tryd.ntmps16
  go_wp2_with fail
  rw [HWA.out, HZ.out]
  refine (C1.out ()).mono ?_
  rintro e w' ⟨rfl, rfl⟩
  go_wp2
  exact bodyPost_ret (get_ret (t := zt) (KB.out _ _ _ _ _ _) rfl rfl) rfl ⟨rfl, (fr_six BL.out (Or.inl (Nat.le_refl _)) _ _ _ _ _ _).below (by simp)⟩
end Go.Proofs.YtghnpmkibnggeaaDoor
