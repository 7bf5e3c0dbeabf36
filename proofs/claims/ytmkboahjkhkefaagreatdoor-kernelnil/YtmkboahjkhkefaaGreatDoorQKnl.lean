/- Contracts of the program's layers, as far as this claim needs them. -/
import Derived.Test.YtmkboahjkhkefaaGreatDoorQKka
import Derived.Test.YtmkboahjkhkefaaGreatDoorRows
import Derived.WalkKit
import Derived.ProofKit
import Derived.OpenShut
import Derived.BigQuiet
import Derived.LoopN
import Derived.Deep.RegionHeld3
set_option linter.unusedVariables false
set_option linter.unusedSimpArgs false
namespace Go.Proofs.YtmkboahjkhkefaaGreatDoor.Krn
open Go.ChangeShapes Go.WideShapes Go.ChangeAt Go.RowKit
open Mm
set_option maxRecDepth 100000 in
theorem all_nil (w : World) : Calls Tryz.prog 57 #[.pointer none] w fun e w' => e = .returned (.pointer (some ⟨w.heap.size, 0, none⟩)) ∧ w' = w.alloc (.cells #[.int .u64 0, .int .u64 0, .int .i64 0, .pointer none, .pointer none, .pointer none, .pointer none, .pointer none, .pointer none, .pointer none, .pointer none, .pointer none, .pointer none, .pointer none, .pointer none, .pointer none, .pointer none, .slice none 0 0] 84) := by
  go_enter Tryz.func57, Tryz.ntmps57
  go_wp2
  go_ret
  exact ⟨rfl, rfl⟩
theorem bel_new (w : World) (o : Obj) : Below w.heap.size w (w.alloc o) := (Below.refl _ _).alloc (Nat.le_refl _) _
theorem blk_nil (w : World) : Blk (w.alloc (.cells #[.int .u64 0, .int .u64 0, .int .i64 0, .pointer none, .pointer none, .pointer none, .pointer none, .pointer none, .pointer none, .pointer none, .pointer none, .pointer none, .pointer none, .pointer none, .pointer none, .pointer none, .pointer none, .slice none 0 0] 84)) w.heap.size [.int .u64 0, .int .u64 0, .int .i64 0, .pointer none, .pointer none, .pointer none, .pointer none, .pointer none, .pointer none, .pointer none, .pointer none, .pointer none, .pointer none, .pointer none, .pointer none, .pointer none, .pointer none, .slice none 0 0] 84 := Blk.new w _ _
set_option maxRecDepth 100000 in
theorem nil_Cpus (w : World) : Calls Tryz.prog 26 #[.pointer none] w fun e w' => e = .returned (.int .i64 0) ∧ Below w.heap.size w w' := by
  have C : Hid (∀ _ : Unit, _) := fun _ => all_nil w
  have c : (w.alloc (.cells #[.int .u64 0, .int .u64 0, .int .i64 0, .pointer none, .pointer none, .pointer none, .pointer none, .pointer none, .pointer none, .pointer none, .pointer none, .pointer none, .pointer none, .pointer none, .pointer none, .pointer none, .pointer none, .slice none 0 0] 84)).cell? ⟨w.heap.size, 17, none⟩ = some (.slice none 0 0) := (blk_nil w).cell 17
  go_enter Tryz.func26, Tryz.ntmps26
  go_wp2_with fail
  refine (C.out ()).mono ?_
  rintro e w1 ⟨rfl, rfl⟩
  go_wp2
  go_ret
  exact ⟨rfl, bel_new _ _⟩
set_option maxRecDepth 100000 in
theorem nil_Online (w : World) : Calls Tryz.prog 15 #[.pointer none] w fun e w' => e = .returned (.int .u64 0) ∧ Below w.heap.size w w' := by
  have C : Hid (∀ _ : Unit, _) := fun _ => all_nil w
  have c : (w.alloc (.cells #[.int .u64 0, .int .u64 0, .int .i64 0, .pointer none, .pointer none, .pointer none, .pointer none, .pointer none, .pointer none, .pointer none, .pointer none, .pointer none, .pointer none, .pointer none, .pointer none, .pointer none, .pointer none, .slice none 0 0] 84)).cell? ⟨w.heap.size, 0, none⟩ = some (.int .u64 0) := (blk_nil w).cell 0
  go_enter Tryz.func15, Tryz.ntmps15
  go_wp2_with fail
  refine (C.out ()).mono ?_
  rintro e w1 ⟨rfl, rfl⟩
  go_wp2
  go_ret
  exact ⟨rfl, bel_new _ _⟩
set_option maxRecDepth 100000 in
theorem nil_Active (w : World) : Calls Tryz.prog 10 #[.pointer none] w fun e w' => e = .returned (.int .u64 0) ∧ Below w.heap.size w w' := by
  have C : Hid (∀ _ : Unit, _) := fun _ => all_nil w
  have c : (w.alloc (.cells #[.int .u64 0, .int .u64 0, .int .i64 0, .pointer none, .pointer none, .pointer none, .pointer none, .pointer none, .pointer none, .pointer none, .pointer none, .pointer none, .pointer none, .pointer none, .pointer none, .pointer none, .pointer none, .slice none 0 0] 84)).cell? ⟨w.heap.size, 1, none⟩ = some (.int .u64 0) := (blk_nil w).cell 1
  go_enter Tryz.func10, Tryz.ntmps10
  go_wp2_with fail
  refine (C.out ()).mono ?_
  rintro e w1 ⟨rfl, rfl⟩
  go_wp2
  go_ret
  exact ⟨rfl, bel_new _ _⟩
set_option maxRecDepth 100000 in
theorem nil_Gov (w : World) : Calls Tryz.prog 29 #[.pointer none, .int .i64 0] w fun e w' => e = .returned (.pointer none) ∧ Below w.heap.size w w' := by
  have C : Hid (∀ _ : Unit, _) := fun _ => all_nil w
  have c : (w.alloc (.cells #[.int .u64 0, .int .u64 0, .int .i64 0, .pointer none, .pointer none, .pointer none, .pointer none, .pointer none, .pointer none, .pointer none, .pointer none, .pointer none, .pointer none, .pointer none, .pointer none, .pointer none, .pointer none, .slice none 0 0] 84)).cell? ⟨w.heap.size, 17, none⟩ = some (.slice none 0 0) := (blk_nil w).cell 17
  go_enter Tryz.func29, Tryz.ntmps29
  go_wp2_with fail
  refine (C.out ()).mono ?_
  rintro e w1 ⟨rfl, rfl⟩
  go_wp2
  go_ret
  exact ⟨rfl, bel_new _ _⟩
set_option maxRecDepth 100000 in
theorem nil_Threads (w : World) : Calls Tryz.prog 30 #[.pointer none] w fun e w' => e = .returned (.pointer none) ∧ Below w.heap.size w w' := by
  have C : Hid (∀ _ : Unit, _) := fun _ => all_nil w
  have c : (w.alloc (.cells #[.int .u64 0, .int .u64 0, .int .i64 0, .pointer none, .pointer none, .pointer none, .pointer none, .pointer none, .pointer none, .pointer none, .pointer none, .pointer none, .pointer none, .pointer none, .pointer none, .pointer none, .pointer none, .slice none 0 0] 84)).cell? ⟨w.heap.size, 3, none⟩ = some (.pointer none) := (blk_nil w).cell 3
  go_enter Tryz.func30, Tryz.ntmps30
  go_wp2_with fail
  refine (C.out ()).mono ?_
  rintro e w1 ⟨rfl, rfl⟩
  go_wp2
  go_ret
  exact ⟨rfl, bel_new _ _⟩
set_option maxRecDepth 100000 in
theorem nil_Queues (w : World) : Calls Tryz.prog 31 #[.pointer none] w fun e w' => e = .returned (.pointer none) ∧ Below w.heap.size w w' := by
  have C : Hid (∀ _ : Unit, _) := fun _ => all_nil w
  have c : (w.alloc (.cells #[.int .u64 0, .int .u64 0, .int .i64 0, .pointer none, .pointer none, .pointer none, .pointer none, .pointer none, .pointer none, .pointer none, .pointer none, .pointer none, .pointer none, .pointer none, .pointer none, .pointer none, .pointer none, .slice none 0 0] 84)).cell? ⟨w.heap.size, 4, none⟩ = some (.pointer none) := (blk_nil w).cell 4
  go_enter Tryz.func31, Tryz.ntmps31
  go_wp2_with fail
  refine (C.out ()).mono ?_
  rintro e w1 ⟨rfl, rfl⟩
  go_wp2
  go_ret
  exact ⟨rfl, bel_new _ _⟩
set_option maxRecDepth 100000 in
theorem nil_Timers (w : World) : Calls Tryz.prog 32 #[.pointer none] w fun e w' => e = .returned (.pointer none) ∧ Below w.heap.size w w' := by
  have C : Hid (∀ _ : Unit, _) := fun _ => all_nil w
  have c : (w.alloc (.cells #[.int .u64 0, .int .u64 0, .int .i64 0, .pointer none, .pointer none, .pointer none, .pointer none, .pointer none, .pointer none, .pointer none, .pointer none, .pointer none, .pointer none, .pointer none, .pointer none, .pointer none, .pointer none, .slice none 0 0] 84)).cell? ⟨w.heap.size, 5, none⟩ = some (.pointer none) := (blk_nil w).cell 5
  go_enter Tryz.func32, Tryz.ntmps32
  go_wp2_with fail
  refine (C.out ()).mono ?_
  rintro e w1 ⟨rfl, rfl⟩
  go_wp2
  go_ret
  exact ⟨rfl, bel_new _ _⟩
set_option maxRecDepth 100000 in
theorem nil_Irqs (w : World) : Calls Tryz.prog 33 #[.pointer none] w fun e w' => e = .returned (.pointer none) ∧ Below w.heap.size w w' := by
  have C : Hid (∀ _ : Unit, _) := fun _ => all_nil w
  have c : (w.alloc (.cells #[.int .u64 0, .int .u64 0, .int .i64 0, .pointer none, .pointer none, .pointer none, .pointer none, .pointer none, .pointer none, .pointer none, .pointer none, .pointer none, .pointer none, .pointer none, .pointer none, .pointer none, .pointer none, .slice none 0 0] 84)).cell? ⟨w.heap.size, 6, none⟩ = some (.pointer none) := (blk_nil w).cell 6
  go_enter Tryz.func33, Tryz.ntmps33
  go_wp2_with fail
  refine (C.out ()).mono ?_
  rintro e w1 ⟨rfl, rfl⟩
  go_wp2
  go_ret
  exact ⟨rfl, bel_new _ _⟩
set_option maxRecDepth 100000 in
theorem nil_Route (w : World) : Calls Tryz.prog 34 #[.pointer none] w fun e w' => e = .returned (.pointer none) ∧ Below w.heap.size w w' := by
  have C : Hid (∀ _ : Unit, _) := fun _ => all_nil w
  have c : (w.alloc (.cells #[.int .u64 0, .int .u64 0, .int .i64 0, .pointer none, .pointer none, .pointer none, .pointer none, .pointer none, .pointer none, .pointer none, .pointer none, .pointer none, .pointer none, .pointer none, .pointer none, .pointer none, .pointer none, .slice none 0 0] 84)).cell? ⟨w.heap.size, 7, none⟩ = some (.pointer none) := (blk_nil w).cell 7
  go_enter Tryz.func34, Tryz.ntmps34
  go_wp2_with fail
  refine (C.out ()).mono ?_
  rintro e w1 ⟨rfl, rfl⟩
  go_wp2
  go_ret
  exact ⟨rfl, bel_new _ _⟩
set_option maxRecDepth 100000 in
theorem nil_Works (w : World) : Calls Tryz.prog 35 #[.pointer none] w fun e w' => e = .returned (.pointer none) ∧ Below w.heap.size w w' := by
  have C : Hid (∀ _ : Unit, _) := fun _ => all_nil w
  have c : (w.alloc (.cells #[.int .u64 0, .int .u64 0, .int .i64 0, .pointer none, .pointer none, .pointer none, .pointer none, .pointer none, .pointer none, .pointer none, .pointer none, .pointer none, .pointer none, .pointer none, .pointer none, .pointer none, .pointer none, .slice none 0 0] 84)).cell? ⟨w.heap.size, 8, none⟩ = some (.pointer none) := (blk_nil w).cell 8
  go_enter Tryz.func35, Tryz.ntmps35
  go_wp2_with fail
  refine (C.out ()).mono ?_
  rintro e w1 ⟨rfl, rfl⟩
  go_wp2
  go_ret
  exact ⟨rfl, bel_new _ _⟩
set_option maxRecDepth 100000 in
theorem nil_Calls (w : World) : Calls Tryz.prog 36 #[.pointer none] w fun e w' => e = .returned (.pointer none) ∧ Below w.heap.size w w' := by
  have C : Hid (∀ _ : Unit, _) := fun _ => all_nil w
  have c : (w.alloc (.cells #[.int .u64 0, .int .u64 0, .int .i64 0, .pointer none, .pointer none, .pointer none, .pointer none, .pointer none, .pointer none, .pointer none, .pointer none, .pointer none, .pointer none, .pointer none, .pointer none, .pointer none, .pointer none, .slice none 0 0] 84)).cell? ⟨w.heap.size, 9, none⟩ = some (.pointer none) := (blk_nil w).cell 9
  go_enter Tryz.func36, Tryz.ntmps36
  go_wp2_with fail
  refine (C.out ()).mono ?_
  rintro e w1 ⟨rfl, rfl⟩
  go_wp2
  go_ret
  exact ⟨rfl, bel_new _ _⟩
set_option maxRecDepth 100000 in
theorem nil_Objects (w : World) : Calls Tryz.prog 37 #[.pointer none] w fun e w' => e = .returned (.pointer none) ∧ Below w.heap.size w w' := by
  have C : Hid (∀ _ : Unit, _) := fun _ => all_nil w
  have c : (w.alloc (.cells #[.int .u64 0, .int .u64 0, .int .i64 0, .pointer none, .pointer none, .pointer none, .pointer none, .pointer none, .pointer none, .pointer none, .pointer none, .pointer none, .pointer none, .pointer none, .pointer none, .pointer none, .pointer none, .slice none 0 0] 84)).cell? ⟨w.heap.size, 10, none⟩ = some (.pointer none) := (blk_nil w).cell 10
  go_enter Tryz.func37, Tryz.ntmps37
  go_wp2_with fail
  refine (C.out ()).mono ?_
  rintro e w1 ⟨rfl, rfl⟩
  go_wp2
  go_ret
  exact ⟨rfl, bel_new _ _⟩
set_option maxRecDepth 100000 in
theorem nil_Counts (w : World) : Calls Tryz.prog 24 #[.pointer none] w fun e w' => e = .returned (.pointer none) ∧ Below w.heap.size w w' := by
  have C : Hid (∀ _ : Unit, _) := fun _ => all_nil w
  have c : (w.alloc (.cells #[.int .u64 0, .int .u64 0, .int .i64 0, .pointer none, .pointer none, .pointer none, .pointer none, .pointer none, .pointer none, .pointer none, .pointer none, .pointer none, .pointer none, .pointer none, .pointer none, .pointer none, .pointer none, .slice none 0 0] 84)).cell? ⟨w.heap.size, 11, none⟩ = some (.pointer none) := (blk_nil w).cell 11
  go_enter Tryz.func24, Tryz.ntmps24
  go_wp2_with fail
  refine (C.out ()).mono ?_
  rintro e w1 ⟨rfl, rfl⟩
  go_wp2
  go_ret
  exact ⟨rfl, bel_new _ _⟩
set_option maxRecDepth 100000 in
theorem nil_Desk (w : World) : Calls Tryz.prog 22 #[.pointer none] w fun e w' => e = .returned (.pointer none) ∧ Below w.heap.size w w' := by
  have C : Hid (∀ _ : Unit, _) := fun _ => all_nil w
  have c : (w.alloc (.cells #[.int .u64 0, .int .u64 0, .int .i64 0, .pointer none, .pointer none, .pointer none, .pointer none, .pointer none, .pointer none, .pointer none, .pointer none, .pointer none, .pointer none, .pointer none, .pointer none, .pointer none, .pointer none, .slice none 0 0] 84)).cell? ⟨w.heap.size, 12, none⟩ = some (.pointer none) := (blk_nil w).cell 12
  go_enter Tryz.func22, Tryz.ntmps22
  go_wp2_with fail
  refine (C.out ()).mono ?_
  rintro e w1 ⟨rfl, rfl⟩
  go_wp2
  go_ret
  exact ⟨rfl, bel_new _ _⟩
set_option maxRecDepth 100000 in
theorem nil_Gate (w : World) : Calls Tryz.prog 38 #[.pointer none] w fun e w' => e = .returned (.pointer none) ∧ Below w.heap.size w w' := by
  have C : Hid (∀ _ : Unit, _) := fun _ => all_nil w
  have c : (w.alloc (.cells #[.int .u64 0, .int .u64 0, .int .i64 0, .pointer none, .pointer none, .pointer none, .pointer none, .pointer none, .pointer none, .pointer none, .pointer none, .pointer none, .pointer none, .pointer none, .pointer none, .pointer none, .pointer none, .slice none 0 0] 84)).cell? ⟨w.heap.size, 13, none⟩ = some (.pointer none) := (blk_nil w).cell 13
  go_enter Tryz.func38, Tryz.ntmps38
  go_wp2_with fail
  refine (C.out ()).mono ?_
  rintro e w1 ⟨rfl, rfl⟩
  go_wp2
  go_ret
  exact ⟨rfl, bel_new _ _⟩
set_option maxRecDepth 100000 in
theorem nil_Stop (w : World) : Calls Tryz.prog 39 #[.pointer none] w fun e w' => e = .returned (.pointer none) ∧ Below w.heap.size w w' := by
  have C : Hid (∀ _ : Unit, _) := fun _ => all_nil w
  have c : (w.alloc (.cells #[.int .u64 0, .int .u64 0, .int .i64 0, .pointer none, .pointer none, .pointer none, .pointer none, .pointer none, .pointer none, .pointer none, .pointer none, .pointer none, .pointer none, .pointer none, .pointer none, .pointer none, .pointer none, .slice none 0 0] 84)).cell? ⟨w.heap.size, 14, none⟩ = some (.pointer none) := (blk_nil w).cell 14
  go_enter Tryz.func39, Tryz.ntmps39
  go_wp2_with fail
  refine (C.out ()).mono ?_
  rintro e w1 ⟨rfl, rfl⟩
  go_wp2
  go_ret
  exact ⟨rfl, bel_new _ _⟩
set_option maxRecDepth 100000 in
theorem nil_Cores (w : World) : Calls Tryz.prog 40 #[.pointer none] w fun e w' => e = .returned (.pointer none) ∧ Below w.heap.size w w' := by
  have C : Hid (∀ _ : Unit, _) := fun _ => all_nil w
  have c : (w.alloc (.cells #[.int .u64 0, .int .u64 0, .int .i64 0, .pointer none, .pointer none, .pointer none, .pointer none, .pointer none, .pointer none, .pointer none, .pointer none, .pointer none, .pointer none, .pointer none, .pointer none, .pointer none, .pointer none, .slice none 0 0] 84)).cell? ⟨w.heap.size, 15, none⟩ = some (.pointer none) := (blk_nil w).cell 15
  go_enter Tryz.func40, Tryz.ntmps40
  go_wp2_with fail
  refine (C.out ()).mono ?_
  rintro e w1 ⟨rfl, rfl⟩
  go_wp2
  go_ret
  exact ⟨rfl, bel_new _ _⟩
set_option maxRecDepth 100000 in
theorem nil_Meter (w : World) : Calls Tryz.prog 41 #[.pointer none] w fun e w' => e = .returned (.pointer none) ∧ Below w.heap.size w w' := by
  have C : Hid (∀ _ : Unit, _) := fun _ => all_nil w
  have c : (w.alloc (.cells #[.int .u64 0, .int .u64 0, .int .i64 0, .pointer none, .pointer none, .pointer none, .pointer none, .pointer none, .pointer none, .pointer none, .pointer none, .pointer none, .pointer none, .pointer none, .pointer none, .pointer none, .pointer none, .slice none 0 0] 84)).cell? ⟨w.heap.size, 16, none⟩ = some (.pointer none) := (blk_nil w).cell 16
  go_enter Tryz.func41, Tryz.ntmps41
  go_wp2_with fail
  refine (C.out ()).mono ?_
  rintro e w1 ⟨rfl, rfl⟩
  go_wp2
  go_ret
  exact ⟨rfl, bel_new _ _⟩
set_option maxRecDepth 100000 in
theorem nil_tnow (w : World) : Calls Tryz.prog 74 #[.pointer none] w fun e w' => e = .returned (.int .i64 0) ∧ w' = w := by
  go_enter Tryz.func74, Tryz.ntmps74
  go_wp2
  go_ret
  exact ⟨rfl, rfl⟩
set_option maxRecDepth 100000 in
theorem nil_tlist (w : World) : Calls Tryz.prog 75 #[.pointer none] w fun e w' => e = .returned (.slice none 0 0) ∧ w' = w := by
  go_enter Tryz.func75, Tryz.ntmps75
  go_wp2
  go_ret
  exact ⟨rfl, rfl⟩
set_option maxRecDepth 100000 in
theorem nil_Now (w : World) : Calls Tryz.prog 27 #[.pointer none] w fun e w' => e = .returned (.int .i64 0) ∧ Below w.heap.size w w' := by
  have C : Hid (∀ _ : Unit, _) := fun _ => all_nil w
  have N : Hid (∀ v, _) := fun v => nil_tnow v
  have c : (w.alloc (.cells #[.int .u64 0, .int .u64 0, .int .i64 0, .pointer none, .pointer none, .pointer none, .pointer none, .pointer none, .pointer none, .pointer none, .pointer none, .pointer none, .pointer none, .pointer none, .pointer none, .pointer none, .pointer none, .slice none 0 0] 84)).cell? ⟨w.heap.size, 5, none⟩ = some (.pointer none) := (blk_nil w).cell 5
  go_enter Tryz.func27, Tryz.ntmps27
  go_wp2_with fail
  refine (C.out ()).mono ?_
  rintro e w1 ⟨rfl, rfl⟩
  go_wp2_with fail
  refine (N.out _).mono ?_
  rintro e w1 ⟨rfl, rfl⟩
  go_wp2
  go_ret
  exact ⟨rfl, bel_new _ _⟩
set_option maxRecDepth 100000 in
theorem nil_Owner (w : World) : Calls Tryz.prog 28 #[.pointer none, .int .i64 1] w fun e w' => e = .returned (.int .i64 0) ∧ Below w.heap.size w w' := by
  have C : Hid (∀ _ : Unit, _) := fun _ => all_nil w
  have N : Hid (∀ v, _) := fun v => nil_tlist v
  have c : (w.alloc (.cells #[.int .u64 0, .int .u64 0, .int .i64 0, .pointer none, .pointer none, .pointer none, .pointer none, .pointer none, .pointer none, .pointer none, .pointer none, .pointer none, .pointer none, .pointer none, .pointer none, .pointer none, .pointer none, .slice none 0 0] 84)).cell? ⟨w.heap.size, 3, none⟩ = some (.pointer none) := (blk_nil w).cell 3
  go_enter Tryz.func28, Tryz.ntmps28
  go_wp2_with fail
  refine (C.out ()).mono ?_
  rintro e w1 ⟨rfl, rfl⟩
  go_wp2_with fail
  refine (N.out _).mono ?_
  rintro e w1 ⟨rfl, rfl⟩
  go_wp2
  refine wp_loop_rounds 1 ?_
  rw [rounds_succ]
  go_wp2
  go_ret
  exact ⟨rfl, bel_new _ _⟩
set_option maxRecDepth 100000 in
theorem nil_Do (e0 e1 e2 m3 e4 : Int) (w : World) : Calls Tryz.prog 11 #[.pointer none, .agg #[.int .i64 e0, .int .i64 e1, .int .i64 e2, .int .u64 m3, .int .i64 e4]] w fun e w' => e = .returned (.slice none 0 0) ∧ Below w.heap.size w w' := by
  have B : Hid (Below w.heap.size w (w.alloc (.cells #[.int .i64 e0, .int .i64 e1, .int .i64 e2, .int .u64 m3, .int .i64 e4] 34))) := bel_new _ _
  go_enter Tryz.func11, Tryz.ntmps11
  go_wp2
  go_ret
  exact ⟨rfl, B.out⟩
end Go.Proofs.YtmkboahjkhkefaaGreatDoor.Krn
