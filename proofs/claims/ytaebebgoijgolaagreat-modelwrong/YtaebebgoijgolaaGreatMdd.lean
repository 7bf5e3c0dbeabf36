/- A model's list of works, where it has no number or one: search, insert, delete. -/
import Derived.Test.YtaebebgoijgolaaGreatRows
import Derived.Test.YtaebebgoijgolaaGreatMdc
import Derived.WalkKit
import Derived.ProofKit
import Derived.OpenShut
import Derived.BigQuiet
import Derived.Deep.RegionLaw
import Derived.ArgAppend
namespace Go.Proofs.YtaebebgoijgolaaGreat
open Go.ChangeShapes Go.WideShapes Go.ChangeAt Go.RowKit
set_option linter.unusedVariables false
set_option linter.unusedSimpArgs false
set_option maxRecDepth 100000

theorem itself_any (x : Int) (w : World) : Calls Tryz.prog 64 #[.int .i64 x] w fun e w' => e = .returned (.int .i64 x) ∧ w' = w := by
  go_enter Tryz.func64, Tryz.ntmps64
  go_wp2
  go_ret
  exact ⟨rfl, rfl⟩
theorem nan_any (a : Int) (w : World) : Calls Tryz.prog 106 #[.int .i64 a] w fun e w' => e = .returned (.bool false) ∧ w' = w := by
  go_enter Tryz.func106, Tryz.ntmps106
  go_wp2
  go_ret
  exact ⟨rfl, rfl⟩
theorem cmp_same (a : Int) (w : World) : Calls Tryz.prog 93 #[.int .i64 a, .int .i64 a] w fun e w' => e = .returned (.int .i64 0) ∧ w' = w := by
  have C : Hid (∀ w, _) := fun w => nan_any a w
  have h1 : ¬ a < a := by omega
  go_enter Tryz.func93, Tryz.ntmps93
  go_wp2_with fail
  refine (C.out _).mono ?_
  rintro e u1 ⟨rfl, rfl⟩
  go_wp2_with fail
  refine (C.out _).mono ?_
  rintro e u1 ⟨rfl, rfl⟩
  go_wp2
  go_ret
  exact ⟨rfl, rfl⟩

/-- A list as a value: where it stands, what number a thing has, how many there may be. -/
def lc (p : Addr) (m : Int) : List Value := [.pointer (some p), .func (.func 64) #[] #[], .int .i64 m]

theorem pcl_same (a : Int) (w : World) (b : Nat) (p : Addr) (m : Int) (h : Blk w b (lc p m) 87) : Calls Tryz.prog 95 #[.int .i64 a, .int .i64 a, .pointer (some ⟨b, 0, none⟩)] w fun e w' => e = .returned (.int .i64 0) ∧ w' = w := by
  have C1 : Hid (∀ w, _) := fun w => itself_any a w
  have C2 : Hid (∀ w, _) := fun w => cmp_same a w
  have c1 : w.cell? ⟨b, 1, none⟩ = some (.func (.func 64) #[] #[]) := h.cell 1
  go_enter Tryz.func95, Tryz.ntmps95
  go_wp2_with fail
  refine (C1.out _).mono ?_
  rintro e u1 ⟨rfl, rfl⟩
  go_wp2_with fail
  refine (C2.out _).mono ?_
  rintro e u1 ⟨rfl, rfl⟩
  go_wp2
  go_ret
  exact ⟨rfl, rfl⟩

theorem bsf_nil (x : Int) (w : World) (a : Option Addr) (c : Nat) (f : Value) : Calls Tryz.prog 94 #[.slice a 0 c, .int .i64 x, f] w fun e w' => e = .returned (.tuple #[.int .i64 0, .bool false]) ∧ w' = w := by
  go_enter Tryz.func94, Tryz.ntmps94
  go_wp2
  refine wp_loop_rounds 1 ?_
  rw [rounds_succ]
  go_wp2
  go_ret2
  exact ⟨rfl, rfl⟩

set_option maxHeartbeats 1000000 in
theorem bsf_one (x : Int) (w : World) (g c b : Nat) (p : Addr) (m : Int) (h : Blk w b (lc p m) 87) (hg : w.cell? ⟨g, 0, none⟩ = some (.int .i64 x)) : Calls Tryz.prog 94 #[.slice (some ⟨g, 0, none⟩) 1 c, .int .i64 x, .func (.func 95) #[] #[.pointer (some ⟨b, 0, none⟩)]] w fun e w' => e = .returned (.tuple #[.int .i64 0, .bool true]) ∧ w' = w := by
  have C1 : Hid (∀ _ : Unit, _) := fun _ => pcl_same x w b p m h
  clear h
  go_enter Tryz.func94, Tryz.ntmps94
  go_wp2
  refine wp_loop_rounds 2 ?_
  rw [rounds_succ]
  go_wp2_with fail
  refine (C1.out ()).mono ?_
  rintro e u1 ⟨rfl, rfl⟩
  go_wp2
  rw [rounds_succ]
  go_wp2_with fail
  refine (C1.out ()).mono ?_
  rintro e u1 ⟨rfl, rfl⟩
  go_wp2
  go_ret2
  exact ⟨rfl, rfl⟩

theorem box_list (w : World) (p : Addr) (m : Int) : Blk (w.alloc (.cells (lc p m).toArray 87)) w.heap.size (lc p m) 87 := Blk.new w _ _

set_option maxHeartbeats 1000000 in
theorem place_nil (x : Int) (w : World) (p : Addr) (m : Int) (a : Option Addr) (c : Nat) (hp : p.block < w.heap.size) (h : w.cell? p = some (.slice a 0 c)) : Calls Tryz.prog 73 #[.agg (lc p m).toArray, .int .i64 x] w fun e w' => e = .returned (.tuple #[.int .i64 0, .bool false]) ∧ Below w.heap.size w w' := by
  have C1 : Hid (∀ w f, _) := fun w f => bsf_nil x w a c f
  have hmf : ∀ (fn : Fn) (first cap : Array Value) (w : World), (Instr.makeFunc fn first cap).run Tryz.prog w = .ok (.func fn first cap) w := fun _ _ _ _ => rfl
  have BE : Hid (Below w.heap.size w (w.alloc (.cells (lc p m).toArray 87))) := (Below.refl _ _).alloc (Nat.le_refl _) _
  have k1 : (w.alloc (.cells (lc p m).toArray 87)).cell? p = some (.slice a 0 c) := (World.cell?_of_block (Below.heap_alloc _ _ _ hp)).trans h
  unfold lc at *
  clear h
  go_enter Tryz.func73, Tryz.ntmps73
  go_wp2_with fail
  refine (C1.out _ _).mono ?_
  rintro e u1 ⟨rfl, rfl⟩
  go_wp2
  go_ret2
  exact ⟨rfl, BE.out⟩

set_option maxHeartbeats 1000000 in
theorem place_one (x : Int) (w : World) (p : Addr) (m : Int) (g c : Nat) (hp : p.block < w.heap.size) (h : w.cell? p = some (.slice (some ⟨g, 0, none⟩) 1 c)) (hg : w.cell? ⟨g, 0, none⟩ = some (.int .i64 x)) : Calls Tryz.prog 73 #[.agg (lc p m).toArray, .int .i64 x] w fun e w' => e = .returned (.tuple #[.int .i64 0, .bool true]) ∧ Below w.heap.size w w' := by
  have BE : Hid (Below w.heap.size w (w.alloc (.cells (lc p m).toArray 87))) := (Below.refl _ _).alloc (Nat.le_refl _) _
  have k1 : (w.alloc (.cells (lc p m).toArray 87)).cell? p = some (.slice (some ⟨g, 0, none⟩) 1 c) := (World.cell?_of_block (Below.heap_alloc _ _ _ hp)).trans h
  have k2 : (w.alloc (.cells (lc p m).toArray 87)).cell? ⟨g, 0, none⟩ = some (.int .i64 x) := (World.cell?_of_block (Below.heap_alloc _ _ _ (World.block_lt_of_cell? w _ hg))).trans hg
  have C1 : Hid (∀ _ : Unit, _) := fun _ => bsf_one x (w.alloc (.cells (lc p m).toArray 87)) g c w.heap.size p m (box_list w p m) k2
  have hmf : ∀ (fn : Fn) (first cap : Array Value) (w : World), (Instr.makeFunc fn first cap).run Tryz.prog w = .ok (.func fn first cap) w := fun _ _ _ _ => rfl
  unfold lc at *
  clear h hg k2
  go_enter Tryz.func73, Tryz.ntmps73
  go_wp2_with fail
  refine (C1.out ()).mono ?_
  rintro e u1 ⟨rfl, rfl⟩
  go_wp2
  go_ret2
  exact ⟨rfl, BE.out⟩
end Go.Proofs.YtaebebgoijgolaaGreat
