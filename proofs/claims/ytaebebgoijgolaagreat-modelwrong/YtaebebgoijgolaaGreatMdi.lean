/- A model's machine follows: an event without a record, a work that is queued, one that is done, one that is not there. -/
import Derived.Test.YtaebebgoijgolaaGreatRows
import Derived.Test.YtaebebgoijgolaaGreatMdh
import Derived.WalkKit
import Derived.ProofKit
import Derived.OpenShut
import Derived.BigQuiet
import Derived.Deep.RegionLaw
import Derived.Deep.RegionHeld3
import Derived.Laws.EntriesVeiled
import Derived.WalkSmall
namespace Go.Proofs.YtaebebgoijgolaaGreat
open Go.ChangeShapes Go.WideShapes Go.ChangeAt Go.RowKit
set_option linter.unusedVariables false
set_option linter.unusedSimpArgs false
set_option maxRecDepth 100000

set_option maxHeartbeats 1000000 in
theorem thing_no (w : World) (m : Nat) (r : Value) (a : Option Addr) (c : Nat) (t0 t1 t2 t3 t4 : Int) (h : Blk w m (mc 2 3 (.slice a 0 c) r t0 t1 t2 t3 t4) 45) :
    Calls Tryz.prog 27 #[mp m, .int .i64 5, .int .i64 1] w fun e w' => e = .panicked bad ∧ Below w.heap.size w w' := by
  have CW : Hid (∀ _ : Unit, _) := fun _ => works_any w m h.lt
  have CD : Hid (∀ V : World, Below w.heap.size w V → _) := fun V hV => drop_none 1 V _ m 6 32 _ a c ((hV.block m h.lt).trans h) rfl
  have CM : Hid (∀ w, _) := fun w => must_no w
  have TR : Hid (∀ V V' : World, Below w.heap.size w V → Below V.heap.size V V' → Below w.heap.size w V') := fun V V' h k => h.trans (k.mono h.size)
  unfold lc mp at *
  clear h
  go_enter Tryz.func27, Tryz.ntmps27
  go_wp2_with fail
  refine (CW.out ()).mono ?_
  rintro e v1 ⟨rfl, b1⟩
  go_wp2_with fail
  refine (CD.out _ b1).mono ?_
  rintro e v2 ⟨rfl, b2⟩
  go_wp2_with fail
  refine (CM.out _).mono ?_
  rintro e v3 ⟨rfl, rfl⟩
  have b3 := TR.out _ _ b1 b2
  go_wp2
  simp [bodyPost]
  exact b3

set_option maxHeartbeats 1000000 in
theorem thing_yes (w : World) (m : Nat) (r : Value) (g c : Nat) (cur : List Value) (t0 t1 t2 t3 t4 : Int) (h : Blk w m (mc 2 3 (.slice (some ⟨g, 0, none⟩) 1 c) r t0 t1 t2 t3 t4) 45) (hg : Blk w g (.int .i64 1 :: cur) 3) (hc : c = cur.length + 1) (hl : c ≤ maxLen) :
    Calls Tryz.prog 27 #[mp m, .int .i64 5, .int .i64 1] w fun e w' => e = .returned (.int .i64 0) ∧ Blk w' m (mc 2 3 (.slice (some ⟨g, 0, none⟩) 0 c) r t0 t1 t2 t3 t4) 45 ∧ Fr w.heap.size [m, g] w w' := by
  have CW : Hid (∀ _ : Unit, _) := fun _ => works_any w m h.lt
  have CD : Hid (∀ V : World, Below w.heap.size w V → Calls Tryz.prog 44 #[.agg (lc ⟨m, 6, none⟩ 32).toArray, .int .i64 1] V fun e w' => e = .returned (.bool true) ∧ Hid (Blk w' m (mc 2 3 (.slice (some ⟨g, 0, none⟩) 0 c) r t0 t1 t2 t3 t4) 45 ∧ Fr w.heap.size [m, g] w w')) := fun V hV => by
    refine (drop_one 1 V _ m 6 32 _ g c ((hV.block m h.lt).trans h) (by decide) rfl cur ((hV.block g hg.lt).trans hg) hc hl).mono ?_
    rintro e w' ⟨rfl, q1, q2⟩
    exact ⟨rfl, q1, ((Fr.of_below hV).mono (Nat.le_refl _) (by simp)).trans (q2.less hV.size)⟩
  have CM : Hid (∀ w, _) := fun w => must_yes w
  unfold lc mp at *
  clear h hg hc
  go_enter Tryz.func27, Tryz.ntmps27
  go_wp2_with fail
  refine (CW.out ()).mono ?_
  rintro e v1 ⟨rfl, b1⟩
  go_wp2_with fail
  refine (CD.out _ b1).mono ?_
  rintro e v2 ⟨rfl, FF⟩
  go_wp2_with fail
  refine (CM.out _).mono ?_
  rintro e v3 ⟨rfl, rfl⟩
  go_wp2
  go_ret
  exact ⟨rfl, FF.out⟩

set_option maxHeartbeats 2000000 in
theorem step_yes (w : World) (m : Nat) (r : Value) (g c : Nat) (cur : List Value) (h : Blk w m (mc 2 3 (.slice (some ⟨g, 0, none⟩) 1 c) r 5 0 1 0 0) 45) (hg : Blk w g (.int .i64 1 :: cur) 3) (hc : c = cur.length + 1) (hl : c ≤ maxLen) :
    Calls Tryz.prog 22 #[mp m, .int .i64 0] w fun e w' => e = .returned (.tuple #[]) ∧ Blk w' m (mc 2 3 (.slice (some ⟨g, 0, none⟩) 0 c) r 5 0 1 0 0) 45 ∧ Fr w.heap.size [m, g] w w' := by
  have C1 : Hid (∀ w, _) := fun w => has30 w
  have C2 : Hid (∀ w, _) := fun w => must_yes w
  have CT : Hid (∀ V : World, Sm V w → Calls Tryz.prog 27 #[mp m, .int .i64 5, .int .i64 1] V fun e w' => e = .returned (.int .i64 0) ∧ Blk w' m (mc 2 3 (.slice (some ⟨g, 0, none⟩) 0 c) r 5 0 1 0 0) 45 ∧ Fr w.heap.size [m, g] w w') := fun V hV => by
    refine (thing_yes V m r g c cur 5 0 1 0 0 (h.heap hV.1) (hg.heap hV.1) hc hl).mono ?_
    rintro e w' ⟨rfl, q1, q2⟩
    exact ⟨rfl, q1, hV.fr (by rw [hV.1] at q2; exact q2)⟩
  have c1 : w.cell? ⟨m, 1, none⟩ = some (.int .u64 3) := h.cell 1
  have c13 : w.cell? ⟨m, 13, none⟩ = some (.int .i64 5) := h.cell 13
  have c15 : w.cell? ⟨m, 15, none⟩ = some (.int .i64 1) := h.cell 15
  unfold mp at *
  clear h hg hc
  go_enter Tryz.func22, Tryz.ntmps22
  go_wp2_with fail
  refine (C1.out _).mono ?_
  rintro e w ⟨rfl, rfl⟩
  go_wp2_with fail
  refine (C2.out _).mono ?_
  rintro e w ⟨rfl, rfl⟩
  go_wp2_with fail
  go_region_held3 (fun w' => w'.cell? ⟨m, 13, none⟩ = some (.int .i64 5) ∧ w'.cell? ⟨m, 15, none⟩ = some (.int .i64 1)) (go_keep) (first | (go_at_call 27; refine (CT.out _ ?_).mono ?_; (exact ⟨rfl, rfl, rfl, rfl⟩); rintro e v2 ⟨rfl, k2, f2⟩; have d13 : v2.cell? ⟨m, 13, none⟩ = some (.int .i64 5) := k2.cell 13; have d15 : v2.cell? ⟨m, 15, none⟩ = some (.int .i64 1) := k2.cell 15))
  have d14 : v2.cell? ⟨m, 14, none⟩ = some (.int .i64 0) := k2.cell 14
  have d16 : v2.cell? ⟨m, 16, none⟩ = some (.int .i64 0) := k2.cell 16
  have d17 : v2.cell? ⟨m, 17, none⟩ = some (.int .i64 0) := k2.cell 17
  have FF : Hid (∀ V, Sm V v2 → _ ∧ _) := fun V hV => (⟨k2.heap hV.1, ⟨hV.2.1.trans f2.os, hV.2.2.1.trans f2.tape, hV.2.2.2.trans f2.output, by rw [hV.1]; exact f2.size, fun k hk hs => by rw [hV.1]; exact f2.block k hk hs⟩⟩ : Blk V m (mc 2 3 (.slice (some ⟨g, 0, none⟩) 0 c) r 5 0 1 0 0) 45 ∧ Fr w.heap.size [m, g] w V)
  clear k2 f2 c1 c13 c15
  go_wp2_with fail
  go_region_held3 (fun w' => w'.cell? ⟨m, 13, none⟩ = some (.int .i64 5) ∧ w'.cell? ⟨m, 14, none⟩ = some (.int .i64 0) ∧ w'.cell? ⟨m, 15, none⟩ = some (.int .i64 1) ∧ w'.cell? ⟨m, 16, none⟩ = some (.int .i64 0) ∧ w'.cell? ⟨m, 17, none⟩ = some (.int .i64 0)) (go_keep) (first | (go_at_call 21; refine (C2.out _).mono ?_; rintro e v3 ⟨rfl, rfl⟩))
  go_wp2
  go_end0
  exact ⟨rfl, FF.out _ ⟨rfl, rfl, rfl, rfl⟩⟩

set_option maxHeartbeats 2000000 in
theorem step_no (w : World) (m : Nat) (r : Value) (a : Option Addr) (c : Nat) (h : Blk w m (mc 2 3 (.slice a 0 c) r 5 0 1 0 0) 45) :
    Calls Tryz.prog 22 #[mp m, .int .i64 0] w fun e w' => e = .panicked bad ∧ Below w.heap.size w w' := by
  have C1 : Hid (∀ w, _) := fun w => has30 w
  have C2 : Hid (∀ w, _) := fun w => must_yes w
  have CT : Hid (∀ V : World, Sm V w → Calls Tryz.prog 27 #[mp m, .int .i64 5, .int .i64 1] V fun e w' => e = .panicked bad ∧ Below w.heap.size w w' ∧ w'.cell? ⟨m, 13, none⟩ = some (.int .i64 5) ∧ w'.cell? ⟨m, 15, none⟩ = some (.int .i64 1)) := fun V hV => by
    refine (thing_no V m r a c 5 0 1 0 0 (h.heap hV.1)).mono ?_
    rintro e w' ⟨rfl, q1⟩
    have b := hV.from q1
    rw [hV.1] at b
    exact ⟨rfl, b, (h.below b).cell 13, (h.below b).cell 15⟩
  have c1 : w.cell? ⟨m, 1, none⟩ = some (.int .u64 3) := h.cell 1
  have c13 : w.cell? ⟨m, 13, none⟩ = some (.int .i64 5) := h.cell 13
  have c15 : w.cell? ⟨m, 15, none⟩ = some (.int .i64 1) := h.cell 15
  unfold mp at *
  clear h
  go_enter Tryz.func22, Tryz.ntmps22
  go_wp2_with fail
  refine (C1.out _).mono ?_
  rintro e w ⟨rfl, rfl⟩
  go_wp2_with fail
  refine (C2.out _).mono ?_
  rintro e w ⟨rfl, rfl⟩
  go_wp2_with fail
  refine wp_region_held_drew (S := fun w' => w'.cell? ⟨m, 13, none⟩ = some (.int .i64 5) ∧ w'.cell? ⟨m, 15, none⟩ = some (.int .i64 1)) (by kernel_rfl) (by go_keep) (fun hHeld => ?_)
  refine wpAnyH_take (i := 0) (oi := { dst := some 21, op := Op.move (Operand.tmp 0), type := 42, pos := "machine.go:55", after := #[], guard := none }) (v := ?va0) rfl (by kernel_rfl) (by kernel_rfl) (by kernel_rfl) (fun _ _ _ h => h) (Or.inl ⟨by rfl, ?ha0⟩) (by assumption) ?ra0
  case ha0 => (intro wz hSw; (try dsimp only at hSw); go_simp <;> with_reducible rfl)
  try simp only [Act.put, List.setIfInBounds_toArray, List.set_cons_zero, List.set_cons_succ]
  refine wpAnyH_take (i := 1) (oi := { dst := some 22, op := Op.move (Operand.tmp 0), type := 42, pos := "machine.go:55", after := #[], guard := none }) (v := ?va1) rfl (by kernel_rfl) (by kernel_rfl) (by kernel_rfl) (fun _ _ _ h => h) (Or.inl ⟨by rfl, ?ha1⟩) (by assumption) ?ra1
  case ha1 => (intro wz hSw; (try dsimp only at hSw); go_simp <;> with_reducible rfl)
  try simp only [Act.put, List.setIfInBounds_toArray, List.set_cons_zero, List.set_cons_succ]
  refine wpAnyH_take (i := 2) (oi := { dst := some 23, op := Op.nilCheck (Operand.tmp 22), type := 0, pos := "machine.go:55", after := #[{ on := 1, ground := Ground.data }], guard := none }) (v := ?va2) rfl (by kernel_rfl) (by kernel_rfl) (by kernel_rfl) (fun _ _ _ h => h) (Or.inl ⟨by rfl, ?ha2⟩) (by assumption) ?ra2
  case ha2 => (intro wz hSw; (try dsimp only at hSw); go_simp <;> with_reducible rfl)
  try simp only [Act.put, List.setIfInBounds_toArray, List.set_cons_zero, List.set_cons_succ]
  refine wpAnyH_take (i := 3) (oi := { dst := some 24, op := Op.fieldAddr 45 (Operand.tmp 23) 1, type := 0, pos := "machine.go:55", after := #[{ on := 2, ground := Ground.data }], guard := none }) (v := ?va3) rfl (by kernel_rfl) (by kernel_rfl) (by kernel_rfl) (fun _ _ _ h => h) (Or.inl ⟨by rfl, ?ha3⟩) (by assumption) ?ra3
  case ha3 => (intro wz hSw; (try dsimp only at hSw); go_simp <;> with_reducible rfl)
  try simp only [Act.put, List.setIfInBounds_toArray, List.set_cons_zero, List.set_cons_succ]
  refine wpAnyH_take (i := 4) (oi := { dst := some 25, op := Op.fieldAddr 40 (Operand.tmp 24) 0, type := 0, pos := "machine.go:55", after := #[{ on := 3, ground := Ground.data }], guard := none }) (v := ?va4) rfl (by kernel_rfl) (by kernel_rfl) (by kernel_rfl) (fun _ _ _ h => h) (Or.inl ⟨by rfl, ?ha4⟩) (by assumption) ?ra4
  case ha4 => (intro wz hSw; (try dsimp only at hSw); go_simp <;> with_reducible rfl)
  try simp only [Act.put, List.setIfInBounds_toArray, List.set_cons_zero, List.set_cons_succ]
  refine wpAnyH_take (i := 5) (oi := { dst := some 26, op := Op.load 3 (Operand.tmp 25), type := 3, pos := "machine.go:55", after := #[{ on := 4, ground := Ground.data }], guard := none }) (v := ?va5) rfl (by kernel_rfl) (by kernel_rfl) (by kernel_rfl) (fun _ _ _ h => h) (Or.inl ⟨by rfl, ?ha5⟩) (by assumption) ?ra5
  case ha5 => (intro wz hSw; (try dsimp only at hSw); go_simp <;> with_reducible rfl)
  try simp only [Act.put, List.setIfInBounds_toArray, List.set_cons_zero, List.set_cons_succ]
  refine wpAnyH_take (i := 6) (oi := { dst := some 27, op := Op.move (Operand.tmp 0), type := 42, pos := "machine.go:55", after := #[], guard := none }) (v := ?va6) rfl (by kernel_rfl) (by kernel_rfl) (by kernel_rfl) (fun _ _ _ h => h) (Or.inl ⟨by rfl, ?ha6⟩) (by assumption) ?ra6
  case ha6 => (intro wz hSw; (try dsimp only at hSw); go_simp <;> with_reducible rfl)
  try simp only [Act.put, List.setIfInBounds_toArray, List.set_cons_zero, List.set_cons_succ]
  refine wpAnyH_take (i := 7) (oi := { dst := some 28, op := Op.nilCheck (Operand.tmp 27), type := 0, pos := "machine.go:55", after := #[{ on := 6, ground := Ground.data }], guard := none }) (v := ?va7) rfl (by kernel_rfl) (by kernel_rfl) (by kernel_rfl) (fun _ _ _ h => h) (Or.inl ⟨by rfl, ?ha7⟩) (by assumption) ?ra7
  case ha7 => (intro wz hSw; (try dsimp only at hSw); go_simp <;> with_reducible rfl)
  try simp only [Act.put, List.setIfInBounds_toArray, List.set_cons_zero, List.set_cons_succ]
  refine wpAnyH_take (i := 8) (oi := { dst := some 29, op := Op.fieldAddr 45 (Operand.tmp 28) 1, type := 0, pos := "machine.go:55", after := #[{ on := 7, ground := Ground.data }], guard := none }) (v := ?va8) rfl (by kernel_rfl) (by kernel_rfl) (by kernel_rfl) (fun _ _ _ h => h) (Or.inl ⟨by rfl, ?ha8⟩) (by assumption) ?ra8
  case ha8 => (intro wz hSw; (try dsimp only at hSw); go_simp <;> with_reducible rfl)
  try simp only [Act.put, List.setIfInBounds_toArray, List.set_cons_zero, List.set_cons_succ]
  refine wpAnyH_take (i := 9) (oi := { dst := some 30, op := Op.fieldAddr 40 (Operand.tmp 29) 2, type := 0, pos := "machine.go:55", after := #[{ on := 8, ground := Ground.data }], guard := none }) (v := ?va9) rfl (by kernel_rfl) (by kernel_rfl) (by kernel_rfl) (fun _ _ _ h => h) (Or.inl ⟨by rfl, ?ha9⟩) (by assumption) ?ra9
  case ha9 => (intro wz hSw; (try dsimp only at hSw); go_simp <;> with_reducible rfl)
  try simp only [Act.put, List.setIfInBounds_toArray, List.set_cons_zero, List.set_cons_succ]
  refine wpAnyH_take (i := 10) (oi := { dst := some 31, op := Op.load 3 (Operand.tmp 30), type := 3, pos := "machine.go:55", after := #[{ on := 9, ground := Ground.data }], guard := none }) (v := ?va10) rfl (by kernel_rfl) (by kernel_rfl) (by kernel_rfl) (fun _ _ _ h => h) (Or.inl ⟨by rfl, ?ha10⟩) (by assumption) ?ra10
  case ha10 => (intro wz hSw; (try dsimp only at hSw); go_simp <;> with_reducible rfl)
  try simp only [Act.put, List.setIfInBounds_toArray, List.set_cons_zero, List.set_cons_succ]
  refine wpAnyH_ready (rs := [11]) (by kernel_rfl) (by simp) ?_
  refine AllReadyH.cons (o := { dst := some 32, op := Op.call { callee := Callee.value (Operand.func 27), args := #[Operand.tmp 21, Operand.tmp 26, Operand.tmp 31], argTypes := #[42, 3, 3] }, type := 3, pos := "machine.go:55", after := #[{ on := 0, ground := Ground.data }, { on := 5, ground := Ground.data }, { on := 10, ground := Ground.data }], guard := none }) rfl (fun K hK => ?_) AllReadyH.nil
  go_simp
  refine (CT.out _ ?_).mono ?_
  · exact ⟨rfl, rfl, rfl, rfl⟩
  rintro e v2 ⟨rfl, b2, d13, d15⟩
  go_wp2
  simp [bodyPost]
  exact b2
end Go.Proofs.YtaebebgoijgolaaGreat
