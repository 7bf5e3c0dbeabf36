/- Contracts of the program's layers, as far as this claim needs them. -/
import Derived.Test.YtmkboahjkhkefaaGreatDoorQKse
import Derived.Test.YtmkboahjkhkefaaGreatDoorQZk
import Derived.Test.YtmkboahjkhkefaaGreatDoorRows
import Derived.WalkKit
import Derived.ProofKit
import Derived.OpenShut
import Derived.BigQuiet
import Derived.Deep.RegionHeld3
set_option linter.unusedVariables false
set_option linter.unusedSimpArgs false
namespace Go.Proofs.YtmkboahjkhkefaaGreatDoor.Krn
open Go.ChangeShapes Go.WideShapes Go.ChangeAt Go.RowKit
open Mm
section
variable {B : Nat} {w0 : World} {A : List (Nat × List Value × TypeId)} {a : KA} {m m' : Nat} {S S' : KS} {w w' : World}
theorem flg_ret {z : Nat} {x : Cor.Co.Fl} {tmps : Array Value} (h : Blk w z [.bool x.stop, .bool x.held, .bool x.hot, .bool x.act, .bool x.call, .bool x.irq, .bool x.timer, .bool x.work, .bool x.thr] 208) (h2 : tmps.getD 4 undef = .pointer (some ⟨z, 0, none⟩)) :
    (results Tryz.f85 tmps).run Tryz.prog w = .ok (Cor.flv x) w := by
  have q0 : w.cell? ⟨z, 0, none⟩ = some (.bool x.stop) := h.cell 0
  have q1 : w.cell? ⟨z, 1, none⟩ = some (.bool x.held) := h.cell 1
  have q2 : w.cell? ⟨z, 2, none⟩ = some (.bool x.hot) := h.cell 2
  have q3 : w.cell? ⟨z, 3, none⟩ = some (.bool x.act) := h.cell 3
  have q4 : w.cell? ⟨z, 4, none⟩ = some (.bool x.call) := h.cell 4
  have q5 : w.cell? ⟨z, 5, none⟩ = some (.bool x.irq) := h.cell 5
  have q6 : w.cell? ⟨z, 6, none⟩ = some (.bool x.timer) := h.cell 6
  have q7 : w.cell? ⟨z, 7, none⟩ = some (.bool x.work) := h.cell 7
  have q8 : w.cell? ⟨z, 8, none⟩ = some (.bool x.thr) := h.cell 8
  rw [results_one (p := 4) (ty := 208) rfl, h2]
  simp [go_sem, q0, q1, q2, q3, q4, q5, q6, q7, q8, Cor.flv]
set_option maxRecDepth 100000 in
set_option maxHeartbeats 8000000 in
theorem k_flags00 (h : KX B w0 A a m S w) (c : Int) (hR : S.R.isSome = false) (q7 : ¬ (0 : Int) < ((Cm.wlL a.n S.wk c).length : Int)) :
    Calls Tryz.prog 85 #[.pointer (some ⟨a.k, 0, none⟩), .int .i64 (c)] w fun e w' => e = .returned (Cor.flv (flags a.n S c)) ∧ KX B w0 A a m S w' := by
  have ne : ∀ x ∈ A, x.1 ≠ w.heap.size := fun x hx => by have := (h.bx x hx).lt; omega
  have hac := h.kb.2.2
  have h0 := h.new [.bool false, .bool false, .bool false, .bool false, .bool false, .bool false, .bool false, .bool false, .bool false] 208
  have CR : Hid (∀ _ : Unit, _) := fun _ => k_ready h0 c
  have C6 : Hid (∀ v, KX B w0 ((w.heap.size, [.bool false, .bool false, .bool false, .bool false, .bool false, .bool false, .bool false, .bool false, .bool false], 208) :: A) a m S v → _) := fun v k => st_must k c
  have C13 : Hid (∀ v, KX B w0 ((w.heap.size, [.bool false, .bool false, .bool false, .bool false, .bool false, .bool false, .bool false, .bool false, .bool false], 208) :: A) a m S v → _) := fun v k => st_held k c
  have C19 : Hid (∀ v, KX B w0 ((w.heap.size, [.bool false, .bool false, .bool false, .bool false, .bool false, .bool false, .bool false, .bool false, .bool false], 208) :: A) a m S v → _) := fun v k => dk_busy k
  have C26 : Hid (∀ v, KX B w0 ((w.heap.size, [.bool false, .bool false, .bool false, .bool false, .bool false, .bool false, .bool false, .bool false, .bool false], 208) :: A) a m S v → _) := fun v k => dk_by k
  have C36 : Hid (∀ v, _) := fun v => khas_any S.ac c v hac
  have C43 : Hid (∀ v, KX B w0 ((w.heap.size, [.bool false, .bool false, .bool false, .bool false, .bool false, .bool false, .bool false, .bool false, .bool false], 208) :: A) a m S v → _) := fun v k => cl_load k c
  have C52 : Hid (∀ v, KX B w0 ((w.heap.size, [.bool false, .bool false, .bool false, .bool false, .bool false, .bool false, .bool false, .bool false, .bool false], 208) :: A) a m S v → _) := fun v k => tm_ready k c
  have C59 : Hid (∀ v, KX B w0 ((w.heap.size, [.bool false, .bool false, .bool false, .bool false, .bool false, .bool false, .bool false, .bool false, .bool false], 208) :: A) a m S v → _) := fun v k => wk_load k c
  have C67 : Hid (∀ v, KX B w0 ((w.heap.size, [.bool false, .bool false, .bool false, .bool false, .bool false, .bool false, .bool false, .bool false, .bool false], 208) :: A) a m S v → _) := fun v k => wk_load k (-1)
  have C76 : Hid (∀ v, KX B w0 ((w.heap.size, [.bool false, .bool false, .bool false, .bool false, .bool false, .bool false, .bool false, .bool false, .bool false], 208) :: A) a m S v → _) := fun v k => rq_load k c
  unfold flags
  generalize (rdyI S c).isSome = b5 at *
  generalize (rdyI S c).getD 0 = r0 at *
  generalize tb S.sl c = b0 at *
  generalize tb S.sh c = b1 at *
  generalize tb S.ac c = b3 at *
  generalize Tim.txR a.n S.now S.t c = b6 at *
  rw [show decide (0 < (Cm.clL S.cl c).length) = decide ((0 : Int) < ((Cm.clL S.cl c).length : Int)) from decide_eq_decide.2 (by omega), show decide (0 < (Cm.wlL a.n S.wk c).length) = decide ((0 : Int) < ((Cm.wlL a.n S.wk c).length : Int)) from decide_eq_decide.2 (by omega), show decide (0 < (Cm.wlL a.n S.wk (-1)).length) = decide ((0 : Int) < ((Cm.wlL a.n S.wk (-1)).length : Int)) from decide_eq_decide.2 (by omega)]
  generalize ((Cm.clL S.cl c).length : Int) = n4 at *
  generalize ((Cm.wlL a.n S.wk c).length : Int) = n7 at *
  generalize ((Cm.wlL a.n S.wk (-1)).length : Int) = n8 at *
  generalize Rqu.loN a.n S.q c = n9 at *
  generalize Hp.cos S.R = co at *
  generalize hb4 : decide ((0 : Int) < n4) = b4
  generalize hb8 : decide ((0 : Int) < n9) = b8
  rw [hR] at C19
  rw [hR]
  simp only [Bool.false_and]
  have d7 : decide ((0 : Int) < n7) = false := decide_eq_false q7
  rw [d7]
  simp only [Bool.false_or]
  generalize hb7 : decide ((0 : Int) < n8) = b7
  go_enter Tryz.func85, Tryz.ntmps85
  go_wp2_with fail
  refine (CR.out ()).mono ?_
  rintro e w1 ⟨rfl, h1⟩
  go_wp2_with fail
  simp only [List.append]
  refine wp_region_K [79] (fun w' => w'.cell? ⟨a.k, 14, none⟩ = some (.pointer (some ⟨a.st, 0, none⟩)) ∧ w'.cell? ⟨a.k, 12, none⟩ = some (.pointer (some ⟨a.dk, 0, none⟩)) ∧ w'.cell? ⟨a.k, 1, none⟩ = some (.int .u64 (S.ac : Int)) ∧ w'.cell? ⟨a.k, 9, none⟩ = some (.pointer (some ⟨a.cl + 3, 0, none⟩)) ∧ w'.cell? ⟨a.k, 5, none⟩ = some (.pointer (some ⟨a.tm, 0, none⟩)) ∧ w'.cell? ⟨a.k, 8, none⟩ = some (.pointer (some ⟨a.wk + 6, 0, none⟩)) ∧ w'.cell? ⟨a.k, 4, none⟩ = some (.pointer (some ⟨a.rq + 2, 0, none⟩))) (by kernel_rfl) (by exact ⟨h1.drew.c14, h1.drew.c12, h1.drew.c1, h1.drew.c9, h1.drew.c5, h1.drew.c8, h1.drew.c4⟩) (fun hHeld => ?_)
  refine wpAnyK_pure (i := 0) (oi := { dst := some 13, op := Op.move (Operand.tmp 0), type := 23, pos := "step.go:38", after := #[], guard := none }) (v := ?va1) rfl (by kernel_rfl) (by kernel_rfl) (by kernel_rfl) (by kernel_rfl) (fun _ _ _ h => h) (Or.inl ⟨by rfl, ?ha1⟩) (fun _ => hHeld) ?ra1
  case ha1 => (intro wz _; go_simp <;> with_reducible rfl)
  try simp only [Act.put, List.setIfInBounds_toArray, List.set_cons_zero, List.set_cons_succ]
  refine wpAnyK_pure (i := 1) (oi := { dst := some 14, op := Op.nilCheck (Operand.tmp 13), type := 0, pos := "step.go:38", after := #[{ on := 0, ground := Ground.data }], guard := none }) (v := ?va2) rfl (by kernel_rfl) (by kernel_rfl) (by kernel_rfl) (by kernel_rfl) (fun _ _ _ h => h) (Or.inl ⟨by rfl, ?ha2⟩) (fun _ => hHeld) ?ra2
  case ha2 => (intro wz _; go_simp <;> with_reducible rfl)
  try simp only [Act.put, List.setIfInBounds_toArray, List.set_cons_zero, List.set_cons_succ]
  refine wpAnyK_pure (i := 2) (oi := { dst := some 15, op := Op.fieldAddr 86 (Operand.tmp 14) 0, type := 0, pos := "step.go:38", after := #[{ on := 1, ground := Ground.data }], guard := none }) (v := ?va3) rfl (by kernel_rfl) (by kernel_rfl) (by kernel_rfl) (by kernel_rfl) (fun _ _ _ h => h) (Or.inl ⟨by rfl, ?ha3⟩) (fun _ => hHeld) ?ra3
  case ha3 => (intro wz _; go_simp <;> with_reducible rfl)
  try simp only [Act.put, List.setIfInBounds_toArray, List.set_cons_zero, List.set_cons_succ]
  refine wpAnyK_pure (i := 3) (oi := { dst := some 16, op := Op.fieldAddr 84 (Operand.tmp 15) 14, type := 0, pos := "step.go:38", after := #[{ on := 2, ground := Ground.data }], guard := none }) (v := ?va4) rfl (by kernel_rfl) (by kernel_rfl) (by kernel_rfl) (by kernel_rfl) (fun _ _ _ h => h) (Or.inl ⟨by rfl, ?ha4⟩) (fun _ => hHeld) ?ra4
  case ha4 => (intro wz _; go_simp <;> with_reducible rfl)
  try simp only [Act.put, List.setIfInBounds_toArray, List.set_cons_zero, List.set_cons_succ]
  refine wpAnyK_take (i := 4) (oi := { dst := some 17, op := Op.load 75 (Operand.tmp 16), type := 75, pos := "step.go:38", after := #[{ on := 3, ground := Ground.data }], guard := none }) (v := ?va5) rfl (by kernel_rfl) (by kernel_rfl) (by kernel_rfl) (by kernel_rfl) (by kernel_rfl) (fun _ _ _ h => h) (Or.inl ⟨by rfl, ?ha5⟩) hHeld ?ra5
  case ha5 => (intro wz hSw; (try dsimp only at hSw); go_simp <;> with_reducible rfl)
  try simp only [Act.put, List.setIfInBounds_toArray, List.set_cons_zero, List.set_cons_succ]
  refine wpAnyK_pure (i := 5) (oi := { dst := some 18, op := Op.move (Operand.tmp 1), type := 3, pos := "step.go:38", after := #[], guard := none }) (v := ?va6) rfl (by kernel_rfl) (by kernel_rfl) (by kernel_rfl) (by kernel_rfl) (fun _ _ _ h => h) (Or.inl ⟨by rfl, ?ha6⟩) (fun _ => hHeld) ?ra6
  case ha6 => (intro wz _; go_simp <;> with_reducible rfl)
  try simp only [Act.put, List.setIfInBounds_toArray, List.set_cons_zero, List.set_cons_succ]
  refine wpAnyK_pure (i := 7) (oi := { dst := some 20, op := Op.move (Operand.tmp 0), type := 23, pos := "step.go:38", after := #[], guard := none }) (v := ?va7) rfl (by kernel_rfl) (by kernel_rfl) (by kernel_rfl) (by kernel_rfl) (fun _ _ _ h => h) (Or.inl ⟨by rfl, ?ha7⟩) (fun _ => hHeld) ?ra7
  case ha7 => (intro wz _; go_simp <;> with_reducible rfl)
  try simp only [Act.put, List.setIfInBounds_toArray, List.set_cons_zero, List.set_cons_succ]
  refine wpAnyK_pure (i := 8) (oi := { dst := some 21, op := Op.nilCheck (Operand.tmp 20), type := 0, pos := "step.go:38", after := #[{ on := 7, ground := Ground.data }], guard := none }) (v := ?va8) rfl (by kernel_rfl) (by kernel_rfl) (by kernel_rfl) (by kernel_rfl) (fun _ _ _ h => h) (Or.inl ⟨by rfl, ?ha8⟩) (fun _ => hHeld) ?ra8
  case ha8 => (intro wz _; go_simp <;> with_reducible rfl)
  try simp only [Act.put, List.setIfInBounds_toArray, List.set_cons_zero, List.set_cons_succ]
  refine wpAnyK_pure (i := 9) (oi := { dst := some 22, op := Op.fieldAddr 86 (Operand.tmp 21) 0, type := 0, pos := "step.go:38", after := #[{ on := 8, ground := Ground.data }], guard := none }) (v := ?va9) rfl (by kernel_rfl) (by kernel_rfl) (by kernel_rfl) (by kernel_rfl) (fun _ _ _ h => h) (Or.inl ⟨by rfl, ?ha9⟩) (fun _ => hHeld) ?ra9
  case ha9 => (intro wz _; go_simp <;> with_reducible rfl)
  try simp only [Act.put, List.setIfInBounds_toArray, List.set_cons_zero, List.set_cons_succ]
  refine wpAnyK_pure (i := 10) (oi := { dst := some 23, op := Op.fieldAddr 84 (Operand.tmp 22) 14, type := 0, pos := "step.go:38", after := #[{ on := 9, ground := Ground.data }], guard := none }) (v := ?va10) rfl (by kernel_rfl) (by kernel_rfl) (by kernel_rfl) (by kernel_rfl) (fun _ _ _ h => h) (Or.inl ⟨by rfl, ?ha10⟩) (fun _ => hHeld) ?ra10
  case ha10 => (intro wz _; go_simp <;> with_reducible rfl)
  try simp only [Act.put, List.setIfInBounds_toArray, List.set_cons_zero, List.set_cons_succ]
  refine wpAnyK_take (i := 11) (oi := { dst := some 24, op := Op.load 75 (Operand.tmp 23), type := 75, pos := "step.go:38", after := #[{ on := 10, ground := Ground.data }], guard := none }) (v := ?va11) rfl (by kernel_rfl) (by kernel_rfl) (by kernel_rfl) (by kernel_rfl) (by kernel_rfl) (fun _ _ _ h => h) (Or.inl ⟨by rfl, ?ha11⟩) hHeld ?ra11
  case ha11 => (intro wz hSw; (try dsimp only at hSw); go_simp <;> with_reducible rfl)
  try simp only [Act.put, List.setIfInBounds_toArray, List.set_cons_zero, List.set_cons_succ]
  refine wpAnyK_pure (i := 12) (oi := { dst := some 25, op := Op.move (Operand.tmp 1), type := 3, pos := "step.go:38", after := #[], guard := none }) (v := ?va12) rfl (by kernel_rfl) (by kernel_rfl) (by kernel_rfl) (by kernel_rfl) (fun _ _ _ h => h) (Or.inl ⟨by rfl, ?ha12⟩) (fun _ => hHeld) ?ra12
  case ha12 => (intro wz _; go_simp <;> with_reducible rfl)
  try simp only [Act.put, List.setIfInBounds_toArray, List.set_cons_zero, List.set_cons_succ]
  refine wpAnyK_pure (i := 14) (oi := { dst := some 27, op := Op.move (Operand.tmp 0), type := 23, pos := "step.go:38", after := #[], guard := none }) (v := ?va13) rfl (by kernel_rfl) (by kernel_rfl) (by kernel_rfl) (by kernel_rfl) (fun _ _ _ h => h) (Or.inl ⟨by rfl, ?ha13⟩) (fun _ => hHeld) ?ra13
  case ha13 => (intro wz _; go_simp <;> with_reducible rfl)
  try simp only [Act.put, List.setIfInBounds_toArray, List.set_cons_zero, List.set_cons_succ]
  refine wpAnyK_pure (i := 15) (oi := { dst := some 28, op := Op.nilCheck (Operand.tmp 27), type := 0, pos := "step.go:38", after := #[{ on := 14, ground := Ground.data }], guard := none }) (v := ?va14) rfl (by kernel_rfl) (by kernel_rfl) (by kernel_rfl) (by kernel_rfl) (fun _ _ _ h => h) (Or.inl ⟨by rfl, ?ha14⟩) (fun _ => hHeld) ?ra14
  case ha14 => (intro wz _; go_simp <;> with_reducible rfl)
  try simp only [Act.put, List.setIfInBounds_toArray, List.set_cons_zero, List.set_cons_succ]
  refine wpAnyK_pure (i := 16) (oi := { dst := some 29, op := Op.fieldAddr 86 (Operand.tmp 28) 0, type := 0, pos := "step.go:38", after := #[{ on := 15, ground := Ground.data }], guard := none }) (v := ?va15) rfl (by kernel_rfl) (by kernel_rfl) (by kernel_rfl) (by kernel_rfl) (fun _ _ _ h => h) (Or.inl ⟨by rfl, ?ha15⟩) (fun _ => hHeld) ?ra15
  case ha15 => (intro wz _; go_simp <;> with_reducible rfl)
  try simp only [Act.put, List.setIfInBounds_toArray, List.set_cons_zero, List.set_cons_succ]
  refine wpAnyK_pure (i := 17) (oi := { dst := some 30, op := Op.fieldAddr 84 (Operand.tmp 29) 12, type := 0, pos := "step.go:38", after := #[{ on := 16, ground := Ground.data }], guard := none }) (v := ?va16) rfl (by kernel_rfl) (by kernel_rfl) (by kernel_rfl) (by kernel_rfl) (fun _ _ _ h => h) (Or.inl ⟨by rfl, ?ha16⟩) (fun _ => hHeld) ?ra16
  case ha16 => (intro wz _; go_simp <;> with_reducible rfl)
  try simp only [Act.put, List.setIfInBounds_toArray, List.set_cons_zero, List.set_cons_succ]
  refine wpAnyK_take (i := 18) (oi := { dst := some 31, op := Op.load 46 (Operand.tmp 30), type := 46, pos := "step.go:38", after := #[{ on := 17, ground := Ground.data }], guard := none }) (v := ?va17) rfl (by kernel_rfl) (by kernel_rfl) (by kernel_rfl) (by kernel_rfl) (by kernel_rfl) (fun _ _ _ h => h) (Or.inl ⟨by rfl, ?ha17⟩) hHeld ?ra17
  case ha17 => (intro wz hSw; (try dsimp only at hSw); go_simp <;> with_reducible rfl)
  try simp only [Act.put, List.setIfInBounds_toArray, List.set_cons_zero, List.set_cons_succ]
  refine wpAnyK_pure (i := 30) (oi := { dst := some 43, op := Op.move (Operand.tmp 0), type := 23, pos := "step.go:38", after := #[], guard := none }) (v := ?va18) rfl (by kernel_rfl) (by kernel_rfl) (by kernel_rfl) (by kernel_rfl) (fun _ _ _ h => h) (Or.inl ⟨by rfl, ?ha18⟩) (fun _ => hHeld) ?ra18
  case ha18 => (intro wz _; go_simp <;> with_reducible rfl)
  try simp only [Act.put, List.setIfInBounds_toArray, List.set_cons_zero, List.set_cons_succ]
  refine wpAnyK_pure (i := 31) (oi := { dst := some 44, op := Op.nilCheck (Operand.tmp 43), type := 0, pos := "step.go:38", after := #[{ on := 30, ground := Ground.data }], guard := none }) (v := ?va19) rfl (by kernel_rfl) (by kernel_rfl) (by kernel_rfl) (by kernel_rfl) (fun _ _ _ h => h) (Or.inl ⟨by rfl, ?ha19⟩) (fun _ => hHeld) ?ra19
  case ha19 => (intro wz _; go_simp <;> with_reducible rfl)
  try simp only [Act.put, List.setIfInBounds_toArray, List.set_cons_zero, List.set_cons_succ]
  refine wpAnyK_pure (i := 32) (oi := { dst := some 45, op := Op.fieldAddr 86 (Operand.tmp 44) 0, type := 0, pos := "step.go:38", after := #[{ on := 31, ground := Ground.data }], guard := none }) (v := ?va20) rfl (by kernel_rfl) (by kernel_rfl) (by kernel_rfl) (by kernel_rfl) (fun _ _ _ h => h) (Or.inl ⟨by rfl, ?ha20⟩) (fun _ => hHeld) ?ra20
  case ha20 => (intro wz _; go_simp <;> with_reducible rfl)
  try simp only [Act.put, List.setIfInBounds_toArray, List.set_cons_zero, List.set_cons_succ]
  refine wpAnyK_pure (i := 33) (oi := { dst := some 46, op := Op.fieldAddr 84 (Operand.tmp 45) 1, type := 0, pos := "step.go:38", after := #[{ on := 32, ground := Ground.data }], guard := none }) (v := ?va21) rfl (by kernel_rfl) (by kernel_rfl) (by kernel_rfl) (by kernel_rfl) (fun _ _ _ h => h) (Or.inl ⟨by rfl, ?ha21⟩) (fun _ => hHeld) ?ra21
  case ha21 => (intro wz _; go_simp <;> with_reducible rfl)
  try simp only [Act.put, List.setIfInBounds_toArray, List.set_cons_zero, List.set_cons_succ]
  refine wpAnyK_take (i := 34) (oi := { dst := some 47, op := Op.load 29 (Operand.tmp 46), type := 29, pos := "step.go:38", after := #[{ on := 33, ground := Ground.data }], guard := none }) (v := ?va22) rfl (by kernel_rfl) (by kernel_rfl) (by kernel_rfl) (by kernel_rfl) (by kernel_rfl) (fun _ _ _ h => h) (Or.inl ⟨by rfl, ?ha22⟩) hHeld ?ra22
  case ha22 => (intro wz hSw; (try dsimp only at hSw); go_simp <;> with_reducible rfl)
  try simp only [Act.put, List.setIfInBounds_toArray, List.set_cons_zero, List.set_cons_succ]
  refine wpAnyK_pure (i := 35) (oi := { dst := some 48, op := Op.move (Operand.tmp 1), type := 3, pos := "step.go:38", after := #[], guard := none }) (v := ?va23) rfl (by kernel_rfl) (by kernel_rfl) (by kernel_rfl) (by kernel_rfl) (fun _ _ _ h => h) (Or.inl ⟨by rfl, ?ha23⟩) (fun _ => hHeld) ?ra23
  case ha23 => (intro wz _; go_simp <;> with_reducible rfl)
  try simp only [Act.put, List.setIfInBounds_toArray, List.set_cons_zero, List.set_cons_succ]
  refine wpAnyK_pure (i := 37) (oi := { dst := some 50, op := Op.move (Operand.tmp 0), type := 23, pos := "step.go:38", after := #[], guard := none }) (v := ?va24) rfl (by kernel_rfl) (by kernel_rfl) (by kernel_rfl) (by kernel_rfl) (fun _ _ _ h => h) (Or.inl ⟨by rfl, ?ha24⟩) (fun _ => hHeld) ?ra24
  case ha24 => (intro wz _; go_simp <;> with_reducible rfl)
  try simp only [Act.put, List.setIfInBounds_toArray, List.set_cons_zero, List.set_cons_succ]
  refine wpAnyK_pure (i := 38) (oi := { dst := some 51, op := Op.nilCheck (Operand.tmp 50), type := 0, pos := "step.go:38", after := #[{ on := 37, ground := Ground.data }], guard := none }) (v := ?va25) rfl (by kernel_rfl) (by kernel_rfl) (by kernel_rfl) (by kernel_rfl) (fun _ _ _ h => h) (Or.inl ⟨by rfl, ?ha25⟩) (fun _ => hHeld) ?ra25
  case ha25 => (intro wz _; go_simp <;> with_reducible rfl)
  try simp only [Act.put, List.setIfInBounds_toArray, List.set_cons_zero, List.set_cons_succ]
  refine wpAnyK_pure (i := 39) (oi := { dst := some 52, op := Op.fieldAddr 86 (Operand.tmp 51) 0, type := 0, pos := "step.go:38", after := #[{ on := 38, ground := Ground.data }], guard := none }) (v := ?va26) rfl (by kernel_rfl) (by kernel_rfl) (by kernel_rfl) (by kernel_rfl) (fun _ _ _ h => h) (Or.inl ⟨by rfl, ?ha26⟩) (fun _ => hHeld) ?ra26
  case ha26 => (intro wz _; go_simp <;> with_reducible rfl)
  try simp only [Act.put, List.setIfInBounds_toArray, List.set_cons_zero, List.set_cons_succ]
  refine wpAnyK_pure (i := 40) (oi := { dst := some 53, op := Op.fieldAddr 84 (Operand.tmp 52) 9, type := 0, pos := "step.go:38", after := #[{ on := 39, ground := Ground.data }], guard := none }) (v := ?va27) rfl (by kernel_rfl) (by kernel_rfl) (by kernel_rfl) (by kernel_rfl) (fun _ _ _ h => h) (Or.inl ⟨by rfl, ?ha27⟩) (fun _ => hHeld) ?ra27
  case ha27 => (intro wz _; go_simp <;> with_reducible rfl)
  try simp only [Act.put, List.setIfInBounds_toArray, List.set_cons_zero, List.set_cons_succ]
  refine wpAnyK_take (i := 41) (oi := { dst := some 54, op := Op.load 69 (Operand.tmp 53), type := 69, pos := "step.go:38", after := #[{ on := 40, ground := Ground.data }], guard := none }) (v := ?va28) rfl (by kernel_rfl) (by kernel_rfl) (by kernel_rfl) (by kernel_rfl) (by kernel_rfl) (fun _ _ _ h => h) (Or.inl ⟨by rfl, ?ha28⟩) hHeld ?ra28
  case ha28 => (intro wz hSw; (try dsimp only at hSw); go_simp <;> with_reducible rfl)
  try simp only [Act.put, List.setIfInBounds_toArray, List.set_cons_zero, List.set_cons_succ]
  refine wpAnyK_pure (i := 42) (oi := { dst := some 55, op := Op.move (Operand.tmp 1), type := 3, pos := "step.go:38", after := #[], guard := none }) (v := ?va29) rfl (by kernel_rfl) (by kernel_rfl) (by kernel_rfl) (by kernel_rfl) (fun _ _ _ h => h) (Or.inl ⟨by rfl, ?ha29⟩) (fun _ => hHeld) ?ra29
  case ha29 => (intro wz _; go_simp <;> with_reducible rfl)
  try simp only [Act.put, List.setIfInBounds_toArray, List.set_cons_zero, List.set_cons_succ]
  refine wpAnyK_pure (i := 45) (oi := { dst := some 58, op := Op.move (Operand.tmp 6), type := 4, pos := "step.go:38", after := #[], guard := none }) (v := ?va30) rfl (by kernel_rfl) (by kernel_rfl) (by kernel_rfl) (by kernel_rfl) (fun _ _ _ h => h) (Or.inl ⟨by rfl, ?ha30⟩) (fun _ => hHeld) ?ra30
  case ha30 => (intro wz _; go_simp <;> with_reducible rfl)
  try simp only [Act.put, List.setIfInBounds_toArray, List.set_cons_zero, List.set_cons_succ]
  refine wpAnyK_pure (i := 46) (oi := { dst := some 59, op := Op.move (Operand.tmp 0), type := 23, pos := "step.go:38", after := #[], guard := none }) (v := ?va31) rfl (by kernel_rfl) (by kernel_rfl) (by kernel_rfl) (by kernel_rfl) (fun _ _ _ h => h) (Or.inl ⟨by rfl, ?ha31⟩) (fun _ => hHeld) ?ra31
  case ha31 => (intro wz _; go_simp <;> with_reducible rfl)
  try simp only [Act.put, List.setIfInBounds_toArray, List.set_cons_zero, List.set_cons_succ]
  refine wpAnyK_pure (i := 47) (oi := { dst := some 60, op := Op.nilCheck (Operand.tmp 59), type := 0, pos := "step.go:38", after := #[{ on := 46, ground := Ground.data }], guard := none }) (v := ?va32) rfl (by kernel_rfl) (by kernel_rfl) (by kernel_rfl) (by kernel_rfl) (fun _ _ _ h => h) (Or.inl ⟨by rfl, ?ha32⟩) (fun _ => hHeld) ?ra32
  case ha32 => (intro wz _; go_simp <;> with_reducible rfl)
  try simp only [Act.put, List.setIfInBounds_toArray, List.set_cons_zero, List.set_cons_succ]
  refine wpAnyK_pure (i := 48) (oi := { dst := some 61, op := Op.fieldAddr 86 (Operand.tmp 60) 0, type := 0, pos := "step.go:38", after := #[{ on := 47, ground := Ground.data }], guard := none }) (v := ?va33) rfl (by kernel_rfl) (by kernel_rfl) (by kernel_rfl) (by kernel_rfl) (fun _ _ _ h => h) (Or.inl ⟨by rfl, ?ha33⟩) (fun _ => hHeld) ?ra33
  case ha33 => (intro wz _; go_simp <;> with_reducible rfl)
  try simp only [Act.put, List.setIfInBounds_toArray, List.set_cons_zero, List.set_cons_succ]
  refine wpAnyK_pure (i := 49) (oi := { dst := some 62, op := Op.fieldAddr 84 (Operand.tmp 61) 5, type := 0, pos := "step.go:38", after := #[{ on := 48, ground := Ground.data }], guard := none }) (v := ?va34) rfl (by kernel_rfl) (by kernel_rfl) (by kernel_rfl) (by kernel_rfl) (fun _ _ _ h => h) (Or.inl ⟨by rfl, ?ha34⟩) (fun _ => hHeld) ?ra34
  case ha34 => (intro wz _; go_simp <;> with_reducible rfl)
  try simp only [Act.put, List.setIfInBounds_toArray, List.set_cons_zero, List.set_cons_succ]
  refine wpAnyK_take (i := 50) (oi := { dst := some 63, op := Op.load 61 (Operand.tmp 62), type := 61, pos := "step.go:38", after := #[{ on := 49, ground := Ground.data }], guard := none }) (v := ?va35) rfl (by kernel_rfl) (by kernel_rfl) (by kernel_rfl) (by kernel_rfl) (by kernel_rfl) (fun _ _ _ h => h) (Or.inl ⟨by rfl, ?ha35⟩) hHeld ?ra35
  case ha35 => (intro wz hSw; (try dsimp only at hSw); go_simp <;> with_reducible rfl)
  try simp only [Act.put, List.setIfInBounds_toArray, List.set_cons_zero, List.set_cons_succ]
  refine wpAnyK_pure (i := 51) (oi := { dst := some 64, op := Op.move (Operand.tmp 1), type := 3, pos := "step.go:38", after := #[], guard := none }) (v := ?va36) rfl (by kernel_rfl) (by kernel_rfl) (by kernel_rfl) (by kernel_rfl) (fun _ _ _ h => h) (Or.inl ⟨by rfl, ?ha36⟩) (fun _ => hHeld) ?ra36
  case ha36 => (intro wz _; go_simp <;> with_reducible rfl)
  try simp only [Act.put, List.setIfInBounds_toArray, List.set_cons_zero, List.set_cons_succ]
  refine wpAnyK_pure (i := 53) (oi := { dst := some 66, op := Op.move (Operand.tmp 0), type := 23, pos := "step.go:38", after := #[], guard := none }) (v := ?va37) rfl (by kernel_rfl) (by kernel_rfl) (by kernel_rfl) (by kernel_rfl) (fun _ _ _ h => h) (Or.inl ⟨by rfl, ?ha37⟩) (fun _ => hHeld) ?ra37
  case ha37 => (intro wz _; go_simp <;> with_reducible rfl)
  try simp only [Act.put, List.setIfInBounds_toArray, List.set_cons_zero, List.set_cons_succ]
  refine wpAnyK_pure (i := 54) (oi := { dst := some 67, op := Op.nilCheck (Operand.tmp 66), type := 0, pos := "step.go:38", after := #[{ on := 53, ground := Ground.data }], guard := none }) (v := ?va38) rfl (by kernel_rfl) (by kernel_rfl) (by kernel_rfl) (by kernel_rfl) (fun _ _ _ h => h) (Or.inl ⟨by rfl, ?ha38⟩) (fun _ => hHeld) ?ra38
  case ha38 => (intro wz _; go_simp <;> with_reducible rfl)
  try simp only [Act.put, List.setIfInBounds_toArray, List.set_cons_zero, List.set_cons_succ]
  refine wpAnyK_pure (i := 55) (oi := { dst := some 68, op := Op.fieldAddr 86 (Operand.tmp 67) 0, type := 0, pos := "step.go:38", after := #[{ on := 54, ground := Ground.data }], guard := none }) (v := ?va39) rfl (by kernel_rfl) (by kernel_rfl) (by kernel_rfl) (by kernel_rfl) (fun _ _ _ h => h) (Or.inl ⟨by rfl, ?ha39⟩) (fun _ => hHeld) ?ra39
  case ha39 => (intro wz _; go_simp <;> with_reducible rfl)
  try simp only [Act.put, List.setIfInBounds_toArray, List.set_cons_zero, List.set_cons_succ]
  refine wpAnyK_pure (i := 56) (oi := { dst := some 69, op := Op.fieldAddr 84 (Operand.tmp 68) 8, type := 0, pos := "step.go:38", after := #[{ on := 55, ground := Ground.data }], guard := none }) (v := ?va40) rfl (by kernel_rfl) (by kernel_rfl) (by kernel_rfl) (by kernel_rfl) (fun _ _ _ h => h) (Or.inl ⟨by rfl, ?ha40⟩) (fun _ => hHeld) ?ra40
  case ha40 => (intro wz _; go_simp <;> with_reducible rfl)
  try simp only [Act.put, List.setIfInBounds_toArray, List.set_cons_zero, List.set_cons_succ]
  refine wpAnyK_take (i := 57) (oi := { dst := some 70, op := Op.load 67 (Operand.tmp 69), type := 67, pos := "step.go:38", after := #[{ on := 56, ground := Ground.data }], guard := none }) (v := ?va41) rfl (by kernel_rfl) (by kernel_rfl) (by kernel_rfl) (by kernel_rfl) (by kernel_rfl) (fun _ _ _ h => h) (Or.inl ⟨by rfl, ?ha41⟩) hHeld ?ra41
  case ha41 => (intro wz hSw; (try dsimp only at hSw); go_simp <;> with_reducible rfl)
  try simp only [Act.put, List.setIfInBounds_toArray, List.set_cons_zero, List.set_cons_succ]
  refine wpAnyK_pure (i := 58) (oi := { dst := some 71, op := Op.move (Operand.tmp 1), type := 3, pos := "step.go:38", after := #[], guard := none }) (v := ?va42) rfl (by kernel_rfl) (by kernel_rfl) (by kernel_rfl) (by kernel_rfl) (fun _ _ _ h => h) (Or.inl ⟨by rfl, ?ha42⟩) (fun _ => hHeld) ?ra42
  case ha42 => (intro wz _; go_simp <;> with_reducible rfl)
  try simp only [Act.put, List.setIfInBounds_toArray, List.set_cons_zero, List.set_cons_succ]
  refine wpAnyK_pure (i := 70) (oi := { dst := some 83, op := Op.move (Operand.tmp 0), type := 23, pos := "step.go:38", after := #[], guard := none }) (v := ?va43) rfl (by kernel_rfl) (by kernel_rfl) (by kernel_rfl) (by kernel_rfl) (fun _ _ _ h => h) (Or.inl ⟨by rfl, ?ha43⟩) (fun _ => hHeld) ?ra43
  case ha43 => (intro wz _; go_simp <;> with_reducible rfl)
  try simp only [Act.put, List.setIfInBounds_toArray, List.set_cons_zero, List.set_cons_succ]
  refine wpAnyK_pure (i := 71) (oi := { dst := some 84, op := Op.nilCheck (Operand.tmp 83), type := 0, pos := "step.go:38", after := #[{ on := 70, ground := Ground.data }], guard := none }) (v := ?va44) rfl (by kernel_rfl) (by kernel_rfl) (by kernel_rfl) (by kernel_rfl) (fun _ _ _ h => h) (Or.inl ⟨by rfl, ?ha44⟩) (fun _ => hHeld) ?ra44
  case ha44 => (intro wz _; go_simp <;> with_reducible rfl)
  try simp only [Act.put, List.setIfInBounds_toArray, List.set_cons_zero, List.set_cons_succ]
  refine wpAnyK_pure (i := 72) (oi := { dst := some 85, op := Op.fieldAddr 86 (Operand.tmp 84) 0, type := 0, pos := "step.go:38", after := #[{ on := 71, ground := Ground.data }], guard := none }) (v := ?va45) rfl (by kernel_rfl) (by kernel_rfl) (by kernel_rfl) (by kernel_rfl) (fun _ _ _ h => h) (Or.inl ⟨by rfl, ?ha45⟩) (fun _ => hHeld) ?ra45
  case ha45 => (intro wz _; go_simp <;> with_reducible rfl)
  try simp only [Act.put, List.setIfInBounds_toArray, List.set_cons_zero, List.set_cons_succ]
  refine wpAnyK_pure (i := 73) (oi := { dst := some 86, op := Op.fieldAddr 84 (Operand.tmp 85) 4, type := 0, pos := "step.go:38", after := #[{ on := 72, ground := Ground.data }], guard := none }) (v := ?va46) rfl (by kernel_rfl) (by kernel_rfl) (by kernel_rfl) (by kernel_rfl) (fun _ _ _ h => h) (Or.inl ⟨by rfl, ?ha46⟩) (fun _ => hHeld) ?ra46
  case ha46 => (intro wz _; go_simp <;> with_reducible rfl)
  try simp only [Act.put, List.setIfInBounds_toArray, List.set_cons_zero, List.set_cons_succ]
  refine wpAnyK_take (i := 74) (oi := { dst := some 87, op := Op.load 59 (Operand.tmp 86), type := 59, pos := "step.go:38", after := #[{ on := 73, ground := Ground.data }], guard := none }) (v := ?va47) rfl (by kernel_rfl) (by kernel_rfl) (by kernel_rfl) (by kernel_rfl) (by kernel_rfl) (fun _ _ _ h => h) (Or.inl ⟨by rfl, ?ha47⟩) hHeld ?ra47
  case ha47 => (intro wz hSw; (try dsimp only at hSw); go_simp <;> with_reducible rfl)
  try simp only [Act.put, List.setIfInBounds_toArray, List.set_cons_zero, List.set_cons_succ]
  refine wpAnyK_pure (i := 75) (oi := { dst := some 88, op := Op.move (Operand.tmp 1), type := 3, pos := "step.go:38", after := #[], guard := none }) (v := ?va48) rfl (by kernel_rfl) (by kernel_rfl) (by kernel_rfl) (by kernel_rfl) (fun _ _ _ h => h) (Or.inl ⟨by rfl, ?ha48⟩) (fun _ => hHeld) ?ra48
  case ha48 => (intro wz _; go_simp <;> with_reducible rfl)
  try simp only [Act.put, List.setIfInBounds_toArray, List.set_cons_zero, List.set_cons_succ]
  refine wpAnyK_one (i := 6) (by kernel_rfl) (oneK (o := { dst := some 19, op := Op.call { callee := Callee.value (Operand.func 124), args := #[Operand.tmp 17, Operand.tmp 18], argTypes := #[75, 3] }, type := 4, pos := "step.go:39", after := #[{ on := 4, ground := Ground.data }, { on := 5, ground := Ground.data }], guard := none }) rfl (fun K hK => ?_))
  go_simp
  refine (C6.out _ (h1.sm ?_)).mono ?_
  exact ⟨rfl, rfl, rfl, rfl⟩
  rintro e w2 ⟨rfl, h2⟩
  (try go_wp2_with fail)
  refine hK.out _ _ ?sa49 (fun hHeld => ?ta49)
  case sa49 => (intro _; exact ⟨h2.c14, h2.c12, h2.c1, h2.c9, h2.c5, h2.c8, h2.c4⟩)
  replace hHeld := hHeld (un_of (by kernel_rfl))
  clear hK K
  try simp only [Act.put, List.setIfInBounds_toArray, List.set_cons_zero, List.set_cons_succ]
  refine wpAnyK_one (i := 13) (by kernel_rfl) (oneK (o := { dst := some 26, op := Op.call { callee := Callee.value (Operand.func 125), args := #[Operand.tmp 24, Operand.tmp 25], argTypes := #[75, 3] }, type := 4, pos := "step.go:40", after := #[{ on := 11, ground := Ground.data }, { on := 12, ground := Ground.data }, { on := 6, ground := Ground.chain }], guard := none }) rfl (fun K hK => ?_))
  go_simp
  refine (C13.out _ (h2.sm ?_)).mono ?_
  exact ⟨rfl, rfl, rfl, rfl⟩
  rintro e w3 ⟨rfl, h3⟩
  (try go_wp2_with fail)
  refine hK.out _ _ ?sa50 (fun hHeld => ?ta50)
  case sa50 => (intro _; exact ⟨h3.c14, h3.c12, h3.c1, h3.c9, h3.c5, h3.c8, h3.c4⟩)
  replace hHeld := hHeld (un_of (by kernel_rfl))
  clear hK K
  try simp only [Act.put, List.setIfInBounds_toArray, List.set_cons_zero, List.set_cons_succ]
  refine wpAnyK_one (i := 19) (by kernel_rfl) (oneK (o := { dst := some 32, op := Op.call { callee := Callee.value (Operand.func 23), args := #[Operand.tmp 31], argTypes := #[46] }, type := 4, pos := "step.go:41", after := #[{ on := 18, ground := Ground.data }, { on := 13, ground := Ground.chain }], guard := none }) rfl (fun K hK => ?_))
  go_simp
  refine (C19.out _ (h3.sm ?_)).mono ?_
  exact ⟨rfl, rfl, rfl, rfl⟩
  rintro e w4 ⟨rfl, h4⟩
  (try go_wp2_with fail)
  refine hK.out _ _ ?sa51 (fun hHeld => ?ta51)
  case sa51 => (intro _; exact ⟨h4.c14, h4.c12, h4.c1, h4.c9, h4.c5, h4.c8, h4.c4⟩)
  replace hHeld := hHeld (un_of (by kernel_rfl))
  clear hK K
  try simp only [Act.put, List.setIfInBounds_toArray, List.set_cons_zero, List.set_cons_succ]
  refine wpAnyK_pure (i := 20) (oi := { dst := some 33, op := Op.move (Operand.tmp 32), type := 4, pos := "step.go:38", after := #[{ on := 19, ground := Ground.data }, { on := 19, ground := Ground.chain }], guard := none }) (v := ?va52) rfl (by kernel_rfl) (by kernel_rfl) (by kernel_rfl) (by kernel_rfl) (fun _ _ _ h => h) (Or.inl ⟨by rfl, ?ha52⟩) (fun _ => hHeld) ?ra52
  case ha52 => (intro wz _; go_simp <;> with_reducible rfl)
  try simp only [Act.put, List.setIfInBounds_toArray, List.set_cons_zero, List.set_cons_succ]
  refine wpAnyK_pure (i := 21) (oi := { dst := some 34, op := Op.move (Operand.tmp 0), type := 23, pos := "step.go:38", after := #[{ on := 20, ground := Ground.guard }], guard := some (20, true) }) (v := undef) rfl (by kernel_rfl) (by kernel_rfl) (by kernel_rfl) (by kernel_rfl) (fun _ _ _ h => h) (Or.inr ⟨by rfl, rfl⟩) (fun _ => hHeld) ?_
  try simp only [Act.put, List.setIfInBounds_toArray, List.set_cons_zero, List.set_cons_succ]
  refine wpAnyK_pure (i := 22) (oi := { dst := some 35, op := Op.nilCheck (Operand.tmp 34), type := 0, pos := "step.go:38", after := #[{ on := 21, ground := Ground.data }, { on := 20, ground := Ground.guard }], guard := some (20, true) }) (v := undef) rfl (by kernel_rfl) (by kernel_rfl) (by kernel_rfl) (by kernel_rfl) (fun _ _ _ h => h) (Or.inr ⟨by rfl, rfl⟩) (fun _ => hHeld) ?_
  try simp only [Act.put, List.setIfInBounds_toArray, List.set_cons_zero, List.set_cons_succ]
  refine wpAnyK_pure (i := 23) (oi := { dst := some 36, op := Op.fieldAddr 86 (Operand.tmp 35) 0, type := 0, pos := "step.go:38", after := #[{ on := 22, ground := Ground.data }, { on := 20, ground := Ground.guard }], guard := some (20, true) }) (v := undef) rfl (by kernel_rfl) (by kernel_rfl) (by kernel_rfl) (by kernel_rfl) (fun _ _ _ h => h) (Or.inr ⟨by rfl, rfl⟩) (fun _ => hHeld) ?_
  try simp only [Act.put, List.setIfInBounds_toArray, List.set_cons_zero, List.set_cons_succ]
  refine wpAnyK_pure (i := 24) (oi := { dst := some 37, op := Op.fieldAddr 84 (Operand.tmp 36) 12, type := 0, pos := "step.go:38", after := #[{ on := 23, ground := Ground.data }, { on := 20, ground := Ground.guard }], guard := some (20, true) }) (v := undef) rfl (by kernel_rfl) (by kernel_rfl) (by kernel_rfl) (by kernel_rfl) (fun _ _ _ h => h) (Or.inr ⟨by rfl, rfl⟩) (fun _ => hHeld) ?_
  try simp only [Act.put, List.setIfInBounds_toArray, List.set_cons_zero, List.set_cons_succ]
  refine wpAnyK_pure (i := 25) (oi := { dst := some 38, op := Op.load 46 (Operand.tmp 37), type := 46, pos := "step.go:38", after := #[{ on := 24, ground := Ground.data }, { on := 20, ground := Ground.guard }], guard := some (20, true) }) (v := undef) rfl (by kernel_rfl) (by kernel_rfl) (by kernel_rfl) (by kernel_rfl) (fun _ _ _ h => h) (Or.inr ⟨by rfl, rfl⟩) (fun _ => hHeld) ?_
  try simp only [Act.put, List.setIfInBounds_toArray, List.set_cons_zero, List.set_cons_succ]
  refine wpAnyK_pure (i := 26) (oi := { dst := some 39, op := Op.call { callee := Callee.value (Operand.func 126), args := #[Operand.tmp 38], argTypes := #[46] }, type := 3, pos := "step.go:41", after := #[{ on := 25, ground := Ground.data }, { on := 20, ground := Ground.chain }, { on := 20, ground := Ground.guard }], guard := some (20, true) }) (v := undef) rfl (by kernel_rfl) (by kernel_rfl) (by kernel_rfl) (by kernel_rfl) (fun _ _ _ h => h) (Or.inr ⟨by rfl, rfl⟩) (fun _ => hHeld) ?_
  try simp only [Act.put, List.setIfInBounds_toArray, List.set_cons_zero, List.set_cons_succ]
  refine wpAnyK_pure (i := 27) (oi := { dst := some 40, op := Op.move (Operand.tmp 1), type := 3, pos := "step.go:38", after := #[{ on := 20, ground := Ground.guard }], guard := some (20, true) }) (v := undef) rfl (by kernel_rfl) (by kernel_rfl) (by kernel_rfl) (by kernel_rfl) (fun _ _ _ h => h) (Or.inr ⟨by rfl, rfl⟩) (fun _ => hHeld) ?_
  try simp only [Act.put, List.setIfInBounds_toArray, List.set_cons_zero, List.set_cons_succ]
  refine wpAnyK_pure (i := 28) (oi := { dst := some 41, op := Op.binOp BinOp.eql 3 (Operand.tmp 39) (Operand.tmp 40) 3, type := 4, pos := "step.go:38", after := #[{ on := 26, ground := Ground.data }, { on := 27, ground := Ground.data }, { on := 20, ground := Ground.guard }], guard := some (20, true) }) (v := undef) rfl (by kernel_rfl) (by kernel_rfl) (by kernel_rfl) (by kernel_rfl) (fun _ _ _ h => h) (Or.inr ⟨by rfl, rfl⟩) (fun _ => hHeld) ?_
  try simp only [Act.put, List.setIfInBounds_toArray, List.set_cons_zero, List.set_cons_succ]
  refine wpAnyK_pure (i := 29) (oi := { dst := some 42, op := Op.pick (Operand.tmp 33) (Operand.tmp 41) (Operand.const (Value.bool false)), type := 4, pos := "step.go:38", after := #[{ on := 20, ground := Ground.data }, { on := 28, ground := Ground.data }], guard := none }) (v := ?va61) rfl (by kernel_rfl) (by kernel_rfl) (by kernel_rfl) (by kernel_rfl) (fun _ _ _ h => h) (Or.inl ⟨by rfl, ?ha61⟩) (fun _ => hHeld) ?ra61
  case ha61 => (intro wz _; go_simp <;> with_reducible rfl)
  try simp only [Act.put, List.setIfInBounds_toArray, List.set_cons_zero, List.set_cons_succ]
  refine wpAnyK_one (i := 36) (by kernel_rfl) (oneK (o := { dst := some 49, op := Op.call { callee := Callee.value (Operand.func 13), args := #[Operand.tmp 47, Operand.tmp 48], argTypes := #[29, 3] }, type := 4, pos := "step.go:42", after := #[{ on := 34, ground := Ground.data }, { on := 35, ground := Ground.data }, { on := 26, ground := Ground.chain }], guard := none }) rfl (fun K hK => ?_))
  go_simp
  refine (C36.out _).mono ?_
  rintro e w5 ⟨rfl, rfl⟩
  have h5 := h4
  (try go_wp2_with fail)
  refine hK.out _ _ ?sa62 (fun hHeld => ?ta62)
  case sa62 => (intro _; assumption)
  replace hHeld := hHeld (un_of (by kernel_rfl))
  clear hK K
  try simp only [Act.put, List.setIfInBounds_toArray, List.set_cons_zero, List.set_cons_succ]
  refine wpAnyK_one (i := 43) (by kernel_rfl) (oneK (o := { dst := some 56, op := Op.call { callee := Callee.value (Operand.func 68), args := #[Operand.tmp 54, Operand.tmp 55], argTypes := #[69, 3] }, type := 3, pos := "step.go:43", after := #[{ on := 41, ground := Ground.data }, { on := 42, ground := Ground.data }, { on := 36, ground := Ground.chain }], guard := none }) rfl (fun K hK => ?_))
  go_simp
  refine (C43.out _ (h5.sm ?_)).mono ?_
  exact ⟨rfl, rfl, rfl, rfl⟩
  rintro e w6 ⟨rfl, h6⟩
  (try go_wp2_with fail)
  refine hK.out _ _ ?sa63 (fun hHeld => ?ta63)
  case sa63 => (intro _; exact ⟨h6.c14, h6.c12, h6.c1, h6.c9, h6.c5, h6.c8, h6.c4⟩)
  replace hHeld := hHeld (un_of (by kernel_rfl))
  clear hK K
  try simp only [Act.put, List.setIfInBounds_toArray, List.set_cons_zero, List.set_cons_succ]
  refine wpAnyK_pure (i := 44) (oi := { dst := some 57, op := Op.binOp BinOp.gtr 3 (Operand.tmp 56) (Operand.const (Value.int IntKind.i64 0)) 3, type := 4, pos := "step.go:38", after := #[{ on := 43, ground := Ground.data }], guard := none }) (v := ?va64) rfl (by kernel_rfl) (by kernel_rfl) (by kernel_rfl) (by kernel_rfl) (fun _ _ _ h => h) (Or.inl ⟨by rfl, ?ha64⟩) (fun _ => hHeld) ?ra64
  case ha64 => (intro wz _; go_simp <;> with_reducible rfl)
  try simp only [Act.put, List.setIfInBounds_toArray, List.set_cons_zero, List.set_cons_succ]
  refine wpAnyK_one (i := 52) (by kernel_rfl) (oneK (o := { dst := some 65, op := Op.call { callee := Callee.value (Operand.func 127), args := #[Operand.tmp 63, Operand.tmp 64], argTypes := #[61, 3] }, type := 4, pos := "step.go:45", after := #[{ on := 50, ground := Ground.data }, { on := 51, ground := Ground.data }, { on := 43, ground := Ground.chain }], guard := none }) rfl (fun K hK => ?_))
  go_simp
  refine (C52.out _ (h6.sm ?_)).mono ?_
  exact ⟨rfl, rfl, rfl, rfl⟩
  rintro e w7 ⟨rfl, h7⟩
  (try go_wp2_with fail)
  refine hK.out _ _ ?sa65 (fun hHeld => ?ta65)
  case sa65 => (intro _; exact ⟨h7.c14, h7.c12, h7.c1, h7.c9, h7.c5, h7.c8, h7.c4⟩)
  replace hHeld := hHeld (un_of (by kernel_rfl))
  clear hK K
  try simp only [Act.put, List.setIfInBounds_toArray, List.set_cons_zero, List.set_cons_succ]
  refine wpAnyK_one (i := 59) (by kernel_rfl) (oneK (o := { dst := some 72, op := Op.call { callee := Callee.value (Operand.func 67), args := #[Operand.tmp 70, Operand.tmp 71], argTypes := #[67, 3] }, type := 3, pos := "step.go:46", after := #[{ on := 57, ground := Ground.data }, { on := 58, ground := Ground.data }, { on := 52, ground := Ground.chain }], guard := none }) rfl (fun K hK => ?_))
  go_simp
  refine (C59.out _ (h7.sm ?_)).mono ?_
  exact ⟨rfl, rfl, rfl, rfl⟩
  rintro e w8 ⟨rfl, h8⟩
  (try go_wp2_with fail)
  refine hK.out _ _ ?sa66 (fun hHeld => ?ta66)
  case sa66 => (intro _; exact ⟨h8.c14, h8.c12, h8.c1, h8.c9, h8.c5, h8.c8, h8.c4⟩)
  replace hHeld := hHeld (un_of (by kernel_rfl))
  clear hK K
  try simp only [Act.put, List.setIfInBounds_toArray, List.set_cons_zero, List.set_cons_succ]
  refine wpAnyK_pure (i := 60) (oi := { dst := some 73, op := Op.binOp BinOp.gtr 3 (Operand.tmp 72) (Operand.const (Value.int IntKind.i64 0)) 3, type := 4, pos := "step.go:38", after := #[{ on := 59, ground := Ground.data }], guard := none }) (v := ?va67) rfl (by kernel_rfl) (by kernel_rfl) (by kernel_rfl) (by kernel_rfl) (fun _ _ _ h => h) (Or.inl ⟨by rfl, ?ha67⟩) (fun _ => hHeld) ?ra67
  case ha67 => (intro wz _; go_simp <;> with_reducible rfl)
  try simp only [Act.put, List.setIfInBounds_toArray, List.set_cons_zero, List.set_cons_succ]
  refine wpAnyK_pure (i := 61) (oi := { dst := some 74, op := Op.move (Operand.tmp 73), type := 4, pos := "step.go:38", after := #[{ on := 60, ground := Ground.data }, { on := 59, ground := Ground.chain }], guard := none }) (v := ?va68) rfl (by kernel_rfl) (by kernel_rfl) (by kernel_rfl) (by kernel_rfl) (fun _ _ _ h => h) (Or.inl ⟨by rfl, ?ha68⟩) (fun _ => hHeld) ?ra68
  case ha68 => (intro wz _; go_simp <;> with_reducible rfl)
  try simp only [Act.put, List.setIfInBounds_toArray, List.set_cons_zero, List.set_cons_succ]
  refine wpAnyK_pure (i := 62) (oi := { dst := some 75, op := Op.move (Operand.tmp 0), type := 23, pos := "step.go:38", after := #[{ on := 61, ground := Ground.guard }], guard := some (61, false) }) (v := ?va69) rfl (by kernel_rfl) (by kernel_rfl) (by kernel_rfl) (by kernel_rfl) (fun _ _ _ h => h) (Or.inl ⟨by rfl, ?ha69⟩) (fun _ => hHeld) ?ra69
  case ha69 => (intro wz _; go_simp <;> with_reducible rfl)
  try simp only [Act.put, List.setIfInBounds_toArray, List.set_cons_zero, List.set_cons_succ]
  refine wpAnyK_pure (i := 63) (oi := { dst := some 76, op := Op.nilCheck (Operand.tmp 75), type := 0, pos := "step.go:38", after := #[{ on := 62, ground := Ground.data }, { on := 61, ground := Ground.guard }], guard := some (61, false) }) (v := ?va70) rfl (by kernel_rfl) (by kernel_rfl) (by kernel_rfl) (by kernel_rfl) (fun _ _ _ h => h) (Or.inl ⟨by rfl, ?ha70⟩) (fun _ => hHeld) ?ra70
  case ha70 => (intro wz _; go_simp <;> with_reducible rfl)
  try simp only [Act.put, List.setIfInBounds_toArray, List.set_cons_zero, List.set_cons_succ]
  refine wpAnyK_pure (i := 64) (oi := { dst := some 77, op := Op.fieldAddr 86 (Operand.tmp 76) 0, type := 0, pos := "step.go:38", after := #[{ on := 63, ground := Ground.data }, { on := 61, ground := Ground.guard }], guard := some (61, false) }) (v := ?va71) rfl (by kernel_rfl) (by kernel_rfl) (by kernel_rfl) (by kernel_rfl) (fun _ _ _ h => h) (Or.inl ⟨by rfl, ?ha71⟩) (fun _ => hHeld) ?ra71
  case ha71 => (intro wz _; go_simp <;> with_reducible rfl)
  try simp only [Act.put, List.setIfInBounds_toArray, List.set_cons_zero, List.set_cons_succ]
  refine wpAnyK_pure (i := 65) (oi := { dst := some 78, op := Op.fieldAddr 84 (Operand.tmp 77) 8, type := 0, pos := "step.go:38", after := #[{ on := 64, ground := Ground.data }, { on := 61, ground := Ground.guard }], guard := some (61, false) }) (v := ?va72) rfl (by kernel_rfl) (by kernel_rfl) (by kernel_rfl) (by kernel_rfl) (fun _ _ _ h => h) (Or.inl ⟨by rfl, ?ha72⟩) (fun _ => hHeld) ?ra72
  case ha72 => (intro wz _; go_simp <;> with_reducible rfl)
  try simp only [Act.put, List.setIfInBounds_toArray, List.set_cons_zero, List.set_cons_succ]
  refine wpAnyK_take (i := 66) (oi := { dst := some 79, op := Op.load 67 (Operand.tmp 78), type := 67, pos := "step.go:38", after := #[{ on := 65, ground := Ground.data }, { on := 61, ground := Ground.guard }], guard := some (61, false) }) (v := ?va73) rfl (by kernel_rfl) (by kernel_rfl) (by kernel_rfl) (by kernel_rfl) (by kernel_rfl) (fun _ _ _ h => h) (Or.inl ⟨by rfl, ?ha73⟩) hHeld ?ra73
  case ha73 => (intro wz hSw; (try dsimp only at hSw); go_simp <;> with_reducible rfl)
  try simp only [Act.put, List.setIfInBounds_toArray, List.set_cons_zero, List.set_cons_succ]
  refine wpAnyK_one (i := 67) (by kernel_rfl) (oneK (o := { dst := some 80, op := Op.call { callee := Callee.value (Operand.func 67), args := #[Operand.tmp 79, Operand.const (Value.int IntKind.i64 (-1))], argTypes := #[67, 3] }, type := 3, pos := "step.go:46", after := #[{ on := 66, ground := Ground.data }, { on := 61, ground := Ground.chain }, { on := 61, ground := Ground.guard }], guard := some (61, false) }) rfl (fun K hK => ?_))
  go_simp
  refine (C67.out _ (h8.sm ?_)).mono ?_
  exact ⟨rfl, rfl, rfl, rfl⟩
  rintro e w9 ⟨rfl, h9⟩
  (try go_wp2_with fail)
  refine hK.out _ _ ?sa74 (fun hHeld => ?ta74)
  case sa74 => (intro _; exact ⟨h9.c14, h9.c12, h9.c1, h9.c9, h9.c5, h9.c8, h9.c4⟩)
  replace hHeld := hHeld (un_of (by kernel_rfl))
  clear hK K
  try simp only [Act.put, List.setIfInBounds_toArray, List.set_cons_zero, List.set_cons_succ]
  refine wpAnyK_pure (i := 68) (oi := { dst := some 81, op := Op.binOp BinOp.gtr 3 (Operand.tmp 80) (Operand.const (Value.int IntKind.i64 0)) 3, type := 4, pos := "step.go:38", after := #[{ on := 67, ground := Ground.data }, { on := 61, ground := Ground.guard }], guard := some (61, false) }) (v := ?va75) rfl (by kernel_rfl) (by kernel_rfl) (by kernel_rfl) (by kernel_rfl) (fun _ _ _ h => h) (Or.inl ⟨by rfl, ?ha75⟩) (fun _ => hHeld) ?ra75
  case ha75 => (intro wz _; go_simp <;> with_reducible rfl)
  try simp only [Act.put, List.setIfInBounds_toArray, List.set_cons_zero, List.set_cons_succ]
  refine wpAnyK_pure (i := 69) (oi := { dst := some 82, op := Op.pick (Operand.tmp 74) (Operand.const (Value.bool true)) (Operand.tmp 81), type := 4, pos := "step.go:38", after := #[{ on := 61, ground := Ground.data }, { on := 68, ground := Ground.data }], guard := none }) (v := ?va76) rfl (by kernel_rfl) (by kernel_rfl) (by kernel_rfl) (by kernel_rfl) (fun _ _ _ h => h) (Or.inl ⟨by rfl, ?ha76⟩) (fun _ => hHeld) ?ra76
  case ha76 => (intro wz _; go_simp <;> with_reducible rfl)
  try simp only [Act.put, List.setIfInBounds_toArray, List.set_cons_zero, List.set_cons_succ]
  refine wpAnyK_one (i := 76) (by kernel_rfl) (oneK (o := { dst := some 89, op := Op.call { callee := Callee.value (Operand.func 65), args := #[Operand.tmp 87, Operand.tmp 88], argTypes := #[59, 3] }, type := 3, pos := "step.go:47", after := #[{ on := 74, ground := Ground.data }, { on := 75, ground := Ground.data }, { on := 67, ground := Ground.chain }], guard := none }) rfl (fun K hK => ?_))
  go_simp
  refine (C76.out _ (h9.sm ?_)).mono ?_
  exact ⟨rfl, rfl, rfl, rfl⟩
  rintro e w10 ⟨rfl, h10⟩
  have fz : ∀ j, w10.frozen? ⟨w.heap.size, j, none⟩ = false := fun j => h10.blk.free j
  have x0 : w10.cell? ⟨w.heap.size, 0, none⟩ = some (.bool false) := h10.blk.cell 0
  have x1 : w10.cell? ⟨w.heap.size, 1, none⟩ = some (.bool false) := h10.blk.cell 1
  have x2 : w10.cell? ⟨w.heap.size, 2, none⟩ = some (.bool false) := h10.blk.cell 2
  have x3 : w10.cell? ⟨w.heap.size, 3, none⟩ = some (.bool false) := h10.blk.cell 3
  have x4 : w10.cell? ⟨w.heap.size, 4, none⟩ = some (.bool false) := h10.blk.cell 4
  have x5 : w10.cell? ⟨w.heap.size, 5, none⟩ = some (.bool false) := h10.blk.cell 5
  have x6 : w10.cell? ⟨w.heap.size, 6, none⟩ = some (.bool false) := h10.blk.cell 6
  have x7 : w10.cell? ⟨w.heap.size, 7, none⟩ = some (.bool false) := h10.blk.cell 7
  have x8 : w10.cell? ⟨w.heap.size, 8, none⟩ = some (.bool false) := h10.blk.cell 8
  (try go_wp2_with fail)
  refine hK.out _ _ ?sa77 (fun hHeld => ?ta77)
  case sa77 => (intro _; exact ⟨h10.c14, h10.c12, h10.c1, h10.c9, h10.c5, h10.c8, h10.c4⟩)
  replace hHeld := hHeld (un_of (by kernel_rfl))
  clear hK K
  try simp only [Act.put, List.setIfInBounds_toArray, List.set_cons_zero, List.set_cons_succ]
  refine wpAnyK_pure (i := 77) (oi := { dst := some 90, op := Op.binOp BinOp.gtr 3 (Operand.tmp 89) (Operand.const (Value.int IntKind.i64 0)) 3, type := 4, pos := "step.go:38", after := #[{ on := 76, ground := Ground.data }], guard := none }) (v := ?va78) rfl (by kernel_rfl) (by kernel_rfl) (by kernel_rfl) (by kernel_rfl) (fun _ _ _ h => h) (Or.inl ⟨by rfl, ?ha78⟩) (fun _ => hHeld) ?ra78
  case ha78 => (intro wz _; go_simp <;> with_reducible rfl)
  try simp only [Act.put, List.setIfInBounds_toArray, List.set_cons_zero, List.set_cons_succ]
  refine wpAnyK_pure (i := 78) (oi := { dst := some 91, op := Op.build 208 #[(0, Operand.tmp 19), (1, Operand.tmp 26), (2, Operand.tmp 42), (3, Operand.tmp 49), (4, Operand.tmp 57), (5, Operand.tmp 58), (6, Operand.tmp 65), (7, Operand.tmp 82), (8, Operand.tmp 90)], type := 208, pos := "step.go:38", after := #[{ on := 6, ground := Ground.data }, { on := 13, ground := Ground.data }, { on := 29, ground := Ground.data }, { on := 36, ground := Ground.data }, { on := 44, ground := Ground.data }, { on := 45, ground := Ground.data }, { on := 52, ground := Ground.data }, { on := 69, ground := Ground.data }, { on := 77, ground := Ground.data }], guard := none }) (v := ?va79) rfl (by kernel_rfl) (by kernel_rfl) (by kernel_rfl) (by kernel_rfl) (fun _ _ _ h => h) (Or.inl ⟨by rfl, ?ha79⟩) (fun _ => hHeld) ?ra79
  case ha79 => (intro wz _; go_simp <;> with_reducible rfl)
  try simp only [Act.put, List.setIfInBounds_toArray, List.set_cons_zero, List.set_cons_succ]
  refine wpAnyK_one (i := 79) (by kernel_rfl) (oneK (o := { dst := none, op := Op.store 208 (Operand.tmp 4) (Operand.tmp 91), type := 0, pos := "step.go:38", after := #[{ on := 78, ground := Ground.data }, { on := 76, ground := Ground.chain }, { on := 0, ground := Ground.phase }, { on := 1, ground := Ground.phase }, { on := 2, ground := Ground.phase }, { on := 3, ground := Ground.phase }, { on := 4, ground := Ground.phase }, { on := 5, ground := Ground.phase }, { on := 6, ground := Ground.phase }, { on := 7, ground := Ground.phase }, { on := 8, ground := Ground.phase }, { on := 9, ground := Ground.phase }, { on := 10, ground := Ground.phase }, { on := 11, ground := Ground.phase }, { on := 12, ground := Ground.phase }, { on := 13, ground := Ground.phase }, { on := 14, ground := Ground.phase }, { on := 15, ground := Ground.phase }, { on := 16, ground := Ground.phase }, { on := 17, ground := Ground.phase }, { on := 18, ground := Ground.phase }, { on := 19, ground := Ground.phase }, { on := 20, ground := Ground.phase }, { on := 21, ground := Ground.phase }, { on := 22, ground := Ground.phase }, { on := 23, ground := Ground.phase }, { on := 24, ground := Ground.phase }, { on := 25, ground := Ground.phase }, { on := 26, ground := Ground.phase }, { on := 27, ground := Ground.phase }, { on := 28, ground := Ground.phase }, { on := 29, ground := Ground.phase }, { on := 30, ground := Ground.phase }, { on := 31, ground := Ground.phase }, { on := 32, ground := Ground.phase }, { on := 33, ground := Ground.phase }, { on := 34, ground := Ground.phase }, { on := 35, ground := Ground.phase }, { on := 36, ground := Ground.phase }, { on := 37, ground := Ground.phase }, { on := 38, ground := Ground.phase }, { on := 39, ground := Ground.phase }, { on := 40, ground := Ground.phase }, { on := 41, ground := Ground.phase }, { on := 42, ground := Ground.phase }, { on := 43, ground := Ground.phase }, { on := 44, ground := Ground.phase }, { on := 45, ground := Ground.phase }, { on := 46, ground := Ground.phase }, { on := 47, ground := Ground.phase }, { on := 48, ground := Ground.phase }, { on := 49, ground := Ground.phase }, { on := 50, ground := Ground.phase }, { on := 51, ground := Ground.phase }, { on := 52, ground := Ground.phase }, { on := 53, ground := Ground.phase }, { on := 54, ground := Ground.phase }, { on := 55, ground := Ground.phase }, { on := 56, ground := Ground.phase }, { on := 57, ground := Ground.phase }, { on := 58, ground := Ground.phase }, { on := 59, ground := Ground.phase }, { on := 60, ground := Ground.phase }, { on := 61, ground := Ground.phase }, { on := 62, ground := Ground.phase }, { on := 63, ground := Ground.phase }, { on := 64, ground := Ground.phase }, { on := 65, ground := Ground.phase }, { on := 66, ground := Ground.phase }, { on := 67, ground := Ground.phase }, { on := 68, ground := Ground.phase }, { on := 69, ground := Ground.phase }, { on := 70, ground := Ground.phase }, { on := 71, ground := Ground.phase }, { on := 72, ground := Ground.phase }, { on := 73, ground := Ground.phase }, { on := 74, ground := Ground.phase }, { on := 75, ground := Ground.phase }, { on := 76, ground := Ground.phase }, { on := 77, ground := Ground.phase }, { on := 78, ground := Ground.phase }], guard := none }) rfl (fun K hK => ?_))
  go_simp
  (try go_wp2_with fail)
  refine hK.out _ _ ?sa80 (fun hHeld => ?ta80)
  case sa80 => (intro hU; exact absurd hU (un_not (by kernel_rfl)))
  clear hHeld hK K
  try simp only [Act.put, List.setIfInBounds_toArray, List.set_cons_zero, List.set_cons_succ]
  refine wpAnyK_done (by kernel_rfl) ?_ _
  go_wp2
  have H := (((((((((h10.setb ne (Nat.le_trans h.sz (Nat.le_refl _)) 0 (.bool b0)).setb ne (Nat.le_trans h.sz (Nat.le_refl _)) 1 (.bool b1)).setb ne (Nat.le_trans h.sz (Nat.le_refl _)) 2 (.bool false)).setb ne (Nat.le_trans h.sz (Nat.le_refl _)) 3 (.bool b3)).setb ne (Nat.le_trans h.sz (Nat.le_refl _)) 4 (.bool b4)).setb ne (Nat.le_trans h.sz (Nat.le_refl _)) 5 (.bool b5)).setb ne (Nat.le_trans h.sz (Nat.le_refl _)) 6 (.bool b6)).setb ne (Nat.le_trans h.sz (Nat.le_refl _)) 7 (.bool b7)).setb ne (Nat.le_trans h.sz (Nat.le_refl _)) 8 (.bool b8))
  exact bodyPost_ret (flg_ret (x := ⟨b0, b1, false, b3, b4, b5, b6, b7, b8⟩) H.blk rfl) rfl ⟨rfl, H.drop⟩
end
end Go.Proofs.YtmkboahjkhkefaaGreatDoor.Krn
