/- audit.Of of a new kernel of two cores and of nil; davitlaw35's fixed calls hold. -/
import Derived.Test.YtfdmcbcomknebaaGreatDoorRows
import Derived.Test.YtfdmcbcomknebaaGreatDoorAuE
import Derived.Test.YtfdmcbcomknebaaGreatDoorAuC
import Derived.WalkKit
import Derived.ProofKit
import Derived.OpenShut
import Derived.BigQuiet
import Derived.BigGuard
import Derived.Carry
import Derived.Deep.RegionHeld3
namespace Go.Proofs.YtfdmcbcomknebaaGreatDoor.Aud
open Go.ChangeShapes Go.WideShapes Go.ChangeAt Go.RowKit
open Mm Krn
set_option linter.unusedVariables false

theorem of_ret {z : Nat} {cs : List Value} {e : Int} {w : World} {tmps : Array Value} (h : Blk w z cs 33) (hl : cs.length = 15) (h2 : tmps.getD 2 undef = .pointer (some ⟨z, 0, none⟩)) (h3 : tmps.getD 3 undef = .int .i64 e) :
    (results Tryz.f12 tmps).run Tryz.prog w = .ok (.tuple #[.agg cs.toArray, .int .i64 e]) w := by
  rw [results_cell_tmp (p := 2) (u := 3) (ty := 33) rfl, h2, h3]
  obtain ⟨x0, x1, x2, x3, x4, x5, x6, x7, x8, x9, x10, x11, x12, x13, x14, rfl⟩ : ∃ x0 x1 x2 x3 x4 x5 x6 x7 x8 x9 x10 x11 x12 x13 x14, cs = [x0, x1, x2, x3, x4, x5, x6, x7, x8, x9, x10, x11, x12, x13, x14] := by
    match cs, hl with
    | [x0, x1, x2, x3, x4, x5, x6, x7, x8, x9, x10, x11, x12, x13, x14], _ => exact ⟨_, _, _, _, _, _, _, _, _, _, _, _, _, _, _, rfl⟩
  have q0 : w.cell? ⟨z, 0, none⟩ = some x0 := h.cell 0
  have q1 : w.cell? ⟨z, 1, none⟩ = some x1 := h.cell 1
  have q2 : w.cell? ⟨z, 2, none⟩ = some x2 := h.cell 2
  have q3 : w.cell? ⟨z, 3, none⟩ = some x3 := h.cell 3
  have q4 : w.cell? ⟨z, 4, none⟩ = some x4 := h.cell 4
  have q5 : w.cell? ⟨z, 5, none⟩ = some x5 := h.cell 5
  have q6 : w.cell? ⟨z, 6, none⟩ = some x6 := h.cell 6
  have q7 : w.cell? ⟨z, 7, none⟩ = some x7 := h.cell 7
  have q8 : w.cell? ⟨z, 8, none⟩ = some x8 := h.cell 8
  have q9 : w.cell? ⟨z, 9, none⟩ = some x9 := h.cell 9
  have q10 : w.cell? ⟨z, 10, none⟩ = some x10 := h.cell 10
  have q11 : w.cell? ⟨z, 11, none⟩ = some x11 := h.cell 11
  have q12 : w.cell? ⟨z, 12, none⟩ = some x12 := h.cell 12
  have q13 : w.cell? ⟨z, 13, none⟩ = some x13 := h.cell 13
  have q14 : w.cell? ⟨z, 14, none⟩ = some x14 := h.cell 14
  simp [go_sem, q0, q1, q2, q3, q4, q5, q6, q7, q8, q9, q10, q11, q12, q13, q14]
set_option maxRecDepth 100000 in
set_option maxHeartbeats 2000000 in
theorem of_new {B : Nat} {w0 : World} {a : KA} {m : Nat} {w : World} (h : KX B w0 [] a m (new 2) w) (n2 : a.n = 2) :
    Calls Tryz.prog 12 #[.pointer (some ⟨a.k, 0, none⟩)] w fun e w' => e = .returned (.tuple #[.agg #[.int .i64 2, .int .u64 3, .int .u64 3, .int .u64 3, .slice none 0 0, .slice none 0 0, .slice none 0 0, .slice none 0 0, .slice none 0 0, .slice none 0 0, .slice none 0 0, .bool false, .bool false, .int .i64 0, .int .i64 0], .int .i64 0]) ∧ Below B w0 w' := by
  have K0 : Hid (KX B w0 [(w.heap.size, [.int .i64 0, .int .u64 0, .int .u64 0, .int .u64 0, .slice none 0 0, .slice none 0 0, .slice none 0 0, .slice none 0 0, .slice none 0 0, .slice none 0 0, .slice none 0 0, .bool false, .bool false, .int .i64 0, .int .i64 0], 33)] a m (new 2) (w.alloc (.cells #[.int .i64 0, .int .u64 0, .int .u64 0, .int .u64 0, .slice none 0 0, .slice none 0 0, .slice none 0 0, .slice none 0 0, .slice none 0 0, .slice none 0 0, .slice none 0 0, .bool false, .bool false, .int .i64 0, .int .i64 0] 33))) := h.new [.int .i64 0, .int .u64 0, .int .u64 0, .int .u64 0, .slice none 0 0, .slice none 0 0, .slice none 0 0, .slice none 0 0, .slice none 0 0, .slice none 0 0, .slice none 0 0, .bool false, .bool false, .int .i64 0, .int .i64 0] 33
  have HB : Hid (B ≤ w.heap.size) := h.sz
  have C_k_Cpus : Hid (∀ u, KX B w0 [(w.heap.size, [.int .i64 0, .int .u64 0, .int .u64 0, .int .u64 0, .slice none 0 0, .slice none 0 0, .slice none 0 0, .slice none 0 0, .slice none 0 0, .slice none 0 0, .slice none 0 0, .bool false, .bool false, .int .i64 0, .int .i64 0], 33)] a m (new 2) u → Calls Tryz.prog 43 _ u _) := fun u k => k_Cpus k
  rw [n2] at C_k_Cpus
  have C_k_Online : Hid (∀ u, KX B w0 [(w.heap.size, [.int .i64 0, .int .u64 0, .int .u64 0, .int .u64 0, .slice none 0 0, .slice none 0 0, .slice none 0 0, .slice none 0 0, .slice none 0 0, .slice none 0 0, .slice none 0 0, .bool false, .bool false, .int .i64 0, .int .i64 0], 33)] a m (new 2) u → _) := fun u k => k_Online k
  rw [show ((new 2).on : Int) = 3 from rfl] at C_k_Online
  have C_k_Active : Hid (∀ u, KX B w0 [(w.heap.size, [.int .i64 0, .int .u64 0, .int .u64 0, .int .u64 0, .slice none 0 0, .slice none 0 0, .slice none 0 0, .slice none 0 0, .slice none 0 0, .slice none 0 0, .slice none 0 0, .bool false, .bool false, .int .i64 0, .int .i64 0], 33)] a m (new 2) u → _) := fun u k => k_Active k
  rw [show ((new 2).ac : Int) = 3 from rfl] at C_k_Active
  have C_power_new : Hid (∀ u, KX B w0 [(w.heap.size, [.int .i64 0, .int .u64 0, .int .u64 0, .int .u64 0, .slice none 0 0, .slice none 0 0, .slice none 0 0, .slice none 0 0, .slice none 0 0, .slice none 0 0, .slice none 0 0, .bool false, .bool false, .int .i64 0, .int .i64 0], 33)] a m (new 2) u → _) := fun u k => power_new k n2
  have C_threads_new : Hid (∀ u, KX B w0 [(w.heap.size, [.int .i64 0, .int .u64 0, .int .u64 0, .int .u64 0, .slice none 0 0, .slice none 0 0, .slice none 0 0, .slice none 0 0, .slice none 0 0, .slice none 0 0, .slice none 0 0, .bool false, .bool false, .int .i64 0, .int .i64 0], 33)] a m (new 2) u → _) := fun u k => threads_new k
  have C_k_Queues : Hid (∀ u, KX B w0 [(w.heap.size, [.int .i64 0, .int .u64 0, .int .u64 0, .int .u64 0, .slice none 0 0, .slice none 0 0, .slice none 0 0, .slice none 0 0, .slice none 0 0, .slice none 0 0, .slice none 0 0, .bool false, .bool false, .int .i64 0, .int .i64 0], 33)] a m (new 2) u → _) := fun u k => k_Queues k
  have C_pl_q : Hid (∀ u, KX B w0 [(w.heap.size, [.int .i64 0, .int .u64 0, .int .u64 0, .int .u64 0, .slice none 0 0, .slice none 0 0, .slice none 0 0, .slice none 0 0, .slice none 0 0, .slice none 0 0, .slice none 0 0, .bool false, .bool false, .int .i64 0, .int .i64 0], 33)] a m (new 2) u → _) := fun u k => pl_q n2 k
  have C_timers_new : Hid (∀ u, KX B w0 [(w.heap.size, [.int .i64 0, .int .u64 0, .int .u64 0, .int .u64 0, .slice none 0 0, .slice none 0 0, .slice none 0 0, .slice none 0 0, .slice none 0 0, .slice none 0 0, .slice none 0 0, .bool false, .bool false, .int .i64 0, .int .i64 0], 33)] a m (new 2) u → _) := fun u k => timers_new n2 k
  have C_irqs_new : Hid (∀ u, KX B w0 [(w.heap.size, [.int .i64 0, .int .u64 0, .int .u64 0, .int .u64 0, .slice none 0 0, .slice none 0 0, .slice none 0 0, .slice none 0 0, .slice none 0 0, .slice none 0 0, .slice none 0 0, .bool false, .bool false, .int .i64 0, .int .i64 0], 33)] a m (new 2) u → _) := fun u k => irqs_new k
  have C_k_Works : Hid (∀ u, KX B w0 [(w.heap.size, [.int .i64 0, .int .u64 0, .int .u64 0, .int .u64 0, .slice none 0 0, .slice none 0 0, .slice none 0 0, .slice none 0 0, .slice none 0 0, .slice none 0 0, .slice none 0 0, .bool false, .bool false, .int .i64 0, .int .i64 0], 33)] a m (new 2) u → _) := fun u k => k_Works k
  have C_pl_w : Hid (∀ u, KX B w0 [(w.heap.size, [.int .i64 0, .int .u64 0, .int .u64 0, .int .u64 0, .slice none 0 0, .slice none 0 0, .slice none 0 0, .slice none 0 0, .slice none 0 0, .slice none 0 0, .slice none 0 0, .bool false, .bool false, .int .i64 0, .int .i64 0], 33)] a m (new 2) u → _) := fun u k => pl_w n2 k
  have C_k_Calls : Hid (∀ u, KX B w0 [(w.heap.size, [.int .i64 0, .int .u64 0, .int .u64 0, .int .u64 0, .slice none 0 0, .slice none 0 0, .slice none 0 0, .slice none 0 0, .slice none 0 0, .slice none 0 0, .slice none 0 0, .bool false, .bool false, .int .i64 0, .int .i64 0], 33)] a m (new 2) u → _) := fun u k => k_Calls k
  have C_pl_c : Hid (∀ u, KX B w0 [(w.heap.size, [.int .i64 0, .int .u64 0, .int .u64 0, .int .u64 0, .slice none 0 0, .slice none 0 0, .slice none 0 0, .slice none 0 0, .slice none 0 0, .slice none 0 0, .slice none 0 0, .bool false, .bool false, .int .i64 0, .int .i64 0], 33)] a m (new 2) u → _) := fun u k => pl_c k
  have C_k_Objects : Hid (∀ u, KX B w0 [(w.heap.size, [.int .i64 0, .int .u64 0, .int .u64 0, .int .u64 0, .slice none 0 0, .slice none 0 0, .slice none 0 0, .slice none 0 0, .slice none 0 0, .slice none 0 0, .slice none 0 0, .bool false, .bool false, .int .i64 0, .int .i64 0], 33)] a m (new 2) u → _) := fun u k => k_Objects k
  have C_pl_k : Hid (∀ u, KX B w0 [(w.heap.size, [.int .i64 0, .int .u64 0, .int .u64 0, .int .u64 0, .slice none 0 0, .slice none 0 0, .slice none 0 0, .slice none 0 0, .slice none 0 0, .slice none 0 0, .slice none 0 0, .bool false, .bool false, .int .i64 0, .int .i64 0], 33)] a m (new 2) u → _) := fun u k => pl_k n2 k
  have C_k_Desk : Hid (∀ u, KX B w0 [(w.heap.size, [.int .i64 0, .int .u64 0, .int .u64 0, .int .u64 0, .slice none 0 0, .slice none 0 0, .slice none 0 0, .slice none 0 0, .slice none 0 0, .slice none 0 0, .slice none 0 0, .bool false, .bool false, .int .i64 0, .int .i64 0], 33)] a m (new 2) u → _) := fun u k => k_Desk k
  have C_dk_busy : Hid (∀ u, KX B w0 [(w.heap.size, [.int .i64 0, .int .u64 0, .int .u64 0, .int .u64 0, .slice none 0 0, .slice none 0 0, .slice none 0 0, .slice none 0 0, .slice none 0 0, .slice none 0 0, .slice none 0 0, .bool false, .bool false, .int .i64 0, .int .i64 0], 33)] a m (new 2) u → _) := fun u k => dk_busy k
  rw [show (new 2).R.isSome = false from rfl] at C_dk_busy
  have C_dk_up : Hid (∀ u, KX B w0 [(w.heap.size, [.int .i64 0, .int .u64 0, .int .u64 0, .int .u64 0, .slice none 0 0, .slice none 0 0, .slice none 0 0, .slice none 0 0, .slice none 0 0, .slice none 0 0, .slice none 0 0, .bool false, .bool false, .int .i64 0, .int .i64 0], 33)] a m (new 2) u → _) := fun u k => dk_up k
  rw [show Hp.ups (new 2).R = false from rfl] at C_dk_up
  have C_dk_cpu : Hid (∀ u, KX B w0 [(w.heap.size, [.int .i64 0, .int .u64 0, .int .u64 0, .int .u64 0, .slice none 0 0, .slice none 0 0, .slice none 0 0, .slice none 0 0, .slice none 0 0, .slice none 0 0, .slice none 0 0, .bool false, .bool false, .int .i64 0, .int .i64 0], 33)] a m (new 2) u → _) := fun u k => dk_cpu k
  rw [show Hp.cps (new 2).R = 0 from rfl] at C_dk_cpu
  have C_dk_by : Hid (∀ u, KX B w0 [(w.heap.size, [.int .i64 0, .int .u64 0, .int .u64 0, .int .u64 0, .slice none 0 0, .slice none 0 0, .slice none 0 0, .slice none 0 0, .slice none 0 0, .slice none 0 0, .slice none 0 0, .bool false, .bool false, .int .i64 0, .int .i64 0], 33)] a m (new 2) u → _) := fun u k => dk_by k
  rw [show Hp.cos (new 2).R = 0 from rfl] at C_dk_by
  have hmf := run_mkf Tryz.prog
  clear h
  go_enter Tryz.func12, Tryz.ntmps12
  go_wp2_with fail
  refine (C_k_Cpus.out _ K0.out).mono ?_
  rintro e w' ⟨rfl, rfl⟩
  go_wp2_with fail
  refine (C_k_Online.out _ K0.out).mono ?_
  rintro e w' ⟨rfl, rfl⟩
  go_wp2_with fail
  refine (C_k_Active.out _ K0.out).mono ?_
  rintro e w' ⟨rfl, rfl⟩
  go_wp2_with fail
  refine (C_power_new.out _ K0.out).mono ?_
  rintro e x1 ⟨rfl, k1⟩
  have K1 : Hid (KX B w0 [(w.heap.size, [.int .i64 0, .int .u64 0, .int .u64 0, .int .u64 0, .slice none 0 0, .slice none 0 0, .slice none 0 0, .slice none 0 0, .slice none 0 0, .slice none 0 0, .slice none 0 0, .bool false, .bool false, .int .i64 0, .int .i64 0], 33)] a m (new 2) x1) := k1
  clear k1
  go_wp2_with fail
  refine (C_threads_new.out _ K1.out).mono ?_
  rintro e x2 ⟨rfl, k2⟩
  have K2 : Hid (KX B w0 [(w.heap.size, [.int .i64 0, .int .u64 0, .int .u64 0, .int .u64 0, .slice none 0 0, .slice none 0 0, .slice none 0 0, .slice none 0 0, .slice none 0 0, .slice none 0 0, .slice none 0 0, .bool false, .bool false, .int .i64 0, .int .i64 0], 33)] a m (new 2) x2) := k2
  clear k2
  go_wp2_with fail
  refine (C_k_Queues.out _ K2.out).mono ?_
  rintro e w' ⟨rfl, rfl⟩
  go_wp2_with fail
  refine (C_pl_q.out _ K2.out).mono ?_
  rintro e x3 ⟨rfl, k3⟩
  have K3 : Hid (KX B w0 [(w.heap.size, [.int .i64 0, .int .u64 0, .int .u64 0, .int .u64 0, .slice none 0 0, .slice none 0 0, .slice none 0 0, .slice none 0 0, .slice none 0 0, .slice none 0 0, .slice none 0 0, .bool false, .bool false, .int .i64 0, .int .i64 0], 33)] a m (new 2) x3) := k3
  clear k3
  go_wp2_with fail
  refine (C_timers_new.out _ K3.out).mono ?_
  rintro e x4 ⟨rfl, k4⟩
  have K4 : Hid (KX B w0 [(w.heap.size, [.int .i64 0, .int .u64 0, .int .u64 0, .int .u64 0, .slice none 0 0, .slice none 0 0, .slice none 0 0, .slice none 0 0, .slice none 0 0, .slice none 0 0, .slice none 0 0, .bool false, .bool false, .int .i64 0, .int .i64 0], 33)] a m (new 2) x4) := k4
  clear k4
  go_wp2_with fail
  refine (C_irqs_new.out _ K4.out).mono ?_
  rintro e x5 ⟨rfl, k5⟩
  have K5 : Hid (KX B w0 [(w.heap.size, [.int .i64 0, .int .u64 0, .int .u64 0, .int .u64 0, .slice none 0 0, .slice none 0 0, .slice none 0 0, .slice none 0 0, .slice none 0 0, .slice none 0 0, .slice none 0 0, .bool false, .bool false, .int .i64 0, .int .i64 0], 33)] a m (new 2) x5) := k5
  clear k5
  go_wp2_with fail
  refine (C_k_Works.out _ K5.out).mono ?_
  rintro e w' ⟨rfl, rfl⟩
  go_wp2_with fail
  refine (C_pl_w.out _ K5.out).mono ?_
  rintro e x6 ⟨rfl, k6⟩
  have K6 : Hid (KX B w0 [(w.heap.size, [.int .i64 0, .int .u64 0, .int .u64 0, .int .u64 0, .slice none 0 0, .slice none 0 0, .slice none 0 0, .slice none 0 0, .slice none 0 0, .slice none 0 0, .slice none 0 0, .bool false, .bool false, .int .i64 0, .int .i64 0], 33)] a m (new 2) x6) := k6
  clear k6
  go_wp2_with fail
  refine (C_k_Calls.out _ K6.out).mono ?_
  rintro e w' ⟨rfl, rfl⟩
  go_wp2_with fail
  refine (C_pl_c.out _ K6.out).mono ?_
  rintro e x7 ⟨rfl, k7⟩
  have K7 : Hid (KX B w0 [(w.heap.size, [.int .i64 0, .int .u64 0, .int .u64 0, .int .u64 0, .slice none 0 0, .slice none 0 0, .slice none 0 0, .slice none 0 0, .slice none 0 0, .slice none 0 0, .slice none 0 0, .bool false, .bool false, .int .i64 0, .int .i64 0], 33)] a m (new 2) x7) := k7
  clear k7
  go_wp2_with fail
  refine (C_k_Objects.out _ K7.out).mono ?_
  rintro e w' ⟨rfl, rfl⟩
  go_wp2_with fail
  refine (C_pl_k.out _ K7.out).mono ?_
  rintro e x8 ⟨rfl, k8⟩
  have K8 : Hid (KX B w0 [(w.heap.size, [.int .i64 0, .int .u64 0, .int .u64 0, .int .u64 0, .slice none 0 0, .slice none 0 0, .slice none 0 0, .slice none 0 0, .slice none 0 0, .slice none 0 0, .slice none 0 0, .bool false, .bool false, .int .i64 0, .int .i64 0], 33)] a m (new 2) x8) := k8
  clear k8
  go_wp2_with fail
  refine (C_k_Desk.out _ K8.out).mono ?_
  rintro e w' ⟨rfl, rfl⟩
  go_wp2_with fail
  refine (C_dk_busy.out _ K8.out).mono ?_
  rintro e x9 ⟨rfl, k9⟩
  have K9 : Hid (KX B w0 [(w.heap.size, [.int .i64 0, .int .u64 0, .int .u64 0, .int .u64 0, .slice none 0 0, .slice none 0 0, .slice none 0 0, .slice none 0 0, .slice none 0 0, .slice none 0 0, .slice none 0 0, .bool false, .bool false, .int .i64 0, .int .i64 0], 33)] a m (new 2) x9) := k9
  clear k9
  go_wp2_with fail
  refine (C_k_Desk.out _ K9.out).mono ?_
  rintro e w' ⟨rfl, rfl⟩
  go_wp2_with fail
  refine (C_dk_up.out _ K9.out).mono ?_
  rintro e x10 ⟨rfl, k10⟩
  have K10 : Hid (KX B w0 [(w.heap.size, [.int .i64 0, .int .u64 0, .int .u64 0, .int .u64 0, .slice none 0 0, .slice none 0 0, .slice none 0 0, .slice none 0 0, .slice none 0 0, .slice none 0 0, .slice none 0 0, .bool false, .bool false, .int .i64 0, .int .i64 0], 33)] a m (new 2) x10) := k10
  clear k10
  go_wp2_with fail
  refine (C_k_Desk.out _ K10.out).mono ?_
  rintro e w' ⟨rfl, rfl⟩
  go_wp2_with fail
  refine (C_dk_cpu.out _ K10.out).mono ?_
  rintro e x11 ⟨rfl, k11⟩
  have K11 : Hid (KX B w0 [(w.heap.size, [.int .i64 0, .int .u64 0, .int .u64 0, .int .u64 0, .slice none 0 0, .slice none 0 0, .slice none 0 0, .slice none 0 0, .slice none 0 0, .slice none 0 0, .slice none 0 0, .bool false, .bool false, .int .i64 0, .int .i64 0], 33)] a m (new 2) x11) := k11
  clear k11
  go_wp2_with fail
  refine (C_k_Desk.out _ K11.out).mono ?_
  rintro e w' ⟨rfl, rfl⟩
  go_wp2_with fail
  refine (C_dk_by.out _ K11.out).mono ?_
  rintro e x12 ⟨rfl, k12⟩
  have K12 : Hid (KX B w0 [(w.heap.size, [.int .i64 0, .int .u64 0, .int .u64 0, .int .u64 0, .slice none 0 0, .slice none 0 0, .slice none 0 0, .slice none 0 0, .slice none 0 0, .slice none 0 0, .slice none 0 0, .bool false, .bool false, .int .i64 0, .int .i64 0], 33)] a m (new 2) x12) := k12
  clear k12
  have KB : Hid (Blk x12 w.heap.size [.int .i64 0, .int .u64 0, .int .u64 0, .int .u64 0, .slice none 0 0, .slice none 0 0, .slice none 0 0, .slice none 0 0, .slice none 0 0, .slice none 0 0, .slice none 0 0, .bool false, .bool false, .int .i64 0, .int .i64 0] 33) := K12.out.blk
  have KF : Hid (Blk (x12.setRow w.heap.size ([.int .i64 2, .int .u64 3, .int .u64 3, .int .u64 3, .slice none 0 0, .slice none 0 0, .slice none 0 0, .slice none 0 0, .slice none 0 0, .slice none 0 0, .slice none 0 0, .bool false, .bool false, .int .i64 0, .int .i64 0] : List Value).toArray) w.heap.size [.int .i64 2, .int .u64 3, .int .u64 3, .int .u64 3, .slice none 0 0, .slice none 0 0, .slice none 0 0, .slice none 0 0, .slice none 0 0, .slice none 0 0, .slice none 0 0, .bool false, .bool false, .int .i64 0, .int .i64 0] 33) := blk_row KB.out
  have BF : Hid (Below B w0 (x12.setRow w.heap.size ([.int .i64 2, .int .u64 3, .int .u64 3, .int .u64 3, .slice none 0 0, .slice none 0 0, .slice none 0 0, .slice none 0 0, .slice none 0 0, .slice none 0 0, .slice none 0 0, .bool false, .bool false, .int .i64 0, .int .i64 0] : List Value).toArray)) := K12.out.bel.trans (((fr_row (new := [.int .i64 2, .int .u64 3, .int .u64 3, .int .u64 3, .slice none 0 0, .slice none 0 0, .slice none 0 0, .slice none 0 0, .slice none 0 0, .slice none 0 0, .slice none 0 0, .bool false, .bool false, .int .i64 0, .int .i64 0]) KB.out).less (Nat.le_refl B)).below fun k hk => by rw [List.mem_singleton.1 hk]; exact HB.out)
  go_wp2_with (guard_target =~ wpList _ _ _ (Oper.mk none (Op.store _ _ _) _ _ _ _ :: _) _ _; refine wpList_store_row rfl 33 (.tmp 2) (.tmp 55) rfl w.heap.size _ rfl rfl 33 _ KB.out (by rw [infoPi]; rfl) rfl (by kernel_rfl) ?_)
  exact bodyPost_ret (of_ret KF.out rfl rfl rfl) rfl ⟨rfl, BF.out⟩
set_option maxRecDepth 100000 in
set_option maxHeartbeats 2000000 in
theorem of_nil (w : World) :
    Calls Tryz.prog 12 #[.pointer none] w fun e w' => e = .returned (.tuple #[.agg #[.int .i64 0, .int .u64 0, .int .u64 0, .int .u64 0, .slice none 0 0, .slice none 0 0, .slice none 0 0, .slice none 0 0, .slice none 0 0, .slice none 0 0, .slice none 0 0, .bool false, .bool false, .int .i64 0, .int .i64 0], .int .i64 1]) ∧ Below w.heap.size w w' := by
  have KB : Hid (Blk (w.alloc (.cells #[.int .i64 0, .int .u64 0, .int .u64 0, .int .u64 0, .slice none 0 0, .slice none 0 0, .slice none 0 0, .slice none 0 0, .slice none 0 0, .slice none 0 0, .slice none 0 0, .bool false, .bool false, .int .i64 0, .int .i64 0] 33)) w.heap.size [.int .i64 0, .int .u64 0, .int .u64 0, .int .u64 0, .slice none 0 0, .slice none 0 0, .slice none 0 0, .slice none 0 0, .slice none 0 0, .slice none 0 0, .slice none 0 0, .bool false, .bool false, .int .i64 0, .int .i64 0] 33) := Blk.new w _ _
  have KF : Hid (Blk ((w.alloc (.cells #[.int .i64 0, .int .u64 0, .int .u64 0, .int .u64 0, .slice none 0 0, .slice none 0 0, .slice none 0 0, .slice none 0 0, .slice none 0 0, .slice none 0 0, .slice none 0 0, .bool false, .bool false, .int .i64 0, .int .i64 0] 33)).setRow w.heap.size ([.int .i64 0, .int .u64 0, .int .u64 0, .int .u64 0, .slice none 0 0, .slice none 0 0, .slice none 0 0, .slice none 0 0, .slice none 0 0, .slice none 0 0, .slice none 0 0, .bool false, .bool false, .int .i64 0, .int .i64 0] : List Value).toArray) w.heap.size [.int .i64 0, .int .u64 0, .int .u64 0, .int .u64 0, .slice none 0 0, .slice none 0 0, .slice none 0 0, .slice none 0 0, .slice none 0 0, .slice none 0 0, .slice none 0 0, .bool false, .bool false, .int .i64 0, .int .i64 0] 33) := blk_row KB.out
  have BF : Hid (Below w.heap.size w ((w.alloc (.cells #[.int .i64 0, .int .u64 0, .int .u64 0, .int .u64 0, .slice none 0 0, .slice none 0 0, .slice none 0 0, .slice none 0 0, .slice none 0 0, .slice none 0 0, .slice none 0 0, .bool false, .bool false, .int .i64 0, .int .i64 0] 33)).setRow w.heap.size ([.int .i64 0, .int .u64 0, .int .u64 0, .int .u64 0, .slice none 0 0, .slice none 0 0, .slice none 0 0, .slice none 0 0, .slice none 0 0, .slice none 0 0, .slice none 0 0, .bool false, .bool false, .int .i64 0, .int .i64 0] : List Value).toArray)) := ((Below.refl _ _).alloc (Nat.le_refl _) _).trans (((fr_row (new := [.int .i64 0, .int .u64 0, .int .u64 0, .int .u64 0, .slice none 0 0, .slice none 0 0, .slice none 0 0, .slice none 0 0, .slice none 0 0, .slice none 0 0, .slice none 0 0, .bool false, .bool false, .int .i64 0, .int .i64 0]) KB.out).less (Nat.le_refl _)).below fun k hk => by rw [List.mem_singleton.1 hk]; exact Nat.le_refl _)
  go_enter Tryz.func12, Tryz.ntmps12
  go_wp2_with (guard_target =~ wpList _ _ _ (Oper.mk none (Op.store _ _ _) _ _ _ _ :: _) _ _; refine wpList_store_row rfl 33 (.tmp 2) (.tmp 7) rfl w.heap.size _ rfl rfl 33 _ KB.out (by rw [infoPi]; rfl) rfl (by kernel_rfl) ?_)
  exact bodyPost_ret (of_ret KF.out rfl rfl rfl) rfl ⟨rfl, BF.out⟩
def p0 : Pic := ⟨2, 3, 3, 3, [], [], [], [], [], [], [], false, false, 0, 0⟩
def p1 : Pic := ⟨0, 0, 0, 0, [], [], [], [], [], [], [], false, false, 0, 0⟩
theorem ck0 : ck p0 = 0 := by kernel_rfl
theorem ck1 : ck p1 = 1 := by kernel_rfl
theorem ce0 : ce p0 = 0 := by kernel_rfl
theorem ce1 : ce p1 = 6 := by kernel_rfl
theorem ln (w : World) : LRow tr w (.slice none 0 0) [] := Or.inl ⟨rfl, none, 0, rfl⟩
theorem okn : Okl [] := fun x hx => by simp at hx
theorem pv0 (w : World) : PV w p0 (.slice none 0 0) (.slice none 0 0) (.slice none 0 0) (.slice none 0 0) (.slice none 0 0) (.slice none 0 0) (.slice none 0 0) := ⟨ln w, ln w, ln w, ln w, ln w, ln w, ln w, okn, okn, okn, okn, okn, okn, okn, by decide, by decide, by decide, rfl, rfl, rfl⟩
theorem pv1 (w : World) : PV w p1 (.slice none 0 0) (.slice none 0 0) (.slice none 0 0) (.slice none 0 0) (.slice none 0 0) (.slice none 0 0) (.slice none 0 0) := ⟨ln w, ln w, ln w, ln w, ln w, ln w, ln w, okn, okn, okn, okn, okn, okn, okn, by decide, by decide, by decide, rfl, rfl, rfl⟩
theorem few0 : Few p0 := ⟨by decide, by decide, by decide, by decide, by decide, by decide, by decide⟩
theorem few1 : Few p1 := ⟨by decide, by decide, by decide, by decide, by decide, by decide, by decide⟩
theorem check0 (u : World) : Calls Tryz.prog 9 #[.agg #[.int .i64 2, .int .u64 3, .int .u64 3, .int .u64 3, .slice none 0 0, .slice none 0 0, .slice none 0 0, .slice none 0 0, .slice none 0 0, .slice none 0 0, .slice none 0 0, .bool false, .bool false, .int .i64 0, .int .i64 0]] u fun e w' => e = .returned (.tuple #[.int .i64 0, .int .i64 0]) ∧ Below u.heap.size u w' := by
  have q := check_any p0 _ _ _ _ _ _ _ u (pv0 u) few0
  rw [ck0, ce0] at q
  exact q
theorem check1 (u : World) : Calls Tryz.prog 9 #[.agg #[.int .i64 0, .int .u64 0, .int .u64 0, .int .u64 0, .slice none 0 0, .slice none 0 0, .slice none 0 0, .slice none 0 0, .slice none 0 0, .slice none 0 0, .slice none 0 0, .bool false, .bool false, .int .i64 0, .int .i64 0]] u fun e w' => e = .returned (.tuple #[.int .i64 1, .int .i64 6]) ∧ Below u.heap.size u w' := by
  have q := check_any p1 _ _ _ _ _ _ _ u (pv1 u) few1
  rw [ck1, ce1] at q
  exact q
set_option maxRecDepth 100000 in
set_option maxHeartbeats 2000000 in
theorem known_yes (w : World) (T : Tab w) (hs : 1 ≤ w.heap.size) :
    Calls Tryz.prog 5 #[] w fun e w' => e = .returned (.bool true) ∧ Below w.heap.size w w' := by
  have C0 : Hid (∀ _ : Unit, _) := fun _ => k_new 2 w T hs (by decide) (by decide)
  clear T hs
  go_enter Tryz.func5, Tryz.ntmps5
  go_wp2_with fail
  refine (C0.out ()).mono ?_
  rintro e w1 ⟨a, rfl, n2, h1⟩
  have C1 : Hid (∀ _ : Unit, _) := fun _ => of_new h1 n2
  clear h1 n2 C0
  go_wp2_with fail
  refine (C1.out ()).mono ?_
  rintro e w2 ⟨rfl, b2⟩
  have B3 : Hid (Below w.heap.size w (w2.alloc (.cells #[.int .i64 2, .int .u64 3, .int .u64 3, .int .u64 3, .slice none 0 0, .slice none 0 0, .slice none 0 0, .slice none 0 0, .slice none 0 0, .slice none 0 0, .slice none 0 0, .bool false, .bool false, .int .i64 0, .int .i64 0] 33))) := b2.alloc b2.size _
  have K3 : Hid (Blk (w2.alloc (.cells #[.int .i64 2, .int .u64 3, .int .u64 3, .int .u64 3, .slice none 0 0, .slice none 0 0, .slice none 0 0, .slice none 0 0, .slice none 0 0, .slice none 0 0, .slice none 0 0, .bool false, .bool false, .int .i64 0, .int .i64 0] 33)) w2.heap.size [.int .i64 2, .int .u64 3, .int .u64 3, .int .u64 3, .slice none 0 0, .slice none 0 0, .slice none 0 0, .slice none 0 0, .slice none 0 0, .slice none 0 0, .slice none 0 0, .bool false, .bool false, .int .i64 0, .int .i64 0] 33) := Blk.new w2 _ _
  have c0 := K3.out.cell 0
  have c1 := K3.out.cell 1
  have c2 := K3.out.cell 2
  have c3 := K3.out.cell 3
  have c4 := K3.out.cell 4
  have c5 := K3.out.cell 5
  have c6 := K3.out.cell 6
  have c7 := K3.out.cell 7
  have c8 := K3.out.cell 8
  have c9 := K3.out.cell 9
  have c10 := K3.out.cell 10
  have c11 := K3.out.cell 11
  have c12 := K3.out.cell 12
  have c13 := K3.out.cell 13
  have c14 := K3.out.cell 14
  simp only [List.getElem?_cons_zero, List.getElem?_cons_succ] at c0 c1 c2 c3 c4 c5 c6 c7 c8 c9 c10 c11 c12 c13 c14
  clear b2 C1
  go_wp2_with fail
  refine (check0 _).mono ?_
  rintro e w4 ⟨rfl, b4⟩
  have B4 : Hid (Below w.heap.size w w4) := B3.out.trans (b4.mono B3.out.size)
  have K4 : Hid (Blk w4 w2.heap.size [.int .i64 2, .int .u64 3, .int .u64 3, .int .u64 3, .slice none 0 0, .slice none 0 0, .slice none 0 0, .slice none 0 0, .slice none 0 0, .slice none 0 0, .slice none 0 0, .bool false, .bool false, .int .i64 0, .int .i64 0] 33) := K3.out.keep (Fr.of_below b4) K3.out.lt (by simp)
  clear b4 c0 c1 c2 c3 c4 c5 c6 c7 c8 c9 c10 c11 c12 c13 c14
  go_wp2_with fail
  refine (check1 _).mono ?_
  rintro e w5 ⟨rfl, b5⟩
  have B5 : Hid (Below w.heap.size w w5) := B4.out.trans (b5.mono B4.out.size)
  have K5 : Hid (Blk w5 w2.heap.size [.int .i64 2, .int .u64 3, .int .u64 3, .int .u64 3, .slice none 0 0, .slice none 0 0, .slice none 0 0, .slice none 0 0, .slice none 0 0, .slice none 0 0, .slice none 0 0, .bool false, .bool false, .int .i64 0, .int .i64 0] 33) := K4.out.keep (Fr.of_below b5) K4.out.lt (by simp)
  clear b5
  go_wp2_with fail
  refine (of_nil _).mono ?_
  rintro e w6 ⟨rfl, b6⟩
  have B6 : Hid (Below w.heap.size w (w6.alloc (.cells #[.int .i64 0, .int .u64 0, .int .u64 0, .int .u64 0, .slice none 0 0, .slice none 0 0, .slice none 0 0, .slice none 0 0, .slice none 0 0, .slice none 0 0, .slice none 0 0, .bool false, .bool false, .int .i64 0, .int .i64 0] 33))) := by
    have q := B5.out.trans (b6.mono B5.out.size)
    exact q.alloc q.size _
  have d3 := ((K5.out.keep (Fr.of_below b6) K5.out.lt (by simp)).alloc (.cells #[.int .i64 0, .int .u64 0, .int .u64 0, .int .u64 0, .slice none 0 0, .slice none 0 0, .slice none 0 0, .slice none 0 0, .slice none 0 0, .slice none 0 0, .slice none 0 0, .bool false, .bool false, .int .i64 0, .int .i64 0] 33)).cell 3
  simp only [List.getElem?_cons_zero, List.getElem?_cons_succ] at d3
  clear b6
  go_wp2
  go_ret
  exact ⟨rfl, B6.out⟩
end Go.Proofs.YtfdmcbcomknebaaGreatDoor.Aud
