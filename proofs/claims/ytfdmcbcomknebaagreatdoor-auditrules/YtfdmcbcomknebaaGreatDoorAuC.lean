/- What davitlaw35's given answers (davitref35). -/
import Derived.Test.YtfdmcbcomknebaaGreatDoorRows
import Derived.Test.YtfdmcbcomknebaaGreatDoorAuB
import Derived.WalkKit
import Derived.ProofKit
import Derived.OpenShut
import Derived.BigQuiet
import Derived.BigGuard
import Derived.Carry
import Derived.Laws.Tables
import Derived.Deep.RegionHeld3
import Derived.Deep.RegionHeldLaw
import Derived.Deep.DeepCutAuto
import Derived.Deep.CutBlock
namespace Go.Proofs.YtfdmcbcomknebaaGreatDoor.Aud
open Go.ChangeShapes Go.WideShapes Go.ChangeAt Go.RowKit
open Mm Zkn
set_option linter.unusedSimpArgs false
set_option linter.unusedVariables false

/-- A store of a whole struct, as one step of a region that draws its order. -/
theorem step_store {P : Program} {ops : Array Oper} {o : Oper} {a : Act} {w : World} {K : Act → World → Prop} {Q : Exit → Act → World → Prop} {E : Prop} {ad : Addr} {vv : Value} {R : World → Prop}
    (hg : o.guard = none) (p v : Operand) (t : TypeId) (hop : o.op = Op.store t p v) (hp : a.eval p = .pointer (some ad)) (hv : a.eval v = vv)
    (hrun : ∃ w', (storeVar t ad vv).run P w = .ok () w' ∧ R w') (hK : ∀ w', R w' → K (a.put o.dst undef) w') :
    if Region.wanted o (yielded ops a.tmps) = true then Oper.wp P o a w K Q else E := by
  have hw : Region.wanted o (yielded ops a.tmps) = true := by simp [Region.wanted, hg]
  rw [if_pos hw]
  obtain ⟨w', hr, h⟩ := hrun
  unfold Oper.wp execOp
  simp only [hop, hp, hv, Instr.storeAt, Instr.sureAddr, Sem.run_bind, Sem.run_pure, Result.andThen_ok, hr]
  exact hK w' h
theorem gs_store {w u : World} {cs0 cs1 : List Value} {z : Nat} {old : List Value} {l : List (Value × List Tr)} (new : List Value) (h15 : new.length = 15) (one : (new.toArray.all (·.oneCell')) = true) (h : GS w cs0 cs1 u (some (z, old)) l) (ho : old.length = 15 := by rfl) :
    ∃ w', (storeVar 33 ⟨z, 0, none⟩ (.agg new.toArray)).run Tryz.prog u = .ok () w' ∧ GS w cs0 cs1 w' (some (z, new)) l :=
  ⟨_, run_storeVar_row u z 33 33 old.toArray new.toArray (h.zb _ rfl).1 (by rw [infoPi]; simp [h15]) (by simp [h15, ho]) one, h.setz new⟩

theorem GS.setc {w u : World} {cs0 cs1 : List Value} {z i : Nat} {old : List Value} {l : List (Value × List Tr)} (h : GS w cs0 cs1 u (some (z, old)) l) (v : Value) : GS w cs0 cs1 (u.setCell ⟨z, i, none⟩ v) (some (z, old.set i v)) l := by
  obtain ⟨kz, hz⟩ := h.zb _ rfl
  have f : Fr u.heap.size [z] u (u.setCell ⟨z, i, none⟩ v) := (Fr.refl _ _ _).setCell (Or.inr (by simp)) _
  have s := h.bel.size
  refine ⟨h.bel.trans ((f.less s).below fun k hk => by rw [List.mem_singleton.1 hk]; omega), h.k0.keep f h.k0.lt (by simp; omega), h.k1.keep f h.k1.lt (by simp; omega), fun x hx => (h.rs x hx).keep1 f kz (by decide), fun y hy => ?_⟩
  cases hy
  exact ⟨kz.set i v, hz⟩
theorem lg_store {y w2 : World} {v u : Value} {G : List Tr} {z i : Nat} {cs : List Value} (g : LG tr 49 y w2 v G) (k : Blk y z cs 33) : LG tr 49 (y.setCell ⟨z, i, none⟩ u) (w2.setCell ⟨z, i, none⟩ u) v G := by
  have k2 := k.keep (Fr.of_below g.bel) k.lt (by simp)
  have sz : (y.setCell ⟨z, i, none⟩ u).heap.size = y.heap.size := by simp [World.setCell]
  refine ⟨?_, g.bel.os, g.bel.tape, g.bel.output, by simp [World.setCell]; exact g.bel.size, fun j hj => ?_⟩
  · rw [sz]
    exact owng_keep g.own ((Fr.refl w2.heap.size [z] w2).setCell (Or.inr (by simp)) _) fun b e => ⟨owng_lt g.own e, fun hb => owng_ne g.own k2 (by decide) e (List.mem_singleton.1 hb).symm⟩
  · rw [sz] at hj
    by_cases q : j = z
    · subst q
      exact (k2.set i u).trans (k.set i u).symm
    · rw [Below.heap_setCell _ _ _ _ q, Below.heap_setCell _ _ _ _ q]
      exact g.bel.block j hj
theorem gv_ret {z : Nat} {cs : List Value} {w : World} {tmps : Array Value} (h : Blk w z cs 33) (hl : cs.length = 15) (h2 : tmps.getD 2 undef = .pointer (some ⟨z, 0, none⟩)) :
    (results Tryz.f6 tmps).run Tryz.prog w = .ok (.agg cs.toArray) w := by
  rw [results_one (p := 2) (ty := 33) rfl, h2]
  obtain ⟨x0, x1, x2, x3, x4, x5, x6, x7, x8, x9, x10, x11, x12, x13, x14, rfl⟩ : ∃ x0 x1 x2 x3 x4 x5 x6 x7 x8 x9 x10 x11 x12 x13 x14, cs = [x0, x1, x2, x3, x4, x5, x6, x7, x8, x9, x10, x11, x12, x13, x14] := by
    match cs, hl with
    | [x0, x1, x2, x3, x4, x5, x6, x7, x8, x9, x10, x11, x12, x13, x14], _ => exact ⟨_, _, _, _, _, _, _, _, _, _, _, _, _, _, _, rfl⟩
  have q0 : w.cell? ⟨z, 0, none⟩ = some x0 := h.cell 0
  have q1 : w.cell? ⟨z, 1, none⟩ = some x1 := h.cell 1
  have q2 : w.cell? ⟨z, 2, none⟩ = some x2 := h.cell 2
  have q3 : w.cell? ⟨z, 3, none⟩ = some x3 := h.cell 3
  have q4 : w.cell? ⟨z, 4, none⟩ = some x4 := h.cell 4
  have q5 : w.cell? ⟨z, 5, none⟩ = some x5 := h.cell 5
  have q6 : w.cell? ⟨z, 6, none⟩ = some x6 := h.cell 6
  have q7 : w.cell? ⟨z, 7, none⟩ = some x7 := h.cell 7
  have q8 : w.cell? ⟨z, 8, none⟩ = some x8 := h.cell 8
  have q9 : w.cell? ⟨z, 9, none⟩ = some x9 := h.cell 9
  have q10 : w.cell? ⟨z, 10, none⟩ = some x10 := h.cell 10
  have q11 : w.cell? ⟨z, 11, none⟩ = some x11 := h.cell 11
  have q12 : w.cell? ⟨z, 12, none⟩ = some x12 := h.cell 12
  have q13 : w.cell? ⟨z, 13, none⟩ = some x13 := h.cell 13
  have q14 : w.cell? ⟨z, 14, none⟩ = some x14 := h.cell 14
  simp [go_sem, q0, q1, q2, q3, q4, q5, q6, q7, q8, q9, q10, q11, q12, q13, q14]
set_option maxRecDepth 100000 in
set_option maxHeartbeats 16000000 in
theorem given_any (p : Pic) (v4 v5 v6 v7 v8 v9 v10 : Value) (w : World) (h : PV w p v4 v5 v6 v7 v8 v9 v10) (hl : Few p) :
    Calls Tryz.prog 6 #[.agg #[.int .i64 p.cp, .int .u64 (p.on : Int), .int .u64 (p.ac : Int), .int .u64 (p.pw : Int), v4, v5, v6, v7, v8, v9, v10, .bool p.bu, .bool p.up, .int .i64 p.cc, .int .i64 p.by']] w fun e w' => (∃ u4 u5 u6 u7 u8 u9 u10, e = .returned (.agg #[.int .i64 p.cp, .int .u64 (p.on : Int), .int .u64 (p.ac : Int), .int .u64 (p.pw : Int), u4, u5, u6, u7, u8, u9, u10, .bool p.bu, .bool p.up, .int .i64 p.cc, .int .i64 p.by']) ∧ PV w' p u4 u5 u6 u7 u8 u9 u10) ∧ Below w.heap.size w w' := by
  obtain ⟨a4, k4, rfl⟩ := h.th.shape
  obtain ⟨a5, k5, rfl⟩ := h.qu.shape
  obtain ⟨a6, k6, rfl⟩ := h.ti.shape
  obtain ⟨a7, k7, rfl⟩ := h.ir.shape
  obtain ⟨a8, k8, rfl⟩ := h.wo.shape
  obtain ⟨a9, k9, rfl⟩ := h.ca.shape
  obtain ⟨a10, k10, rfl⟩ := h.ke.shape
  have HH : Hid (PV w p (.slice a4 p.th.length k4) (.slice a5 p.qu.length k5) (.slice a6 p.ti.length k6) (.slice a7 p.ir.length k7) (.slice a8 p.wo.length k8) (.slice a9 p.ca.length k9) (.slice a10 p.ke.length k10)) := h
  have HL : Hid (Few p) := hl
  have C5 : Hid (∀ u, Below w.heap.size w u → Calls Tryz.prog 13 #[.slice a5 p.qu.length k5] u fun e v => ∃ r, e = .returned r ∧ own3 v 122 r p.qu ∧ Below u.heap.size u v) := fun u bu => (places_any p.qu _ u (h.qu.below bu) hl.qu).mono fun _ v ⟨r, e, g⟩ => ⟨r, e, ⟨_, g.own⟩, g.bel⟩
  have C6 : Hid (∀ u, Below w.heap.size w u → Calls Tryz.prog 13 #[.slice a6 p.ti.length k6] u fun e v => ∃ r, e = .returned r ∧ own3 v 122 r p.ti ∧ Below u.heap.size u v) := fun u bu => (places_any p.ti _ u (h.ti.below bu) hl.ti).mono fun _ v ⟨r, e, g⟩ => ⟨r, e, ⟨_, g.own⟩, g.bel⟩
  have C7 : Hid (∀ u, Below w.heap.size w u → Calls Tryz.prog 13 #[.slice a7 p.ir.length k7] u fun e v => ∃ r, e = .returned r ∧ own3 v 122 r p.ir ∧ Below u.heap.size u v) := fun u bu => (places_any p.ir _ u (h.ir.below bu) hl.ir).mono fun _ v ⟨r, e, g⟩ => ⟨r, e, ⟨_, g.own⟩, g.bel⟩
  have C8 : Hid (∀ u, Below w.heap.size w u → Calls Tryz.prog 13 #[.slice a8 p.wo.length k8] u fun e v => ∃ r, e = .returned r ∧ own3 v 122 r p.wo ∧ Below u.heap.size u v) := fun u bu => (places_any p.wo _ u (h.wo.below bu) hl.wo).mono fun _ v ⟨r, e, g⟩ => ⟨r, e, ⟨_, g.own⟩, g.bel⟩
  have C9 : Hid (∀ u, Below w.heap.size w u → Calls Tryz.prog 13 #[.slice a9 p.ca.length k9] u fun e v => ∃ r, e = .returned r ∧ own3 v 122 r p.ca ∧ Below u.heap.size u v) := fun u bu => (places_any p.ca _ u (h.ca.below bu) hl.ca).mono fun _ v ⟨r, e, g⟩ => ⟨r, e, ⟨_, g.own⟩, g.bel⟩
  have C10 : Hid (∀ u, Below w.heap.size w u → Calls Tryz.prog 13 #[.slice a10 p.ke.length k10] u fun e v => ∃ r, e = .returned r ∧ own3 v 122 r p.ke ∧ Below u.heap.size u v) := fun u bu => (places_any p.ke _ u (h.ke.below bu) hl.ke).mono fun _ v ⟨r, e, g⟩ => ⟨r, e, ⟨_, g.own⟩, g.bel⟩
  obtain ⟨w0, hw0⟩ : ∃ x, ((w.alloc (.cells #[.int .i64 p.cp, .int .u64 (p.on : Int), .int .u64 (p.ac : Int), .int .u64 (p.pw : Int), (.slice a4 p.th.length k4), (.slice a5 p.qu.length k5), (.slice a6 p.ti.length k6), (.slice a7 p.ir.length k7), (.slice a8 p.wo.length k8), (.slice a9 p.ca.length k9), (.slice a10 p.ke.length k10), .bool p.bu, .bool p.up, .int .i64 p.cc, .int .i64 p.by'] 26)).alloc (.cells #[.int .i64 0, .int .u64 0, .int .u64 0, .int .u64 0, .slice none 0 0, .slice none 0 0, .slice none 0 0, .slice none 0 0, .slice none 0 0, .slice none 0 0, .slice none 0 0, .bool false, .bool false, .int .i64 0, .int .i64 0] 33)) = x := ⟨_, rfl⟩
  have HW0 : Hid (((w.alloc (.cells #[.int .i64 p.cp, .int .u64 (p.on : Int), .int .u64 (p.ac : Int), .int .u64 (p.pw : Int), (.slice a4 p.th.length k4), (.slice a5 p.qu.length k5), (.slice a6 p.ti.length k6), (.slice a7 p.ir.length k7), (.slice a8 p.wo.length k8), (.slice a9 p.ca.length k9), (.slice a10 p.ke.length k10), .bool p.bu, .bool p.up, .int .i64 p.cc, .int .i64 p.by'] 26)).alloc (.cells #[.int .i64 0, .int .u64 0, .int .u64 0, .int .u64 0, .slice none 0 0, .slice none 0 0, .slice none 0 0, .slice none 0 0, .slice none 0 0, .slice none 0 0, .slice none 0 0, .bool false, .bool false, .int .i64 0, .int .i64 0] 33)) = w0) := hw0
  have HG : Hid (∀ u, Sm u w0 → GS w [.int .i64 p.cp, .int .u64 (p.on : Int), .int .u64 (p.ac : Int), .int .u64 (p.pw : Int), (.slice a4 p.th.length k4), (.slice a5 p.qu.length k5), (.slice a6 p.ti.length k6), (.slice a7 p.ir.length k7), (.slice a8 p.wo.length k8), (.slice a9 p.ca.length k9), (.slice a10 p.ke.length k10), .bool p.bu, .bool p.up, .int .i64 p.cc, .int .i64 p.by'] [.int .i64 0, .int .u64 0, .int .u64 0, .int .u64 0, .slice none 0 0, .slice none 0 0, .slice none 0 0, .slice none 0 0, .slice none 0 0, .slice none 0 0, .slice none 0 0, .bool false, .bool false, .int .i64 0, .int .i64 0] u none []) := fun u e => by
    have b0 : Below w.heap.size w (w.alloc (.cells #[.int .i64 p.cp, .int .u64 (p.on : Int), .int .u64 (p.ac : Int), .int .u64 (p.pw : Int), (.slice a4 p.th.length k4), (.slice a5 p.qu.length k5), (.slice a6 p.ti.length k6), (.slice a7 p.ir.length k7), (.slice a8 p.wo.length k8), (.slice a9 p.ca.length k9), (.slice a10 p.ke.length k10), .bool p.bu, .bool p.up, .int .i64 p.cc, .int .i64 p.by'] 26)) := (Below.refl _ _).alloc (Nat.le_refl _) _
    have k1 : Blk ((w.alloc (.cells #[.int .i64 p.cp, .int .u64 (p.on : Int), .int .u64 (p.ac : Int), .int .u64 (p.pw : Int), (.slice a4 p.th.length k4), (.slice a5 p.qu.length k5), (.slice a6 p.ti.length k6), (.slice a7 p.ir.length k7), (.slice a8 p.wo.length k8), (.slice a9 p.ca.length k9), (.slice a10 p.ke.length k10), .bool p.bu, .bool p.up, .int .i64 p.cc, .int .i64 p.by'] 26)).alloc (.cells #[.int .i64 0, .int .u64 0, .int .u64 0, .int .u64 0, .slice none 0 0, .slice none 0 0, .slice none 0 0, .slice none 0 0, .slice none 0 0, .slice none 0 0, .slice none 0 0, .bool false, .bool false, .int .i64 0, .int .i64 0] 33)) (w.heap.size + 1) [.int .i64 0, .int .u64 0, .int .u64 0, .int .u64 0, .slice none 0 0, .slice none 0 0, .slice none 0 0, .slice none 0 0, .slice none 0 0, .slice none 0 0, .slice none 0 0, .bool false, .bool false, .int .i64 0, .int .i64 0] 33 := by
      have := Blk.new (w.alloc (.cells #[.int .i64 p.cp, .int .u64 (p.on : Int), .int .u64 (p.ac : Int), .int .u64 (p.pw : Int), (.slice a4 p.th.length k4), (.slice a5 p.qu.length k5), (.slice a6 p.ti.length k6), (.slice a7 p.ir.length k7), (.slice a8 p.wo.length k8), (.slice a9 p.ca.length k9), (.slice a10 p.ke.length k10), .bool p.bu, .bool p.up, .int .i64 p.cc, .int .i64 p.by'] 26)) [.int .i64 0, .int .u64 0, .int .u64 0, .int .u64 0, .slice none 0 0, .slice none 0 0, .slice none 0 0, .slice none 0 0, .slice none 0 0, .slice none 0 0, .slice none 0 0, .bool false, .bool false, .int .i64 0, .int .i64 0] 33
      rwa [show (w.alloc (.cells #[.int .i64 p.cp, .int .u64 (p.on : Int), .int .u64 (p.ac : Int), .int .u64 (p.pw : Int), (.slice a4 p.th.length k4), (.slice a5 p.qu.length k5), (.slice a6 p.ti.length k6), (.slice a7 p.ir.length k7), (.slice a8 p.wo.length k8), (.slice a9 p.ca.length k9), (.slice a10 p.ke.length k10), .bool p.bu, .bool p.up, .int .i64 p.cc, .int .i64 p.by'] 26)).heap.size = w.heap.size + 1 by simp] at this
    have g0 : GS w [.int .i64 p.cp, .int .u64 (p.on : Int), .int .u64 (p.ac : Int), .int .u64 (p.pw : Int), (.slice a4 p.th.length k4), (.slice a5 p.qu.length k5), (.slice a6 p.ti.length k6), (.slice a7 p.ir.length k7), (.slice a8 p.wo.length k8), (.slice a9 p.ca.length k9), (.slice a10 p.ke.length k10), .bool p.bu, .bool p.up, .int .i64 p.cc, .int .i64 p.by'] [.int .i64 0, .int .u64 0, .int .u64 0, .int .u64 0, .slice none 0 0, .slice none 0 0, .slice none 0 0, .slice none 0 0, .slice none 0 0, .slice none 0 0, .slice none 0 0, .bool false, .bool false, .int .i64 0, .int .i64 0] ((w.alloc (.cells #[.int .i64 p.cp, .int .u64 (p.on : Int), .int .u64 (p.ac : Int), .int .u64 (p.pw : Int), (.slice a4 p.th.length k4), (.slice a5 p.qu.length k5), (.slice a6 p.ti.length k6), (.slice a7 p.ir.length k7), (.slice a8 p.wo.length k8), (.slice a9 p.ca.length k9), (.slice a10 p.ke.length k10), .bool p.bu, .bool p.up, .int .i64 p.cc, .int .i64 p.by'] 26)).alloc (.cells #[.int .i64 0, .int .u64 0, .int .u64 0, .int .u64 0, .slice none 0 0, .slice none 0 0, .slice none 0 0, .slice none 0 0, .slice none 0 0, .slice none 0 0, .slice none 0 0, .bool false, .bool false, .int .i64 0, .int .i64 0] 33)) none [] := ⟨b0.alloc b0.size _, (Blk.new w _ _).alloc _, k1, by simp, by simp⟩
    rw [hw0] at g0
    exact g0.sm e
  have KS : Hid (∀ u, Blk u w.heap.size [.int .i64 p.cp, .int .u64 (p.on : Int), .int .u64 (p.ac : Int), .int .u64 (p.pw : Int), (.slice a4 p.th.length k4), (.slice a5 p.qu.length k5), (.slice a6 p.ti.length k6), (.slice a7 p.ir.length k7), (.slice a8 p.wo.length k8), (.slice a9 p.ca.length k9), (.slice a10 p.ke.length k10), .bool p.bu, .bool p.up, .int .i64 p.cc, .int .i64 p.by'] 26 → u.cell? ⟨w.heap.size, 0, none⟩ = some (.int .i64 p.cp) ∧ u.cell? ⟨w.heap.size, 1, none⟩ = some (.int .u64 (p.on : Int)) ∧ u.cell? ⟨w.heap.size, 2, none⟩ = some (.int .u64 (p.ac : Int)) ∧ u.cell? ⟨w.heap.size, 3, none⟩ = some (.int .u64 (p.pw : Int)) ∧ u.cell? ⟨w.heap.size, 4, none⟩ = some ((.slice a4 p.th.length k4)) ∧ u.cell? ⟨w.heap.size, 5, none⟩ = some ((.slice a5 p.qu.length k5)) ∧ u.cell? ⟨w.heap.size, 6, none⟩ = some ((.slice a6 p.ti.length k6)) ∧ u.cell? ⟨w.heap.size, 7, none⟩ = some ((.slice a7 p.ir.length k7)) ∧ u.cell? ⟨w.heap.size, 8, none⟩ = some ((.slice a8 p.wo.length k8)) ∧ u.cell? ⟨w.heap.size, 9, none⟩ = some ((.slice a9 p.ca.length k9)) ∧ u.cell? ⟨w.heap.size, 10, none⟩ = some ((.slice a10 p.ke.length k10)) ∧ u.cell? ⟨w.heap.size, 11, none⟩ = some (.bool p.bu) ∧ u.cell? ⟨w.heap.size, 12, none⟩ = some (.bool p.up) ∧ u.cell? ⟨w.heap.size, 13, none⟩ = some (.int .i64 p.cc) ∧ u.cell? ⟨w.heap.size, 14, none⟩ = some (.int .i64 p.by')) := fun u q => ⟨q.cell 0, q.cell 1, q.cell 2, q.cell 3, q.cell 4, q.cell 5, q.cell 6, q.cell 7, q.cell 8, q.cell 9, q.cell 10, q.cell 11, q.cell 12, q.cell 13, q.cell 14⟩
  clear h hl hw0
  go_enter Tryz.func6, Tryz.ntmps6
  go_upto_region 1 with (fail)
  rw [HW0.out]
  go_cut [1, 2, 3] from 5 to 39 (fun b q r wx => b = .pointer (some ⟨w.heap.size, 0, none⟩) ∧ q = .pointer (some ⟨w.heap.size + 1, 0, none⟩) ∧ ∃ (z : Nat) (b5 b6 b7 b8 b9 b10 : Option Addr) (m5 m6 m7 m8 m9 m10 : Nat), r = .pointer (some ⟨z, 0, none⟩) ∧ GS w [.int .i64 p.cp, .int .u64 (p.on : Int), .int .u64 (p.ac : Int), .int .u64 (p.pw : Int), (.slice a4 p.th.length k4), (.slice a5 p.qu.length k5), (.slice a6 p.ti.length k6), (.slice a7 p.ir.length k7), (.slice a8 p.wo.length k8), (.slice a9 p.ca.length k9), (.slice a10 p.ke.length k10), .bool p.bu, .bool p.up, .int .i64 p.cc, .int .i64 p.by'] [.int .i64 0, .int .u64 0, .int .u64 0, .int .u64 0, .slice none 0 0, .slice none 0 0, .slice none 0 0, .slice none 0 0, .slice none 0 0, .slice none 0 0, .slice none 0 0, .bool false, .bool false, .int .i64 0, .int .i64 0] wx (some (z, [.int .i64 p.cp, .int .u64 (p.on : Int), .int .u64 (p.ac : Int), .int .u64 (p.pw : Int), .slice none 0 0, (.slice b5 p.qu.length m5), (.slice b6 p.ti.length m6), (.slice b7 p.ir.length m7), (.slice b8 p.wo.length m8), (.slice b9 p.ca.length m9), (.slice b10 p.ke.length m10), .bool p.bu, .bool p.up, .int .i64 p.cc, .int .i64 p.by'])) [(.slice b10 p.ke.length m10, p.ke), (.slice b9 p.ca.length m9, p.ca), (.slice b8 p.wo.length m8, p.wo), (.slice b7 p.ir.length m7, p.ir), (.slice b6 p.ti.length m6, p.ti), (.slice b5 p.qu.length m5, p.qu)])
  case first =>
    obtain ⟨c0, c1, c2, c3, c4, c5, c6, c7, c8, c9, c10, c11, c12, c13, c14⟩ := KS.out w0 (GS.k0 (HG.out _ ⟨rfl, rfl, rfl, rfl⟩))
    refine wp_region_K [36] (fun w' => w'.cell? ⟨w.heap.size, 0, none⟩ = some (.int .i64 p.cp) ∧ w'.cell? ⟨w.heap.size, 1, none⟩ = some (.int .u64 (p.on : Int)) ∧ w'.cell? ⟨w.heap.size, 2, none⟩ = some (.int .u64 (p.ac : Int)) ∧ w'.cell? ⟨w.heap.size, 3, none⟩ = some (.int .u64 (p.pw : Int)) ∧ w'.cell? ⟨w.heap.size, 4, none⟩ = some ((.slice a4 p.th.length k4)) ∧ w'.cell? ⟨w.heap.size, 5, none⟩ = some ((.slice a5 p.qu.length k5)) ∧ w'.cell? ⟨w.heap.size, 6, none⟩ = some ((.slice a6 p.ti.length k6)) ∧ w'.cell? ⟨w.heap.size, 7, none⟩ = some ((.slice a7 p.ir.length k7)) ∧ w'.cell? ⟨w.heap.size, 8, none⟩ = some ((.slice a8 p.wo.length k8)) ∧ w'.cell? ⟨w.heap.size, 9, none⟩ = some ((.slice a9 p.ca.length k9)) ∧ w'.cell? ⟨w.heap.size, 10, none⟩ = some ((.slice a10 p.ke.length k10)) ∧ w'.cell? ⟨w.heap.size, 11, none⟩ = some (.bool p.bu) ∧ w'.cell? ⟨w.heap.size, 12, none⟩ = some (.bool p.up) ∧ w'.cell? ⟨w.heap.size, 13, none⟩ = some (.int .i64 p.cc) ∧ w'.cell? ⟨w.heap.size, 14, none⟩ = some (.int .i64 p.by')) (by kernel_rfl) (by exact KS.out _ (GS.k0 (HG.out _ ⟨rfl, rfl, rfl, rfl⟩))) (fun hHeld => ?_)
    refine wpAnyK_pure (i := 0) (oi := { dst := some 5, op := Op.fieldAddr 26 (Operand.tmp 1) 0, type := 0, pos := "law.go:32", after := #[], guard := none }) (v := ?va1) rfl (by kernel_rfl) (by kernel_rfl) (by kernel_rfl) (by kernel_rfl) (fun _ _ _ h => h) (Or.inl ⟨by rfl, ?ha1⟩) (fun _ => hHeld) ?ra1
    case ha1 => (intro wz _; go_simp <;> with_reducible rfl)
    try simp only [Act.put, List.setIfInBounds_toArray, List.set_cons_zero, List.set_cons_succ]
    refine wpAnyK_take (i := 1) (oi := { dst := some 6, op := Op.load 3 (Operand.tmp 5), type := 3, pos := "law.go:32", after := #[{ on := 0, ground := Ground.data }], guard := none }) (v := ?va2) rfl (by kernel_rfl) (by kernel_rfl) (by kernel_rfl) (by kernel_rfl) (by kernel_rfl) (fun _ _ _ h => h) (Or.inl ⟨by rfl, ?ha2⟩) hHeld ?ra2
    case ha2 => (intro wz hSw; (try dsimp only at hSw); go_simp <;> with_reducible rfl)
    try simp only [Act.put, List.setIfInBounds_toArray, List.set_cons_zero, List.set_cons_succ]
    refine wpAnyK_pure (i := 2) (oi := { dst := some 7, op := Op.fieldAddr 26 (Operand.tmp 1) 1, type := 0, pos := "law.go:32", after := #[], guard := none }) (v := ?va3) rfl (by kernel_rfl) (by kernel_rfl) (by kernel_rfl) (by kernel_rfl) (fun _ _ _ h => h) (Or.inl ⟨by rfl, ?ha3⟩) (fun _ => hHeld) ?ra3
    case ha3 => (intro wz _; go_simp <;> with_reducible rfl)
    try simp only [Act.put, List.setIfInBounds_toArray, List.set_cons_zero, List.set_cons_succ]
    refine wpAnyK_take (i := 3) (oi := { dst := some 8, op := Op.load 22 (Operand.tmp 7), type := 22, pos := "law.go:32", after := #[{ on := 2, ground := Ground.data }], guard := none }) (v := ?va4) rfl (by kernel_rfl) (by kernel_rfl) (by kernel_rfl) (by kernel_rfl) (by kernel_rfl) (fun _ _ _ h => h) (Or.inl ⟨by rfl, ?ha4⟩) hHeld ?ra4
    case ha4 => (intro wz hSw; (try dsimp only at hSw); go_simp <;> with_reducible rfl)
    try simp only [Act.put, List.setIfInBounds_toArray, List.set_cons_zero, List.set_cons_succ]
    refine wpAnyK_pure (i := 4) (oi := { dst := some 9, op := Op.fieldAddr 26 (Operand.tmp 1) 2, type := 0, pos := "law.go:32", after := #[], guard := none }) (v := ?va5) rfl (by kernel_rfl) (by kernel_rfl) (by kernel_rfl) (by kernel_rfl) (fun _ _ _ h => h) (Or.inl ⟨by rfl, ?ha5⟩) (fun _ => hHeld) ?ra5
    case ha5 => (intro wz _; go_simp <;> with_reducible rfl)
    try simp only [Act.put, List.setIfInBounds_toArray, List.set_cons_zero, List.set_cons_succ]
    refine wpAnyK_take (i := 5) (oi := { dst := some 10, op := Op.load 22 (Operand.tmp 9), type := 22, pos := "law.go:32", after := #[{ on := 4, ground := Ground.data }], guard := none }) (v := ?va6) rfl (by kernel_rfl) (by kernel_rfl) (by kernel_rfl) (by kernel_rfl) (by kernel_rfl) (fun _ _ _ h => h) (Or.inl ⟨by rfl, ?ha6⟩) hHeld ?ra6
    case ha6 => (intro wz hSw; (try dsimp only at hSw); go_simp <;> with_reducible rfl)
    try simp only [Act.put, List.setIfInBounds_toArray, List.set_cons_zero, List.set_cons_succ]
    refine wpAnyK_pure (i := 6) (oi := { dst := some 11, op := Op.fieldAddr 26 (Operand.tmp 1) 3, type := 0, pos := "law.go:32", after := #[], guard := none }) (v := ?va7) rfl (by kernel_rfl) (by kernel_rfl) (by kernel_rfl) (by kernel_rfl) (fun _ _ _ h => h) (Or.inl ⟨by rfl, ?ha7⟩) (fun _ => hHeld) ?ra7
    case ha7 => (intro wz _; go_simp <;> with_reducible rfl)
    try simp only [Act.put, List.setIfInBounds_toArray, List.set_cons_zero, List.set_cons_succ]
    refine wpAnyK_take (i := 7) (oi := { dst := some 12, op := Op.load 22 (Operand.tmp 11), type := 22, pos := "law.go:32", after := #[{ on := 6, ground := Ground.data }], guard := none }) (v := ?va8) rfl (by kernel_rfl) (by kernel_rfl) (by kernel_rfl) (by kernel_rfl) (by kernel_rfl) (fun _ _ _ h => h) (Or.inl ⟨by rfl, ?ha8⟩) hHeld ?ra8
    case ha8 => (intro wz hSw; (try dsimp only at hSw); go_simp <;> with_reducible rfl)
    try simp only [Act.put, List.setIfInBounds_toArray, List.set_cons_zero, List.set_cons_succ]
    refine wpAnyK_pure (i := 8) (oi := { dst := some 13, op := Op.fieldAddr 26 (Operand.tmp 1) 5, type := 0, pos := "law.go:32", after := #[], guard := none }) (v := ?va9) rfl (by kernel_rfl) (by kernel_rfl) (by kernel_rfl) (by kernel_rfl) (fun _ _ _ h => h) (Or.inl ⟨by rfl, ?ha9⟩) (fun _ => hHeld) ?ra9
    case ha9 => (intro wz _; go_simp <;> with_reducible rfl)
    try simp only [Act.put, List.setIfInBounds_toArray, List.set_cons_zero, List.set_cons_succ]
    refine wpAnyK_take (i := 9) (oi := { dst := some 14, op := Op.load 24 (Operand.tmp 13), type := 24, pos := "law.go:32", after := #[{ on := 8, ground := Ground.data }], guard := none }) (v := ?va10) rfl (by kernel_rfl) (by kernel_rfl) (by kernel_rfl) (by kernel_rfl) (by kernel_rfl) (fun _ _ _ h => h) (Or.inl ⟨by rfl, ?ha10⟩) hHeld ?ra10
    case ha10 => (intro wz hSw; (try dsimp only at hSw); go_simp <;> with_reducible rfl)
    try simp only [Act.put, List.setIfInBounds_toArray, List.set_cons_zero, List.set_cons_succ]
    refine wpAnyK_pure (i := 11) (oi := { dst := some 16, op := Op.fieldAddr 26 (Operand.tmp 1) 6, type := 0, pos := "law.go:32", after := #[], guard := none }) (v := ?va11) rfl (by kernel_rfl) (by kernel_rfl) (by kernel_rfl) (by kernel_rfl) (fun _ _ _ h => h) (Or.inl ⟨by rfl, ?ha11⟩) (fun _ => hHeld) ?ra11
    case ha11 => (intro wz _; go_simp <;> with_reducible rfl)
    try simp only [Act.put, List.setIfInBounds_toArray, List.set_cons_zero, List.set_cons_succ]
    refine wpAnyK_take (i := 12) (oi := { dst := some 17, op := Op.load 24 (Operand.tmp 16), type := 24, pos := "law.go:32", after := #[{ on := 11, ground := Ground.data }], guard := none }) (v := ?va12) rfl (by kernel_rfl) (by kernel_rfl) (by kernel_rfl) (by kernel_rfl) (by kernel_rfl) (fun _ _ _ h => h) (Or.inl ⟨by rfl, ?ha12⟩) hHeld ?ra12
    case ha12 => (intro wz hSw; (try dsimp only at hSw); go_simp <;> with_reducible rfl)
    try simp only [Act.put, List.setIfInBounds_toArray, List.set_cons_zero, List.set_cons_succ]
    refine wpAnyK_pure (i := 14) (oi := { dst := some 19, op := Op.fieldAddr 26 (Operand.tmp 1) 7, type := 0, pos := "law.go:32", after := #[], guard := none }) (v := ?va13) rfl (by kernel_rfl) (by kernel_rfl) (by kernel_rfl) (by kernel_rfl) (fun _ _ _ h => h) (Or.inl ⟨by rfl, ?ha13⟩) (fun _ => hHeld) ?ra13
    case ha13 => (intro wz _; go_simp <;> with_reducible rfl)
    try simp only [Act.put, List.setIfInBounds_toArray, List.set_cons_zero, List.set_cons_succ]
    refine wpAnyK_take (i := 15) (oi := { dst := some 20, op := Op.load 24 (Operand.tmp 19), type := 24, pos := "law.go:32", after := #[{ on := 14, ground := Ground.data }], guard := none }) (v := ?va14) rfl (by kernel_rfl) (by kernel_rfl) (by kernel_rfl) (by kernel_rfl) (by kernel_rfl) (fun _ _ _ h => h) (Or.inl ⟨by rfl, ?ha14⟩) hHeld ?ra14
    case ha14 => (intro wz hSw; (try dsimp only at hSw); go_simp <;> with_reducible rfl)
    try simp only [Act.put, List.setIfInBounds_toArray, List.set_cons_zero, List.set_cons_succ]
    refine wpAnyK_pure (i := 17) (oi := { dst := some 22, op := Op.fieldAddr 26 (Operand.tmp 1) 8, type := 0, pos := "law.go:32", after := #[], guard := none }) (v := ?va15) rfl (by kernel_rfl) (by kernel_rfl) (by kernel_rfl) (by kernel_rfl) (fun _ _ _ h => h) (Or.inl ⟨by rfl, ?ha15⟩) (fun _ => hHeld) ?ra15
    case ha15 => (intro wz _; go_simp <;> with_reducible rfl)
    try simp only [Act.put, List.setIfInBounds_toArray, List.set_cons_zero, List.set_cons_succ]
    refine wpAnyK_take (i := 18) (oi := { dst := some 23, op := Op.load 24 (Operand.tmp 22), type := 24, pos := "law.go:32", after := #[{ on := 17, ground := Ground.data }], guard := none }) (v := ?va16) rfl (by kernel_rfl) (by kernel_rfl) (by kernel_rfl) (by kernel_rfl) (by kernel_rfl) (fun _ _ _ h => h) (Or.inl ⟨by rfl, ?ha16⟩) hHeld ?ra16
    case ha16 => (intro wz hSw; (try dsimp only at hSw); go_simp <;> with_reducible rfl)
    try simp only [Act.put, List.setIfInBounds_toArray, List.set_cons_zero, List.set_cons_succ]
    refine wpAnyK_pure (i := 20) (oi := { dst := some 25, op := Op.fieldAddr 26 (Operand.tmp 1) 9, type := 0, pos := "law.go:32", after := #[], guard := none }) (v := ?va17) rfl (by kernel_rfl) (by kernel_rfl) (by kernel_rfl) (by kernel_rfl) (fun _ _ _ h => h) (Or.inl ⟨by rfl, ?ha17⟩) (fun _ => hHeld) ?ra17
    case ha17 => (intro wz _; go_simp <;> with_reducible rfl)
    try simp only [Act.put, List.setIfInBounds_toArray, List.set_cons_zero, List.set_cons_succ]
    refine wpAnyK_take (i := 21) (oi := { dst := some 26, op := Op.load 24 (Operand.tmp 25), type := 24, pos := "law.go:32", after := #[{ on := 20, ground := Ground.data }], guard := none }) (v := ?va18) rfl (by kernel_rfl) (by kernel_rfl) (by kernel_rfl) (by kernel_rfl) (by kernel_rfl) (fun _ _ _ h => h) (Or.inl ⟨by rfl, ?ha18⟩) hHeld ?ra18
    case ha18 => (intro wz hSw; (try dsimp only at hSw); go_simp <;> with_reducible rfl)
    try simp only [Act.put, List.setIfInBounds_toArray, List.set_cons_zero, List.set_cons_succ]
    refine wpAnyK_pure (i := 23) (oi := { dst := some 28, op := Op.fieldAddr 26 (Operand.tmp 1) 10, type := 0, pos := "law.go:32", after := #[], guard := none }) (v := ?va19) rfl (by kernel_rfl) (by kernel_rfl) (by kernel_rfl) (by kernel_rfl) (fun _ _ _ h => h) (Or.inl ⟨by rfl, ?ha19⟩) (fun _ => hHeld) ?ra19
    case ha19 => (intro wz _; go_simp <;> with_reducible rfl)
    try simp only [Act.put, List.setIfInBounds_toArray, List.set_cons_zero, List.set_cons_succ]
    refine wpAnyK_take (i := 24) (oi := { dst := some 29, op := Op.load 24 (Operand.tmp 28), type := 24, pos := "law.go:32", after := #[{ on := 23, ground := Ground.data }], guard := none }) (v := ?va20) rfl (by kernel_rfl) (by kernel_rfl) (by kernel_rfl) (by kernel_rfl) (by kernel_rfl) (fun _ _ _ h => h) (Or.inl ⟨by rfl, ?ha20⟩) hHeld ?ra20
    case ha20 => (intro wz hSw; (try dsimp only at hSw); go_simp <;> with_reducible rfl)
    try simp only [Act.put, List.setIfInBounds_toArray, List.set_cons_zero, List.set_cons_succ]
    refine wpAnyK_pure (i := 26) (oi := { dst := some 31, op := Op.fieldAddr 26 (Operand.tmp 1) 11, type := 0, pos := "law.go:32", after := #[], guard := none }) (v := ?va21) rfl (by kernel_rfl) (by kernel_rfl) (by kernel_rfl) (by kernel_rfl) (fun _ _ _ h => h) (Or.inl ⟨by rfl, ?ha21⟩) (fun _ => hHeld) ?ra21
    case ha21 => (intro wz _; go_simp <;> with_reducible rfl)
    try simp only [Act.put, List.setIfInBounds_toArray, List.set_cons_zero, List.set_cons_succ]
    refine wpAnyK_take (i := 27) (oi := { dst := some 32, op := Op.load 4 (Operand.tmp 31), type := 4, pos := "law.go:32", after := #[{ on := 26, ground := Ground.data }], guard := none }) (v := ?va22) rfl (by kernel_rfl) (by kernel_rfl) (by kernel_rfl) (by kernel_rfl) (by kernel_rfl) (fun _ _ _ h => h) (Or.inl ⟨by rfl, ?ha22⟩) hHeld ?ra22
    case ha22 => (intro wz hSw; (try dsimp only at hSw); go_simp <;> with_reducible rfl)
    try simp only [Act.put, List.setIfInBounds_toArray, List.set_cons_zero, List.set_cons_succ]
    refine wpAnyK_pure (i := 28) (oi := { dst := some 33, op := Op.fieldAddr 26 (Operand.tmp 1) 12, type := 0, pos := "law.go:32", after := #[], guard := none }) (v := ?va23) rfl (by kernel_rfl) (by kernel_rfl) (by kernel_rfl) (by kernel_rfl) (fun _ _ _ h => h) (Or.inl ⟨by rfl, ?ha23⟩) (fun _ => hHeld) ?ra23
    case ha23 => (intro wz _; go_simp <;> with_reducible rfl)
    try simp only [Act.put, List.setIfInBounds_toArray, List.set_cons_zero, List.set_cons_succ]
    refine wpAnyK_take (i := 29) (oi := { dst := some 34, op := Op.load 4 (Operand.tmp 33), type := 4, pos := "law.go:32", after := #[{ on := 28, ground := Ground.data }], guard := none }) (v := ?va24) rfl (by kernel_rfl) (by kernel_rfl) (by kernel_rfl) (by kernel_rfl) (by kernel_rfl) (fun _ _ _ h => h) (Or.inl ⟨by rfl, ?ha24⟩) hHeld ?ra24
    case ha24 => (intro wz hSw; (try dsimp only at hSw); go_simp <;> with_reducible rfl)
    try simp only [Act.put, List.setIfInBounds_toArray, List.set_cons_zero, List.set_cons_succ]
    refine wpAnyK_pure (i := 30) (oi := { dst := some 35, op := Op.fieldAddr 26 (Operand.tmp 1) 13, type := 0, pos := "law.go:32", after := #[], guard := none }) (v := ?va25) rfl (by kernel_rfl) (by kernel_rfl) (by kernel_rfl) (by kernel_rfl) (fun _ _ _ h => h) (Or.inl ⟨by rfl, ?ha25⟩) (fun _ => hHeld) ?ra25
    case ha25 => (intro wz _; go_simp <;> with_reducible rfl)
    try simp only [Act.put, List.setIfInBounds_toArray, List.set_cons_zero, List.set_cons_succ]
    refine wpAnyK_take (i := 31) (oi := { dst := some 36, op := Op.load 3 (Operand.tmp 35), type := 3, pos := "law.go:32", after := #[{ on := 30, ground := Ground.data }], guard := none }) (v := ?va26) rfl (by kernel_rfl) (by kernel_rfl) (by kernel_rfl) (by kernel_rfl) (by kernel_rfl) (fun _ _ _ h => h) (Or.inl ⟨by rfl, ?ha26⟩) hHeld ?ra26
    case ha26 => (intro wz hSw; (try dsimp only at hSw); go_simp <;> with_reducible rfl)
    try simp only [Act.put, List.setIfInBounds_toArray, List.set_cons_zero, List.set_cons_succ]
    refine wpAnyK_pure (i := 32) (oi := { dst := some 37, op := Op.fieldAddr 26 (Operand.tmp 1) 14, type := 0, pos := "law.go:32", after := #[], guard := none }) (v := ?va27) rfl (by kernel_rfl) (by kernel_rfl) (by kernel_rfl) (by kernel_rfl) (fun _ _ _ h => h) (Or.inl ⟨by rfl, ?ha27⟩) (fun _ => hHeld) ?ra27
    case ha27 => (intro wz _; go_simp <;> with_reducible rfl)
    try simp only [Act.put, List.setIfInBounds_toArray, List.set_cons_zero, List.set_cons_succ]
    refine wpAnyK_take (i := 33) (oi := { dst := some 38, op := Op.load 3 (Operand.tmp 37), type := 3, pos := "law.go:32", after := #[{ on := 32, ground := Ground.data }], guard := none }) (v := ?va28) rfl (by kernel_rfl) (by kernel_rfl) (by kernel_rfl) (by kernel_rfl) (by kernel_rfl) (fun _ _ _ h => h) (Or.inl ⟨by rfl, ?ha28⟩) hHeld ?ra28
    case ha28 => (intro wz hSw; (try dsimp only at hSw); go_simp <;> with_reducible rfl)
    try simp only [Act.put, List.setIfInBounds_toArray, List.set_cons_zero, List.set_cons_succ]
    refine wpAnyK_two (i := 10) (j := 35) (by kernel_rfl) (oneK (o := { dst := some 15, op := Op.call { callee := Callee.value (Operand.func 13), args := #[Operand.tmp 14], argTypes := #[24] }, type := 31, pos := "law.go:32", after := #[{ on := 9, ground := Ground.data }], guard := none }) rfl (fun K hK => ?_)) (oneK (o := { dst := some 3, op := Op.alloc 33, type := 0, pos := "law.go:32", after := #[], guard := none }) rfl (fun K hK => ?_))
    · go_simp
      refine (C5.out _ ?_).mono ?_
      exact GS.bel (HG.out _ ⟨rfl, rfl, rfl, rfl⟩)
      rintro e v5 ⟨r5, rfl, o5, y5⟩
      obtain ⟨b5, m5, rfl⟩ := o5.shape
      have HG2 : Hid (∀ u, Sm u v5 → GS w [.int .i64 p.cp, .int .u64 (p.on : Int), .int .u64 (p.ac : Int), .int .u64 (p.pw : Int), (.slice a4 p.th.length k4), (.slice a5 p.qu.length k5), (.slice a6 p.ti.length k6), (.slice a7 p.ir.length k7), (.slice a8 p.wo.length k8), (.slice a9 p.ca.length k9), (.slice a10 p.ke.length k10), .bool p.bu, .bool p.up, .int .i64 p.cc, .int .i64 p.by'] [.int .i64 0, .int .u64 0, .int .u64 0, .int .u64 0, .slice none 0 0, .slice none 0 0, .slice none 0 0, .slice none 0 0, .slice none 0 0, .slice none 0 0, .slice none 0 0, .bool false, .bool false, .int .i64 0, .int .i64 0] u none [(.slice b5 p.qu.length m5, p.qu)]) := fun u e => (GS.call y5 o5 (HG.out _ ⟨rfl, rfl, rfl, rfl⟩)).sm e
      clear HG o5 y5
      have HG := HG2
      clear HG2
      (try go_wp2_with fail)
      refine hK.out _ _ ?sa29 (fun hHeld => ?ta29)
      case sa29 => (intro _; exact KS.out _ (GS.k0 (HG.out _ ⟨rfl, rfl, rfl, rfl⟩)))
      replace hHeld := hHeld (un_of (by kernel_rfl))
      clear hK K
      try simp only [Act.put, List.setIfInBounds_toArray, List.set_cons_zero, List.set_cons_succ]
      refine wpAnyK_two (i := 13) (j := 35) (by kernel_rfl) (oneK (o := { dst := some 18, op := Op.call { callee := Callee.value (Operand.func 13), args := #[Operand.tmp 17], argTypes := #[24] }, type := 31, pos := "law.go:32", after := #[{ on := 12, ground := Ground.data }, { on := 10, ground := Ground.chain }], guard := none }) rfl (fun K hK => ?_)) (oneK (o := { dst := some 3, op := Op.alloc 33, type := 0, pos := "law.go:32", after := #[], guard := none }) rfl (fun K hK => ?_))
      · go_simp
        refine (C6.out _ ?_).mono ?_
        exact GS.bel (HG.out _ ⟨rfl, rfl, rfl, rfl⟩)
        rintro e v6 ⟨r6, rfl, o6, y6⟩
        obtain ⟨b6, m6, rfl⟩ := o6.shape
        have HG2 : Hid (∀ u, Sm u v6 → GS w [.int .i64 p.cp, .int .u64 (p.on : Int), .int .u64 (p.ac : Int), .int .u64 (p.pw : Int), (.slice a4 p.th.length k4), (.slice a5 p.qu.length k5), (.slice a6 p.ti.length k6), (.slice a7 p.ir.length k7), (.slice a8 p.wo.length k8), (.slice a9 p.ca.length k9), (.slice a10 p.ke.length k10), .bool p.bu, .bool p.up, .int .i64 p.cc, .int .i64 p.by'] [.int .i64 0, .int .u64 0, .int .u64 0, .int .u64 0, .slice none 0 0, .slice none 0 0, .slice none 0 0, .slice none 0 0, .slice none 0 0, .slice none 0 0, .slice none 0 0, .bool false, .bool false, .int .i64 0, .int .i64 0] u none [(.slice b6 p.ti.length m6, p.ti), (.slice b5 p.qu.length m5, p.qu)]) := fun u e => (GS.call y6 o6 (HG.out _ ⟨rfl, rfl, rfl, rfl⟩)).sm e
        clear HG o6 y6
        have HG := HG2
        clear HG2
        (try go_wp2_with fail)
        refine hK.out _ _ ?sa30 (fun hHeld => ?ta30)
        case sa30 => (intro _; exact KS.out _ (GS.k0 (HG.out _ ⟨rfl, rfl, rfl, rfl⟩)))
        replace hHeld := hHeld (un_of (by kernel_rfl))
        clear hK K
        try simp only [Act.put, List.setIfInBounds_toArray, List.set_cons_zero, List.set_cons_succ]
        refine wpAnyK_two (i := 16) (j := 35) (by kernel_rfl) (oneK (o := { dst := some 21, op := Op.call { callee := Callee.value (Operand.func 13), args := #[Operand.tmp 20], argTypes := #[24] }, type := 31, pos := "law.go:32", after := #[{ on := 15, ground := Ground.data }, { on := 13, ground := Ground.chain }], guard := none }) rfl (fun K hK => ?_)) (oneK (o := { dst := some 3, op := Op.alloc 33, type := 0, pos := "law.go:32", after := #[], guard := none }) rfl (fun K hK => ?_))
        · go_simp
          refine (C7.out _ ?_).mono ?_
          exact GS.bel (HG.out _ ⟨rfl, rfl, rfl, rfl⟩)
          rintro e v7 ⟨r7, rfl, o7, y7⟩
          obtain ⟨b7, m7, rfl⟩ := o7.shape
          have HG2 : Hid (∀ u, Sm u v7 → GS w [.int .i64 p.cp, .int .u64 (p.on : Int), .int .u64 (p.ac : Int), .int .u64 (p.pw : Int), (.slice a4 p.th.length k4), (.slice a5 p.qu.length k5), (.slice a6 p.ti.length k6), (.slice a7 p.ir.length k7), (.slice a8 p.wo.length k8), (.slice a9 p.ca.length k9), (.slice a10 p.ke.length k10), .bool p.bu, .bool p.up, .int .i64 p.cc, .int .i64 p.by'] [.int .i64 0, .int .u64 0, .int .u64 0, .int .u64 0, .slice none 0 0, .slice none 0 0, .slice none 0 0, .slice none 0 0, .slice none 0 0, .slice none 0 0, .slice none 0 0, .bool false, .bool false, .int .i64 0, .int .i64 0] u none [(.slice b7 p.ir.length m7, p.ir), (.slice b6 p.ti.length m6, p.ti), (.slice b5 p.qu.length m5, p.qu)]) := fun u e => (GS.call y7 o7 (HG.out _ ⟨rfl, rfl, rfl, rfl⟩)).sm e
          clear HG o7 y7
          have HG := HG2
          clear HG2
          (try go_wp2_with fail)
          refine hK.out _ _ ?sa31 (fun hHeld => ?ta31)
          case sa31 => (intro _; exact KS.out _ (GS.k0 (HG.out _ ⟨rfl, rfl, rfl, rfl⟩)))
          replace hHeld := hHeld (un_of (by kernel_rfl))
          clear hK K
          try simp only [Act.put, List.setIfInBounds_toArray, List.set_cons_zero, List.set_cons_succ]
          refine wpAnyK_two (i := 19) (j := 35) (by kernel_rfl) (oneK (o := { dst := some 24, op := Op.call { callee := Callee.value (Operand.func 13), args := #[Operand.tmp 23], argTypes := #[24] }, type := 31, pos := "law.go:32", after := #[{ on := 18, ground := Ground.data }, { on := 16, ground := Ground.chain }], guard := none }) rfl (fun K hK => ?_)) (oneK (o := { dst := some 3, op := Op.alloc 33, type := 0, pos := "law.go:32", after := #[], guard := none }) rfl (fun K hK => ?_))
          · go_simp
            refine (C8.out _ ?_).mono ?_
            exact GS.bel (HG.out _ ⟨rfl, rfl, rfl, rfl⟩)
            rintro e v8 ⟨r8, rfl, o8, y8⟩
            obtain ⟨b8, m8, rfl⟩ := o8.shape
            have HG2 : Hid (∀ u, Sm u v8 → GS w [.int .i64 p.cp, .int .u64 (p.on : Int), .int .u64 (p.ac : Int), .int .u64 (p.pw : Int), (.slice a4 p.th.length k4), (.slice a5 p.qu.length k5), (.slice a6 p.ti.length k6), (.slice a7 p.ir.length k7), (.slice a8 p.wo.length k8), (.slice a9 p.ca.length k9), (.slice a10 p.ke.length k10), .bool p.bu, .bool p.up, .int .i64 p.cc, .int .i64 p.by'] [.int .i64 0, .int .u64 0, .int .u64 0, .int .u64 0, .slice none 0 0, .slice none 0 0, .slice none 0 0, .slice none 0 0, .slice none 0 0, .slice none 0 0, .slice none 0 0, .bool false, .bool false, .int .i64 0, .int .i64 0] u none [(.slice b8 p.wo.length m8, p.wo), (.slice b7 p.ir.length m7, p.ir), (.slice b6 p.ti.length m6, p.ti), (.slice b5 p.qu.length m5, p.qu)]) := fun u e => (GS.call y8 o8 (HG.out _ ⟨rfl, rfl, rfl, rfl⟩)).sm e
            clear HG o8 y8
            have HG := HG2
            clear HG2
            (try go_wp2_with fail)
            refine hK.out _ _ ?sa32 (fun hHeld => ?ta32)
            case sa32 => (intro _; exact KS.out _ (GS.k0 (HG.out _ ⟨rfl, rfl, rfl, rfl⟩)))
            replace hHeld := hHeld (un_of (by kernel_rfl))
            clear hK K
            try simp only [Act.put, List.setIfInBounds_toArray, List.set_cons_zero, List.set_cons_succ]
            refine wpAnyK_two (i := 22) (j := 35) (by kernel_rfl) (oneK (o := { dst := some 27, op := Op.call { callee := Callee.value (Operand.func 13), args := #[Operand.tmp 26], argTypes := #[24] }, type := 31, pos := "law.go:32", after := #[{ on := 21, ground := Ground.data }, { on := 19, ground := Ground.chain }], guard := none }) rfl (fun K hK => ?_)) (oneK (o := { dst := some 3, op := Op.alloc 33, type := 0, pos := "law.go:32", after := #[], guard := none }) rfl (fun K hK => ?_))
            · go_simp
              refine (C9.out _ ?_).mono ?_
              exact GS.bel (HG.out _ ⟨rfl, rfl, rfl, rfl⟩)
              rintro e v9 ⟨r9, rfl, o9, y9⟩
              obtain ⟨b9, m9, rfl⟩ := o9.shape
              have HG2 : Hid (∀ u, Sm u v9 → GS w [.int .i64 p.cp, .int .u64 (p.on : Int), .int .u64 (p.ac : Int), .int .u64 (p.pw : Int), (.slice a4 p.th.length k4), (.slice a5 p.qu.length k5), (.slice a6 p.ti.length k6), (.slice a7 p.ir.length k7), (.slice a8 p.wo.length k8), (.slice a9 p.ca.length k9), (.slice a10 p.ke.length k10), .bool p.bu, .bool p.up, .int .i64 p.cc, .int .i64 p.by'] [.int .i64 0, .int .u64 0, .int .u64 0, .int .u64 0, .slice none 0 0, .slice none 0 0, .slice none 0 0, .slice none 0 0, .slice none 0 0, .slice none 0 0, .slice none 0 0, .bool false, .bool false, .int .i64 0, .int .i64 0] u none [(.slice b9 p.ca.length m9, p.ca), (.slice b8 p.wo.length m8, p.wo), (.slice b7 p.ir.length m7, p.ir), (.slice b6 p.ti.length m6, p.ti), (.slice b5 p.qu.length m5, p.qu)]) := fun u e => (GS.call y9 o9 (HG.out _ ⟨rfl, rfl, rfl, rfl⟩)).sm e
              clear HG o9 y9
              have HG := HG2
              clear HG2
              (try go_wp2_with fail)
              refine hK.out _ _ ?sa33 (fun hHeld => ?ta33)
              case sa33 => (intro _; exact KS.out _ (GS.k0 (HG.out _ ⟨rfl, rfl, rfl, rfl⟩)))
              replace hHeld := hHeld (un_of (by kernel_rfl))
              clear hK K
              try simp only [Act.put, List.setIfInBounds_toArray, List.set_cons_zero, List.set_cons_succ]
              refine wpAnyK_two (i := 25) (j := 35) (by kernel_rfl) (oneK (o := { dst := some 30, op := Op.call { callee := Callee.value (Operand.func 13), args := #[Operand.tmp 29], argTypes := #[24] }, type := 31, pos := "law.go:32", after := #[{ on := 24, ground := Ground.data }, { on := 22, ground := Ground.chain }], guard := none }) rfl (fun K hK => ?_)) (oneK (o := { dst := some 3, op := Op.alloc 33, type := 0, pos := "law.go:32", after := #[], guard := none }) rfl (fun K hK => ?_))
              · go_simp
                refine (C10.out _ ?_).mono ?_
                exact GS.bel (HG.out _ ⟨rfl, rfl, rfl, rfl⟩)
                rintro e v10 ⟨r10, rfl, o10, y10⟩
                obtain ⟨b10, m10, rfl⟩ := o10.shape
                have HG2 : Hid (∀ u, Sm u v10 → GS w [.int .i64 p.cp, .int .u64 (p.on : Int), .int .u64 (p.ac : Int), .int .u64 (p.pw : Int), (.slice a4 p.th.length k4), (.slice a5 p.qu.length k5), (.slice a6 p.ti.length k6), (.slice a7 p.ir.length k7), (.slice a8 p.wo.length k8), (.slice a9 p.ca.length k9), (.slice a10 p.ke.length k10), .bool p.bu, .bool p.up, .int .i64 p.cc, .int .i64 p.by'] [.int .i64 0, .int .u64 0, .int .u64 0, .int .u64 0, .slice none 0 0, .slice none 0 0, .slice none 0 0, .slice none 0 0, .slice none 0 0, .slice none 0 0, .slice none 0 0, .bool false, .bool false, .int .i64 0, .int .i64 0] u none [(.slice b10 p.ke.length m10, p.ke), (.slice b9 p.ca.length m9, p.ca), (.slice b8 p.wo.length m8, p.wo), (.slice b7 p.ir.length m7, p.ir), (.slice b6 p.ti.length m6, p.ti), (.slice b5 p.qu.length m5, p.qu)]) := fun u e => (GS.call y10 o10 (HG.out _ ⟨rfl, rfl, rfl, rfl⟩)).sm e
                clear HG o10 y10
                have HG := HG2
                clear HG2
                (try go_wp2_with fail)
                refine hK.out _ _ ?sa34 (fun hHeld => ?ta34)
                case sa34 => (intro _; exact KS.out _ (GS.k0 (HG.out _ ⟨rfl, rfl, rfl, rfl⟩)))
                replace hHeld := hHeld (un_of (by kernel_rfl))
                clear hK K
                try simp only [Act.put, List.setIfInBounds_toArray, List.set_cons_zero, List.set_cons_succ]
                refine wpAnyK_pure (i := 34) (oi := { dst := some 39, op := Op.build 33 #[(0, Operand.tmp 6), (1, Operand.tmp 8), (2, Operand.tmp 10), (3, Operand.tmp 12), (5, Operand.tmp 15), (6, Operand.tmp 18), (7, Operand.tmp 21), (8, Operand.tmp 24), (9, Operand.tmp 27), (10, Operand.tmp 30), (11, Operand.tmp 32), (12, Operand.tmp 34), (13, Operand.tmp 36), (14, Operand.tmp 38)], type := 33, pos := "law.go:32", after := #[{ on := 1, ground := Ground.data }, { on := 3, ground := Ground.data }, { on := 5, ground := Ground.data }, { on := 7, ground := Ground.data }, { on := 10, ground := Ground.data }, { on := 13, ground := Ground.data }, { on := 16, ground := Ground.data }, { on := 19, ground := Ground.data }, { on := 22, ground := Ground.data }, { on := 25, ground := Ground.data }, { on := 27, ground := Ground.data }, { on := 29, ground := Ground.data }, { on := 31, ground := Ground.data }, { on := 33, ground := Ground.data }], guard := none }) (v := ?va35) rfl (by kernel_rfl) (by kernel_rfl) (by kernel_rfl) (by kernel_rfl) (fun _ _ _ h => h) (Or.inl ⟨by rfl, ?ha35⟩) (fun _ => hHeld) ?ra35
                case ha35 => (intro wz _; go_simp <;> with_reducible rfl)
                try simp only [Act.put, List.setIfInBounds_toArray, List.set_cons_zero, List.set_cons_succ]
                refine wpAnyK_one (i := 35) (by kernel_rfl) (oneK (o := { dst := some 3, op := Op.alloc 33, type := 0, pos := "law.go:32", after := #[], guard := none }) rfl (fun K hK => ?_))
                go_simp
                have HG2 : Hid (∀ u, Sm u (v10.alloc (.cells #[.int .i64 0, .int .u64 0, .int .u64 0, .int .u64 0, .slice none 0 0, .slice none 0 0, .slice none 0 0, .slice none 0 0, .slice none 0 0, .slice none 0 0, .slice none 0 0, .bool false, .bool false, .int .i64 0, .int .i64 0] 33)) → GS w [.int .i64 p.cp, .int .u64 (p.on : Int), .int .u64 (p.ac : Int), .int .u64 (p.pw : Int), (.slice a4 p.th.length k4), (.slice a5 p.qu.length k5), (.slice a6 p.ti.length k6), (.slice a7 p.ir.length k7), (.slice a8 p.wo.length k8), (.slice a9 p.ca.length k9), (.slice a10 p.ke.length k10), .bool p.bu, .bool p.up, .int .i64 p.cc, .int .i64 p.by'] [.int .i64 0, .int .u64 0, .int .u64 0, .int .u64 0, .slice none 0 0, .slice none 0 0, .slice none 0 0, .slice none 0 0, .slice none 0 0, .slice none 0 0, .slice none 0 0, .bool false, .bool false, .int .i64 0, .int .i64 0] u (some (v10.heap.size, [.int .i64 0, .int .u64 0, .int .u64 0, .int .u64 0, .slice none 0 0, .slice none 0 0, .slice none 0 0, .slice none 0 0, .slice none 0 0, .slice none 0 0, .slice none 0 0, .bool false, .bool false, .int .i64 0, .int .i64 0])) [(.slice b10 p.ke.length m10, p.ke), (.slice b9 p.ca.length m9, p.ca), (.slice b8 p.wo.length m8, p.wo), (.slice b7 p.ir.length m7, p.ir), (.slice b6 p.ti.length m6, p.ti), (.slice b5 p.qu.length m5, p.qu)]) := fun u e => ((HG.out v10 ⟨rfl, rfl, rfl, rfl⟩).alloc [.int .i64 0, .int .u64 0, .int .u64 0, .int .u64 0, .slice none 0 0, .slice none 0 0, .slice none 0 0, .slice none 0 0, .slice none 0 0, .slice none 0 0, .slice none 0 0, .bool false, .bool false, .int .i64 0, .int .i64 0]).sm e
                clear HG
                have HG := HG2
                clear HG2
                (try go_wp2_with fail)
                refine hK.out _ _ ?sa36 (fun hHeld => ?ta36)
                case sa36 => (intro _; exact KS.out _ (GS.k0 (HG.out _ ⟨rfl, rfl, rfl, rfl⟩)))
                replace hHeld := hHeld (un_of (by kernel_rfl))
                clear hK K
                try simp only [Act.put, List.setIfInBounds_toArray, List.set_cons_zero, List.set_cons_succ]
                refine wpAnyK_one (i := 36) (by kernel_rfl) (oneK (o := { dst := none, op := Op.store 33 (Operand.tmp 3) (Operand.tmp 39), type := 0, pos := "law.go:32", after := #[{ on := 35, ground := Ground.data }, { on := 34, ground := Ground.data }, { on := 25, ground := Ground.chain }, { on := 0, ground := Ground.phase }, { on := 1, ground := Ground.phase }, { on := 2, ground := Ground.phase }, { on := 3, ground := Ground.phase }, { on := 4, ground := Ground.phase }, { on := 5, ground := Ground.phase }, { on := 6, ground := Ground.phase }, { on := 7, ground := Ground.phase }, { on := 8, ground := Ground.phase }, { on := 9, ground := Ground.phase }, { on := 10, ground := Ground.phase }, { on := 11, ground := Ground.phase }, { on := 12, ground := Ground.phase }, { on := 13, ground := Ground.phase }, { on := 14, ground := Ground.phase }, { on := 15, ground := Ground.phase }, { on := 16, ground := Ground.phase }, { on := 17, ground := Ground.phase }, { on := 18, ground := Ground.phase }, { on := 19, ground := Ground.phase }, { on := 20, ground := Ground.phase }, { on := 21, ground := Ground.phase }, { on := 22, ground := Ground.phase }, { on := 23, ground := Ground.phase }, { on := 24, ground := Ground.phase }, { on := 25, ground := Ground.phase }, { on := 26, ground := Ground.phase }, { on := 27, ground := Ground.phase }, { on := 28, ground := Ground.phase }, { on := 29, ground := Ground.phase }, { on := 30, ground := Ground.phase }, { on := 31, ground := Ground.phase }, { on := 32, ground := Ground.phase }, { on := 33, ground := Ground.phase }, { on := 34, ground := Ground.phase }, { on := 35, ground := Ground.phase }], guard := none }) rfl (fun K hK => ?_))
                refine step_store rfl (.tmp 3) (.tmp 39) 33 rfl rfl rfl (R := fun w' => GS w [.int .i64 p.cp, .int .u64 (p.on : Int), .int .u64 (p.ac : Int), .int .u64 (p.pw : Int), (.slice a4 p.th.length k4), (.slice a5 p.qu.length k5), (.slice a6 p.ti.length k6), (.slice a7 p.ir.length k7), (.slice a8 p.wo.length k8), (.slice a9 p.ca.length k9), (.slice a10 p.ke.length k10), .bool p.bu, .bool p.up, .int .i64 p.cc, .int .i64 p.by'] [.int .i64 0, .int .u64 0, .int .u64 0, .int .u64 0, .slice none 0 0, .slice none 0 0, .slice none 0 0, .slice none 0 0, .slice none 0 0, .slice none 0 0, .slice none 0 0, .bool false, .bool false, .int .i64 0, .int .i64 0] w' (some (v10.heap.size, [.int .i64 p.cp, .int .u64 (p.on : Int), .int .u64 (p.ac : Int), .int .u64 (p.pw : Int), .slice none 0 0, (.slice b5 p.qu.length m5), (.slice b6 p.ti.length m6), (.slice b7 p.ir.length m7), (.slice b8 p.wo.length m8), (.slice b9 p.ca.length m9), (.slice b10 p.ke.length m10), .bool p.bu, .bool p.up, .int .i64 p.cc, .int .i64 p.by'])) [(.slice b10 p.ke.length m10, p.ke), (.slice b9 p.ca.length m9, p.ca), (.slice b8 p.wo.length m8, p.wo), (.slice b7 p.ir.length m7, p.ir), (.slice b6 p.ti.length m6, p.ti), (.slice b5 p.qu.length m5, p.qu)]) (gs_store [.int .i64 p.cp, .int .u64 (p.on : Int), .int .u64 (p.ac : Int), .int .u64 (p.pw : Int), .slice none 0 0, (.slice b5 p.qu.length m5), (.slice b6 p.ti.length m6), (.slice b7 p.ir.length m7), (.slice b8 p.wo.length m8), (.slice b9 p.ca.length m9), (.slice b10 p.ke.length m10), .bool p.bu, .bool p.up, .int .i64 p.cc, .int .i64 p.by'] rfl (by kernel_rfl) (HG.out _ ⟨rfl, rfl, rfl, rfl⟩)) ?_
                intro wx gx
                have HX : Hid (GS _ _ _ wx _ _) := gx
                clear gx HG
                refine hK.out _ _ ?sa37 (fun hHeld => ?ta37)
                case sa37 => (intro hU; exact absurd hU (un_not (by kernel_rfl)))
                clear hHeld hK K
                try simp only [Act.put, List.setIfInBounds_toArray, List.set_cons_zero, List.set_cons_succ]
                refine wpAnyK_done (by kernel_rfl) ?_ _
                go_wp2_with fail
                go_meet
                case rel => exact ⟨rfl, rfl, _, _, _, _, _, _, _, _, _, _, _, _, _, rfl, HX.out⟩
              · go_simp
                have HG2 : Hid (∀ u, Sm u (v9.alloc (.cells #[.int .i64 0, .int .u64 0, .int .u64 0, .int .u64 0, .slice none 0 0, .slice none 0 0, .slice none 0 0, .slice none 0 0, .slice none 0 0, .slice none 0 0, .slice none 0 0, .bool false, .bool false, .int .i64 0, .int .i64 0] 33)) → GS w [.int .i64 p.cp, .int .u64 (p.on : Int), .int .u64 (p.ac : Int), .int .u64 (p.pw : Int), (.slice a4 p.th.length k4), (.slice a5 p.qu.length k5), (.slice a6 p.ti.length k6), (.slice a7 p.ir.length k7), (.slice a8 p.wo.length k8), (.slice a9 p.ca.length k9), (.slice a10 p.ke.length k10), .bool p.bu, .bool p.up, .int .i64 p.cc, .int .i64 p.by'] [.int .i64 0, .int .u64 0, .int .u64 0, .int .u64 0, .slice none 0 0, .slice none 0 0, .slice none 0 0, .slice none 0 0, .slice none 0 0, .slice none 0 0, .slice none 0 0, .bool false, .bool false, .int .i64 0, .int .i64 0] u (some (v9.heap.size, [.int .i64 0, .int .u64 0, .int .u64 0, .int .u64 0, .slice none 0 0, .slice none 0 0, .slice none 0 0, .slice none 0 0, .slice none 0 0, .slice none 0 0, .slice none 0 0, .bool false, .bool false, .int .i64 0, .int .i64 0])) [(.slice b9 p.ca.length m9, p.ca), (.slice b8 p.wo.length m8, p.wo), (.slice b7 p.ir.length m7, p.ir), (.slice b6 p.ti.length m6, p.ti), (.slice b5 p.qu.length m5, p.qu)]) := fun u e => ((HG.out v9 ⟨rfl, rfl, rfl, rfl⟩).alloc [.int .i64 0, .int .u64 0, .int .u64 0, .int .u64 0, .slice none 0 0, .slice none 0 0, .slice none 0 0, .slice none 0 0, .slice none 0 0, .slice none 0 0, .slice none 0 0, .bool false, .bool false, .int .i64 0, .int .i64 0]).sm e
                clear HG
                have HG := HG2
                clear HG2
                (try go_wp2_with fail)
                refine hK.out _ _ ?sa38 (fun hHeld => ?ta38)
                case sa38 => (intro _; exact KS.out _ (GS.k0 (HG.out _ ⟨rfl, rfl, rfl, rfl⟩)))
                replace hHeld := hHeld (un_of (by kernel_rfl))
                clear hK K
                try simp only [Act.put, List.setIfInBounds_toArray, List.set_cons_zero, List.set_cons_succ]
                refine wpAnyK_one (i := 25) (by kernel_rfl) (oneK (o := { dst := some 30, op := Op.call { callee := Callee.value (Operand.func 13), args := #[Operand.tmp 29], argTypes := #[24] }, type := 31, pos := "law.go:32", after := #[{ on := 24, ground := Ground.data }, { on := 22, ground := Ground.chain }], guard := none }) rfl (fun K hK => ?_))
                go_simp
                refine (C10.out _ ?_).mono ?_
                exact GS.bel (HG.out _ ⟨rfl, rfl, rfl, rfl⟩)
                rintro e v10 ⟨r10, rfl, o10, y10⟩
                obtain ⟨b10, m10, rfl⟩ := o10.shape
                have HG2 : Hid (∀ u, Sm u v10 → GS w [.int .i64 p.cp, .int .u64 (p.on : Int), .int .u64 (p.ac : Int), .int .u64 (p.pw : Int), (.slice a4 p.th.length k4), (.slice a5 p.qu.length k5), (.slice a6 p.ti.length k6), (.slice a7 p.ir.length k7), (.slice a8 p.wo.length k8), (.slice a9 p.ca.length k9), (.slice a10 p.ke.length k10), .bool p.bu, .bool p.up, .int .i64 p.cc, .int .i64 p.by'] [.int .i64 0, .int .u64 0, .int .u64 0, .int .u64 0, .slice none 0 0, .slice none 0 0, .slice none 0 0, .slice none 0 0, .slice none 0 0, .slice none 0 0, .slice none 0 0, .bool false, .bool false, .int .i64 0, .int .i64 0] u (some (v9.heap.size, [.int .i64 0, .int .u64 0, .int .u64 0, .int .u64 0, .slice none 0 0, .slice none 0 0, .slice none 0 0, .slice none 0 0, .slice none 0 0, .slice none 0 0, .slice none 0 0, .bool false, .bool false, .int .i64 0, .int .i64 0])) [(.slice b10 p.ke.length m10, p.ke), (.slice b9 p.ca.length m9, p.ca), (.slice b8 p.wo.length m8, p.wo), (.slice b7 p.ir.length m7, p.ir), (.slice b6 p.ti.length m6, p.ti), (.slice b5 p.qu.length m5, p.qu)]) := fun u e => (GS.call y10 o10 (HG.out _ ⟨rfl, rfl, rfl, rfl⟩)).sm e
                clear HG o10 y10
                have HG := HG2
                clear HG2
                (try go_wp2_with fail)
                refine hK.out _ _ ?sa39 (fun hHeld => ?ta39)
                case sa39 => (intro _; exact KS.out _ (GS.k0 (HG.out _ ⟨rfl, rfl, rfl, rfl⟩)))
                replace hHeld := hHeld (un_of (by kernel_rfl))
                clear hK K
                try simp only [Act.put, List.setIfInBounds_toArray, List.set_cons_zero, List.set_cons_succ]
                refine wpAnyK_pure (i := 34) (oi := { dst := some 39, op := Op.build 33 #[(0, Operand.tmp 6), (1, Operand.tmp 8), (2, Operand.tmp 10), (3, Operand.tmp 12), (5, Operand.tmp 15), (6, Operand.tmp 18), (7, Operand.tmp 21), (8, Operand.tmp 24), (9, Operand.tmp 27), (10, Operand.tmp 30), (11, Operand.tmp 32), (12, Operand.tmp 34), (13, Operand.tmp 36), (14, Operand.tmp 38)], type := 33, pos := "law.go:32", after := #[{ on := 1, ground := Ground.data }, { on := 3, ground := Ground.data }, { on := 5, ground := Ground.data }, { on := 7, ground := Ground.data }, { on := 10, ground := Ground.data }, { on := 13, ground := Ground.data }, { on := 16, ground := Ground.data }, { on := 19, ground := Ground.data }, { on := 22, ground := Ground.data }, { on := 25, ground := Ground.data }, { on := 27, ground := Ground.data }, { on := 29, ground := Ground.data }, { on := 31, ground := Ground.data }, { on := 33, ground := Ground.data }], guard := none }) (v := ?va40) rfl (by kernel_rfl) (by kernel_rfl) (by kernel_rfl) (by kernel_rfl) (fun _ _ _ h => h) (Or.inl ⟨by rfl, ?ha40⟩) (fun _ => hHeld) ?ra40
                case ha40 => (intro wz _; go_simp <;> with_reducible rfl)
                try simp only [Act.put, List.setIfInBounds_toArray, List.set_cons_zero, List.set_cons_succ]
                refine wpAnyK_one (i := 36) (by kernel_rfl) (oneK (o := { dst := none, op := Op.store 33 (Operand.tmp 3) (Operand.tmp 39), type := 0, pos := "law.go:32", after := #[{ on := 35, ground := Ground.data }, { on := 34, ground := Ground.data }, { on := 25, ground := Ground.chain }, { on := 0, ground := Ground.phase }, { on := 1, ground := Ground.phase }, { on := 2, ground := Ground.phase }, { on := 3, ground := Ground.phase }, { on := 4, ground := Ground.phase }, { on := 5, ground := Ground.phase }, { on := 6, ground := Ground.phase }, { on := 7, ground := Ground.phase }, { on := 8, ground := Ground.phase }, { on := 9, ground := Ground.phase }, { on := 10, ground := Ground.phase }, { on := 11, ground := Ground.phase }, { on := 12, ground := Ground.phase }, { on := 13, ground := Ground.phase }, { on := 14, ground := Ground.phase }, { on := 15, ground := Ground.phase }, { on := 16, ground := Ground.phase }, { on := 17, ground := Ground.phase }, { on := 18, ground := Ground.phase }, { on := 19, ground := Ground.phase }, { on := 20, ground := Ground.phase }, { on := 21, ground := Ground.phase }, { on := 22, ground := Ground.phase }, { on := 23, ground := Ground.phase }, { on := 24, ground := Ground.phase }, { on := 25, ground := Ground.phase }, { on := 26, ground := Ground.phase }, { on := 27, ground := Ground.phase }, { on := 28, ground := Ground.phase }, { on := 29, ground := Ground.phase }, { on := 30, ground := Ground.phase }, { on := 31, ground := Ground.phase }, { on := 32, ground := Ground.phase }, { on := 33, ground := Ground.phase }, { on := 34, ground := Ground.phase }, { on := 35, ground := Ground.phase }], guard := none }) rfl (fun K hK => ?_))
                refine step_store rfl (.tmp 3) (.tmp 39) 33 rfl rfl rfl (R := fun w' => GS w [.int .i64 p.cp, .int .u64 (p.on : Int), .int .u64 (p.ac : Int), .int .u64 (p.pw : Int), (.slice a4 p.th.length k4), (.slice a5 p.qu.length k5), (.slice a6 p.ti.length k6), (.slice a7 p.ir.length k7), (.slice a8 p.wo.length k8), (.slice a9 p.ca.length k9), (.slice a10 p.ke.length k10), .bool p.bu, .bool p.up, .int .i64 p.cc, .int .i64 p.by'] [.int .i64 0, .int .u64 0, .int .u64 0, .int .u64 0, .slice none 0 0, .slice none 0 0, .slice none 0 0, .slice none 0 0, .slice none 0 0, .slice none 0 0, .slice none 0 0, .bool false, .bool false, .int .i64 0, .int .i64 0] w' (some (v9.heap.size, [.int .i64 p.cp, .int .u64 (p.on : Int), .int .u64 (p.ac : Int), .int .u64 (p.pw : Int), .slice none 0 0, (.slice b5 p.qu.length m5), (.slice b6 p.ti.length m6), (.slice b7 p.ir.length m7), (.slice b8 p.wo.length m8), (.slice b9 p.ca.length m9), (.slice b10 p.ke.length m10), .bool p.bu, .bool p.up, .int .i64 p.cc, .int .i64 p.by'])) [(.slice b10 p.ke.length m10, p.ke), (.slice b9 p.ca.length m9, p.ca), (.slice b8 p.wo.length m8, p.wo), (.slice b7 p.ir.length m7, p.ir), (.slice b6 p.ti.length m6, p.ti), (.slice b5 p.qu.length m5, p.qu)]) (gs_store [.int .i64 p.cp, .int .u64 (p.on : Int), .int .u64 (p.ac : Int), .int .u64 (p.pw : Int), .slice none 0 0, (.slice b5 p.qu.length m5), (.slice b6 p.ti.length m6), (.slice b7 p.ir.length m7), (.slice b8 p.wo.length m8), (.slice b9 p.ca.length m9), (.slice b10 p.ke.length m10), .bool p.bu, .bool p.up, .int .i64 p.cc, .int .i64 p.by'] rfl (by kernel_rfl) (HG.out _ ⟨rfl, rfl, rfl, rfl⟩)) ?_
                intro wx gx
                have HX : Hid (GS _ _ _ wx _ _) := gx
                clear gx HG
                refine hK.out _ _ ?sa41 (fun hHeld => ?ta41)
                case sa41 => (intro hU; exact absurd hU (un_not (by kernel_rfl)))
                clear hHeld hK K
                try simp only [Act.put, List.setIfInBounds_toArray, List.set_cons_zero, List.set_cons_succ]
                refine wpAnyK_done (by kernel_rfl) ?_ _
                go_wp2_with fail
                go_meet
                case rel => exact ⟨rfl, rfl, _, _, _, _, _, _, _, _, _, _, _, _, _, rfl, HX.out⟩
            · go_simp
              have HG2 : Hid (∀ u, Sm u (v8.alloc (.cells #[.int .i64 0, .int .u64 0, .int .u64 0, .int .u64 0, .slice none 0 0, .slice none 0 0, .slice none 0 0, .slice none 0 0, .slice none 0 0, .slice none 0 0, .slice none 0 0, .bool false, .bool false, .int .i64 0, .int .i64 0] 33)) → GS w [.int .i64 p.cp, .int .u64 (p.on : Int), .int .u64 (p.ac : Int), .int .u64 (p.pw : Int), (.slice a4 p.th.length k4), (.slice a5 p.qu.length k5), (.slice a6 p.ti.length k6), (.slice a7 p.ir.length k7), (.slice a8 p.wo.length k8), (.slice a9 p.ca.length k9), (.slice a10 p.ke.length k10), .bool p.bu, .bool p.up, .int .i64 p.cc, .int .i64 p.by'] [.int .i64 0, .int .u64 0, .int .u64 0, .int .u64 0, .slice none 0 0, .slice none 0 0, .slice none 0 0, .slice none 0 0, .slice none 0 0, .slice none 0 0, .slice none 0 0, .bool false, .bool false, .int .i64 0, .int .i64 0] u (some (v8.heap.size, [.int .i64 0, .int .u64 0, .int .u64 0, .int .u64 0, .slice none 0 0, .slice none 0 0, .slice none 0 0, .slice none 0 0, .slice none 0 0, .slice none 0 0, .slice none 0 0, .bool false, .bool false, .int .i64 0, .int .i64 0])) [(.slice b8 p.wo.length m8, p.wo), (.slice b7 p.ir.length m7, p.ir), (.slice b6 p.ti.length m6, p.ti), (.slice b5 p.qu.length m5, p.qu)]) := fun u e => ((HG.out v8 ⟨rfl, rfl, rfl, rfl⟩).alloc [.int .i64 0, .int .u64 0, .int .u64 0, .int .u64 0, .slice none 0 0, .slice none 0 0, .slice none 0 0, .slice none 0 0, .slice none 0 0, .slice none 0 0, .slice none 0 0, .bool false, .bool false, .int .i64 0, .int .i64 0]).sm e
              clear HG
              have HG := HG2
              clear HG2
              (try go_wp2_with fail)
              refine hK.out _ _ ?sa42 (fun hHeld => ?ta42)
              case sa42 => (intro _; exact KS.out _ (GS.k0 (HG.out _ ⟨rfl, rfl, rfl, rfl⟩)))
              replace hHeld := hHeld (un_of (by kernel_rfl))
              clear hK K
              try simp only [Act.put, List.setIfInBounds_toArray, List.set_cons_zero, List.set_cons_succ]
              refine wpAnyK_one (i := 22) (by kernel_rfl) (oneK (o := { dst := some 27, op := Op.call { callee := Callee.value (Operand.func 13), args := #[Operand.tmp 26], argTypes := #[24] }, type := 31, pos := "law.go:32", after := #[{ on := 21, ground := Ground.data }, { on := 19, ground := Ground.chain }], guard := none }) rfl (fun K hK => ?_))
              go_simp
              refine (C9.out _ ?_).mono ?_
              exact GS.bel (HG.out _ ⟨rfl, rfl, rfl, rfl⟩)
              rintro e v9 ⟨r9, rfl, o9, y9⟩
              obtain ⟨b9, m9, rfl⟩ := o9.shape
              have HG2 : Hid (∀ u, Sm u v9 → GS w [.int .i64 p.cp, .int .u64 (p.on : Int), .int .u64 (p.ac : Int), .int .u64 (p.pw : Int), (.slice a4 p.th.length k4), (.slice a5 p.qu.length k5), (.slice a6 p.ti.length k6), (.slice a7 p.ir.length k7), (.slice a8 p.wo.length k8), (.slice a9 p.ca.length k9), (.slice a10 p.ke.length k10), .bool p.bu, .bool p.up, .int .i64 p.cc, .int .i64 p.by'] [.int .i64 0, .int .u64 0, .int .u64 0, .int .u64 0, .slice none 0 0, .slice none 0 0, .slice none 0 0, .slice none 0 0, .slice none 0 0, .slice none 0 0, .slice none 0 0, .bool false, .bool false, .int .i64 0, .int .i64 0] u (some (v8.heap.size, [.int .i64 0, .int .u64 0, .int .u64 0, .int .u64 0, .slice none 0 0, .slice none 0 0, .slice none 0 0, .slice none 0 0, .slice none 0 0, .slice none 0 0, .slice none 0 0, .bool false, .bool false, .int .i64 0, .int .i64 0])) [(.slice b9 p.ca.length m9, p.ca), (.slice b8 p.wo.length m8, p.wo), (.slice b7 p.ir.length m7, p.ir), (.slice b6 p.ti.length m6, p.ti), (.slice b5 p.qu.length m5, p.qu)]) := fun u e => (GS.call y9 o9 (HG.out _ ⟨rfl, rfl, rfl, rfl⟩)).sm e
              clear HG o9 y9
              have HG := HG2
              clear HG2
              (try go_wp2_with fail)
              refine hK.out _ _ ?sa43 (fun hHeld => ?ta43)
              case sa43 => (intro _; exact KS.out _ (GS.k0 (HG.out _ ⟨rfl, rfl, rfl, rfl⟩)))
              replace hHeld := hHeld (un_of (by kernel_rfl))
              clear hK K
              try simp only [Act.put, List.setIfInBounds_toArray, List.set_cons_zero, List.set_cons_succ]
              refine wpAnyK_one (i := 25) (by kernel_rfl) (oneK (o := { dst := some 30, op := Op.call { callee := Callee.value (Operand.func 13), args := #[Operand.tmp 29], argTypes := #[24] }, type := 31, pos := "law.go:32", after := #[{ on := 24, ground := Ground.data }, { on := 22, ground := Ground.chain }], guard := none }) rfl (fun K hK => ?_))
              go_simp
              refine (C10.out _ ?_).mono ?_
              exact GS.bel (HG.out _ ⟨rfl, rfl, rfl, rfl⟩)
              rintro e v10 ⟨r10, rfl, o10, y10⟩
              obtain ⟨b10, m10, rfl⟩ := o10.shape
              have HG2 : Hid (∀ u, Sm u v10 → GS w [.int .i64 p.cp, .int .u64 (p.on : Int), .int .u64 (p.ac : Int), .int .u64 (p.pw : Int), (.slice a4 p.th.length k4), (.slice a5 p.qu.length k5), (.slice a6 p.ti.length k6), (.slice a7 p.ir.length k7), (.slice a8 p.wo.length k8), (.slice a9 p.ca.length k9), (.slice a10 p.ke.length k10), .bool p.bu, .bool p.up, .int .i64 p.cc, .int .i64 p.by'] [.int .i64 0, .int .u64 0, .int .u64 0, .int .u64 0, .slice none 0 0, .slice none 0 0, .slice none 0 0, .slice none 0 0, .slice none 0 0, .slice none 0 0, .slice none 0 0, .bool false, .bool false, .int .i64 0, .int .i64 0] u (some (v8.heap.size, [.int .i64 0, .int .u64 0, .int .u64 0, .int .u64 0, .slice none 0 0, .slice none 0 0, .slice none 0 0, .slice none 0 0, .slice none 0 0, .slice none 0 0, .slice none 0 0, .bool false, .bool false, .int .i64 0, .int .i64 0])) [(.slice b10 p.ke.length m10, p.ke), (.slice b9 p.ca.length m9, p.ca), (.slice b8 p.wo.length m8, p.wo), (.slice b7 p.ir.length m7, p.ir), (.slice b6 p.ti.length m6, p.ti), (.slice b5 p.qu.length m5, p.qu)]) := fun u e => (GS.call y10 o10 (HG.out _ ⟨rfl, rfl, rfl, rfl⟩)).sm e
              clear HG o10 y10
              have HG := HG2
              clear HG2
              (try go_wp2_with fail)
              refine hK.out _ _ ?sa44 (fun hHeld => ?ta44)
              case sa44 => (intro _; exact KS.out _ (GS.k0 (HG.out _ ⟨rfl, rfl, rfl, rfl⟩)))
              replace hHeld := hHeld (un_of (by kernel_rfl))
              clear hK K
              try simp only [Act.put, List.setIfInBounds_toArray, List.set_cons_zero, List.set_cons_succ]
              refine wpAnyK_pure (i := 34) (oi := { dst := some 39, op := Op.build 33 #[(0, Operand.tmp 6), (1, Operand.tmp 8), (2, Operand.tmp 10), (3, Operand.tmp 12), (5, Operand.tmp 15), (6, Operand.tmp 18), (7, Operand.tmp 21), (8, Operand.tmp 24), (9, Operand.tmp 27), (10, Operand.tmp 30), (11, Operand.tmp 32), (12, Operand.tmp 34), (13, Operand.tmp 36), (14, Operand.tmp 38)], type := 33, pos := "law.go:32", after := #[{ on := 1, ground := Ground.data }, { on := 3, ground := Ground.data }, { on := 5, ground := Ground.data }, { on := 7, ground := Ground.data }, { on := 10, ground := Ground.data }, { on := 13, ground := Ground.data }, { on := 16, ground := Ground.data }, { on := 19, ground := Ground.data }, { on := 22, ground := Ground.data }, { on := 25, ground := Ground.data }, { on := 27, ground := Ground.data }, { on := 29, ground := Ground.data }, { on := 31, ground := Ground.data }, { on := 33, ground := Ground.data }], guard := none }) (v := ?va45) rfl (by kernel_rfl) (by kernel_rfl) (by kernel_rfl) (by kernel_rfl) (fun _ _ _ h => h) (Or.inl ⟨by rfl, ?ha45⟩) (fun _ => hHeld) ?ra45
              case ha45 => (intro wz _; go_simp <;> with_reducible rfl)
              try simp only [Act.put, List.setIfInBounds_toArray, List.set_cons_zero, List.set_cons_succ]
              refine wpAnyK_one (i := 36) (by kernel_rfl) (oneK (o := { dst := none, op := Op.store 33 (Operand.tmp 3) (Operand.tmp 39), type := 0, pos := "law.go:32", after := #[{ on := 35, ground := Ground.data }, { on := 34, ground := Ground.data }, { on := 25, ground := Ground.chain }, { on := 0, ground := Ground.phase }, { on := 1, ground := Ground.phase }, { on := 2, ground := Ground.phase }, { on := 3, ground := Ground.phase }, { on := 4, ground := Ground.phase }, { on := 5, ground := Ground.phase }, { on := 6, ground := Ground.phase }, { on := 7, ground := Ground.phase }, { on := 8, ground := Ground.phase }, { on := 9, ground := Ground.phase }, { on := 10, ground := Ground.phase }, { on := 11, ground := Ground.phase }, { on := 12, ground := Ground.phase }, { on := 13, ground := Ground.phase }, { on := 14, ground := Ground.phase }, { on := 15, ground := Ground.phase }, { on := 16, ground := Ground.phase }, { on := 17, ground := Ground.phase }, { on := 18, ground := Ground.phase }, { on := 19, ground := Ground.phase }, { on := 20, ground := Ground.phase }, { on := 21, ground := Ground.phase }, { on := 22, ground := Ground.phase }, { on := 23, ground := Ground.phase }, { on := 24, ground := Ground.phase }, { on := 25, ground := Ground.phase }, { on := 26, ground := Ground.phase }, { on := 27, ground := Ground.phase }, { on := 28, ground := Ground.phase }, { on := 29, ground := Ground.phase }, { on := 30, ground := Ground.phase }, { on := 31, ground := Ground.phase }, { on := 32, ground := Ground.phase }, { on := 33, ground := Ground.phase }, { on := 34, ground := Ground.phase }, { on := 35, ground := Ground.phase }], guard := none }) rfl (fun K hK => ?_))
              refine step_store rfl (.tmp 3) (.tmp 39) 33 rfl rfl rfl (R := fun w' => GS w [.int .i64 p.cp, .int .u64 (p.on : Int), .int .u64 (p.ac : Int), .int .u64 (p.pw : Int), (.slice a4 p.th.length k4), (.slice a5 p.qu.length k5), (.slice a6 p.ti.length k6), (.slice a7 p.ir.length k7), (.slice a8 p.wo.length k8), (.slice a9 p.ca.length k9), (.slice a10 p.ke.length k10), .bool p.bu, .bool p.up, .int .i64 p.cc, .int .i64 p.by'] [.int .i64 0, .int .u64 0, .int .u64 0, .int .u64 0, .slice none 0 0, .slice none 0 0, .slice none 0 0, .slice none 0 0, .slice none 0 0, .slice none 0 0, .slice none 0 0, .bool false, .bool false, .int .i64 0, .int .i64 0] w' (some (v8.heap.size, [.int .i64 p.cp, .int .u64 (p.on : Int), .int .u64 (p.ac : Int), .int .u64 (p.pw : Int), .slice none 0 0, (.slice b5 p.qu.length m5), (.slice b6 p.ti.length m6), (.slice b7 p.ir.length m7), (.slice b8 p.wo.length m8), (.slice b9 p.ca.length m9), (.slice b10 p.ke.length m10), .bool p.bu, .bool p.up, .int .i64 p.cc, .int .i64 p.by'])) [(.slice b10 p.ke.length m10, p.ke), (.slice b9 p.ca.length m9, p.ca), (.slice b8 p.wo.length m8, p.wo), (.slice b7 p.ir.length m7, p.ir), (.slice b6 p.ti.length m6, p.ti), (.slice b5 p.qu.length m5, p.qu)]) (gs_store [.int .i64 p.cp, .int .u64 (p.on : Int), .int .u64 (p.ac : Int), .int .u64 (p.pw : Int), .slice none 0 0, (.slice b5 p.qu.length m5), (.slice b6 p.ti.length m6), (.slice b7 p.ir.length m7), (.slice b8 p.wo.length m8), (.slice b9 p.ca.length m9), (.slice b10 p.ke.length m10), .bool p.bu, .bool p.up, .int .i64 p.cc, .int .i64 p.by'] rfl (by kernel_rfl) (HG.out _ ⟨rfl, rfl, rfl, rfl⟩)) ?_
              intro wx gx
              have HX : Hid (GS _ _ _ wx _ _) := gx
              clear gx HG
              refine hK.out _ _ ?sa46 (fun hHeld => ?ta46)
              case sa46 => (intro hU; exact absurd hU (un_not (by kernel_rfl)))
              clear hHeld hK K
              try simp only [Act.put, List.setIfInBounds_toArray, List.set_cons_zero, List.set_cons_succ]
              refine wpAnyK_done (by kernel_rfl) ?_ _
              go_wp2_with fail
              go_meet
              case rel => exact ⟨rfl, rfl, _, _, _, _, _, _, _, _, _, _, _, _, _, rfl, HX.out⟩
          · go_simp
            have HG2 : Hid (∀ u, Sm u (v7.alloc (.cells #[.int .i64 0, .int .u64 0, .int .u64 0, .int .u64 0, .slice none 0 0, .slice none 0 0, .slice none 0 0, .slice none 0 0, .slice none 0 0, .slice none 0 0, .slice none 0 0, .bool false, .bool false, .int .i64 0, .int .i64 0] 33)) → GS w [.int .i64 p.cp, .int .u64 (p.on : Int), .int .u64 (p.ac : Int), .int .u64 (p.pw : Int), (.slice a4 p.th.length k4), (.slice a5 p.qu.length k5), (.slice a6 p.ti.length k6), (.slice a7 p.ir.length k7), (.slice a8 p.wo.length k8), (.slice a9 p.ca.length k9), (.slice a10 p.ke.length k10), .bool p.bu, .bool p.up, .int .i64 p.cc, .int .i64 p.by'] [.int .i64 0, .int .u64 0, .int .u64 0, .int .u64 0, .slice none 0 0, .slice none 0 0, .slice none 0 0, .slice none 0 0, .slice none 0 0, .slice none 0 0, .slice none 0 0, .bool false, .bool false, .int .i64 0, .int .i64 0] u (some (v7.heap.size, [.int .i64 0, .int .u64 0, .int .u64 0, .int .u64 0, .slice none 0 0, .slice none 0 0, .slice none 0 0, .slice none 0 0, .slice none 0 0, .slice none 0 0, .slice none 0 0, .bool false, .bool false, .int .i64 0, .int .i64 0])) [(.slice b7 p.ir.length m7, p.ir), (.slice b6 p.ti.length m6, p.ti), (.slice b5 p.qu.length m5, p.qu)]) := fun u e => ((HG.out v7 ⟨rfl, rfl, rfl, rfl⟩).alloc [.int .i64 0, .int .u64 0, .int .u64 0, .int .u64 0, .slice none 0 0, .slice none 0 0, .slice none 0 0, .slice none 0 0, .slice none 0 0, .slice none 0 0, .slice none 0 0, .bool false, .bool false, .int .i64 0, .int .i64 0]).sm e
            clear HG
            have HG := HG2
            clear HG2
            (try go_wp2_with fail)
            refine hK.out _ _ ?sa47 (fun hHeld => ?ta47)
            case sa47 => (intro _; exact KS.out _ (GS.k0 (HG.out _ ⟨rfl, rfl, rfl, rfl⟩)))
            replace hHeld := hHeld (un_of (by kernel_rfl))
            clear hK K
            try simp only [Act.put, List.setIfInBounds_toArray, List.set_cons_zero, List.set_cons_succ]
            refine wpAnyK_one (i := 19) (by kernel_rfl) (oneK (o := { dst := some 24, op := Op.call { callee := Callee.value (Operand.func 13), args := #[Operand.tmp 23], argTypes := #[24] }, type := 31, pos := "law.go:32", after := #[{ on := 18, ground := Ground.data }, { on := 16, ground := Ground.chain }], guard := none }) rfl (fun K hK => ?_))
            go_simp
            refine (C8.out _ ?_).mono ?_
            exact GS.bel (HG.out _ ⟨rfl, rfl, rfl, rfl⟩)
            rintro e v8 ⟨r8, rfl, o8, y8⟩
            obtain ⟨b8, m8, rfl⟩ := o8.shape
            have HG2 : Hid (∀ u, Sm u v8 → GS w [.int .i64 p.cp, .int .u64 (p.on : Int), .int .u64 (p.ac : Int), .int .u64 (p.pw : Int), (.slice a4 p.th.length k4), (.slice a5 p.qu.length k5), (.slice a6 p.ti.length k6), (.slice a7 p.ir.length k7), (.slice a8 p.wo.length k8), (.slice a9 p.ca.length k9), (.slice a10 p.ke.length k10), .bool p.bu, .bool p.up, .int .i64 p.cc, .int .i64 p.by'] [.int .i64 0, .int .u64 0, .int .u64 0, .int .u64 0, .slice none 0 0, .slice none 0 0, .slice none 0 0, .slice none 0 0, .slice none 0 0, .slice none 0 0, .slice none 0 0, .bool false, .bool false, .int .i64 0, .int .i64 0] u (some (v7.heap.size, [.int .i64 0, .int .u64 0, .int .u64 0, .int .u64 0, .slice none 0 0, .slice none 0 0, .slice none 0 0, .slice none 0 0, .slice none 0 0, .slice none 0 0, .slice none 0 0, .bool false, .bool false, .int .i64 0, .int .i64 0])) [(.slice b8 p.wo.length m8, p.wo), (.slice b7 p.ir.length m7, p.ir), (.slice b6 p.ti.length m6, p.ti), (.slice b5 p.qu.length m5, p.qu)]) := fun u e => (GS.call y8 o8 (HG.out _ ⟨rfl, rfl, rfl, rfl⟩)).sm e
            clear HG o8 y8
            have HG := HG2
            clear HG2
            (try go_wp2_with fail)
            refine hK.out _ _ ?sa48 (fun hHeld => ?ta48)
            case sa48 => (intro _; exact KS.out _ (GS.k0 (HG.out _ ⟨rfl, rfl, rfl, rfl⟩)))
            replace hHeld := hHeld (un_of (by kernel_rfl))
            clear hK K
            try simp only [Act.put, List.setIfInBounds_toArray, List.set_cons_zero, List.set_cons_succ]
            refine wpAnyK_one (i := 22) (by kernel_rfl) (oneK (o := { dst := some 27, op := Op.call { callee := Callee.value (Operand.func 13), args := #[Operand.tmp 26], argTypes := #[24] }, type := 31, pos := "law.go:32", after := #[{ on := 21, ground := Ground.data }, { on := 19, ground := Ground.chain }], guard := none }) rfl (fun K hK => ?_))
            go_simp
            refine (C9.out _ ?_).mono ?_
            exact GS.bel (HG.out _ ⟨rfl, rfl, rfl, rfl⟩)
            rintro e v9 ⟨r9, rfl, o9, y9⟩
            obtain ⟨b9, m9, rfl⟩ := o9.shape
            have HG2 : Hid (∀ u, Sm u v9 → GS w [.int .i64 p.cp, .int .u64 (p.on : Int), .int .u64 (p.ac : Int), .int .u64 (p.pw : Int), (.slice a4 p.th.length k4), (.slice a5 p.qu.length k5), (.slice a6 p.ti.length k6), (.slice a7 p.ir.length k7), (.slice a8 p.wo.length k8), (.slice a9 p.ca.length k9), (.slice a10 p.ke.length k10), .bool p.bu, .bool p.up, .int .i64 p.cc, .int .i64 p.by'] [.int .i64 0, .int .u64 0, .int .u64 0, .int .u64 0, .slice none 0 0, .slice none 0 0, .slice none 0 0, .slice none 0 0, .slice none 0 0, .slice none 0 0, .slice none 0 0, .bool false, .bool false, .int .i64 0, .int .i64 0] u (some (v7.heap.size, [.int .i64 0, .int .u64 0, .int .u64 0, .int .u64 0, .slice none 0 0, .slice none 0 0, .slice none 0 0, .slice none 0 0, .slice none 0 0, .slice none 0 0, .slice none 0 0, .bool false, .bool false, .int .i64 0, .int .i64 0])) [(.slice b9 p.ca.length m9, p.ca), (.slice b8 p.wo.length m8, p.wo), (.slice b7 p.ir.length m7, p.ir), (.slice b6 p.ti.length m6, p.ti), (.slice b5 p.qu.length m5, p.qu)]) := fun u e => (GS.call y9 o9 (HG.out _ ⟨rfl, rfl, rfl, rfl⟩)).sm e
            clear HG o9 y9
            have HG := HG2
            clear HG2
            (try go_wp2_with fail)
            refine hK.out _ _ ?sa49 (fun hHeld => ?ta49)
            case sa49 => (intro _; exact KS.out _ (GS.k0 (HG.out _ ⟨rfl, rfl, rfl, rfl⟩)))
            replace hHeld := hHeld (un_of (by kernel_rfl))
            clear hK K
            try simp only [Act.put, List.setIfInBounds_toArray, List.set_cons_zero, List.set_cons_succ]
            refine wpAnyK_one (i := 25) (by kernel_rfl) (oneK (o := { dst := some 30, op := Op.call { callee := Callee.value (Operand.func 13), args := #[Operand.tmp 29], argTypes := #[24] }, type := 31, pos := "law.go:32", after := #[{ on := 24, ground := Ground.data }, { on := 22, ground := Ground.chain }], guard := none }) rfl (fun K hK => ?_))
            go_simp
            refine (C10.out _ ?_).mono ?_
            exact GS.bel (HG.out _ ⟨rfl, rfl, rfl, rfl⟩)
            rintro e v10 ⟨r10, rfl, o10, y10⟩
            obtain ⟨b10, m10, rfl⟩ := o10.shape
            have HG2 : Hid (∀ u, Sm u v10 → GS w [.int .i64 p.cp, .int .u64 (p.on : Int), .int .u64 (p.ac : Int), .int .u64 (p.pw : Int), (.slice a4 p.th.length k4), (.slice a5 p.qu.length k5), (.slice a6 p.ti.length k6), (.slice a7 p.ir.length k7), (.slice a8 p.wo.length k8), (.slice a9 p.ca.length k9), (.slice a10 p.ke.length k10), .bool p.bu, .bool p.up, .int .i64 p.cc, .int .i64 p.by'] [.int .i64 0, .int .u64 0, .int .u64 0, .int .u64 0, .slice none 0 0, .slice none 0 0, .slice none 0 0, .slice none 0 0, .slice none 0 0, .slice none 0 0, .slice none 0 0, .bool false, .bool false, .int .i64 0, .int .i64 0] u (some (v7.heap.size, [.int .i64 0, .int .u64 0, .int .u64 0, .int .u64 0, .slice none 0 0, .slice none 0 0, .slice none 0 0, .slice none 0 0, .slice none 0 0, .slice none 0 0, .slice none 0 0, .bool false, .bool false, .int .i64 0, .int .i64 0])) [(.slice b10 p.ke.length m10, p.ke), (.slice b9 p.ca.length m9, p.ca), (.slice b8 p.wo.length m8, p.wo), (.slice b7 p.ir.length m7, p.ir), (.slice b6 p.ti.length m6, p.ti), (.slice b5 p.qu.length m5, p.qu)]) := fun u e => (GS.call y10 o10 (HG.out _ ⟨rfl, rfl, rfl, rfl⟩)).sm e
            clear HG o10 y10
            have HG := HG2
            clear HG2
            (try go_wp2_with fail)
            refine hK.out _ _ ?sa50 (fun hHeld => ?ta50)
            case sa50 => (intro _; exact KS.out _ (GS.k0 (HG.out _ ⟨rfl, rfl, rfl, rfl⟩)))
            replace hHeld := hHeld (un_of (by kernel_rfl))
            clear hK K
            try simp only [Act.put, List.setIfInBounds_toArray, List.set_cons_zero, List.set_cons_succ]
            refine wpAnyK_pure (i := 34) (oi := { dst := some 39, op := Op.build 33 #[(0, Operand.tmp 6), (1, Operand.tmp 8), (2, Operand.tmp 10), (3, Operand.tmp 12), (5, Operand.tmp 15), (6, Operand.tmp 18), (7, Operand.tmp 21), (8, Operand.tmp 24), (9, Operand.tmp 27), (10, Operand.tmp 30), (11, Operand.tmp 32), (12, Operand.tmp 34), (13, Operand.tmp 36), (14, Operand.tmp 38)], type := 33, pos := "law.go:32", after := #[{ on := 1, ground := Ground.data }, { on := 3, ground := Ground.data }, { on := 5, ground := Ground.data }, { on := 7, ground := Ground.data }, { on := 10, ground := Ground.data }, { on := 13, ground := Ground.data }, { on := 16, ground := Ground.data }, { on := 19, ground := Ground.data }, { on := 22, ground := Ground.data }, { on := 25, ground := Ground.data }, { on := 27, ground := Ground.data }, { on := 29, ground := Ground.data }, { on := 31, ground := Ground.data }, { on := 33, ground := Ground.data }], guard := none }) (v := ?va51) rfl (by kernel_rfl) (by kernel_rfl) (by kernel_rfl) (by kernel_rfl) (fun _ _ _ h => h) (Or.inl ⟨by rfl, ?ha51⟩) (fun _ => hHeld) ?ra51
            case ha51 => (intro wz _; go_simp <;> with_reducible rfl)
            try simp only [Act.put, List.setIfInBounds_toArray, List.set_cons_zero, List.set_cons_succ]
            refine wpAnyK_one (i := 36) (by kernel_rfl) (oneK (o := { dst := none, op := Op.store 33 (Operand.tmp 3) (Operand.tmp 39), type := 0, pos := "law.go:32", after := #[{ on := 35, ground := Ground.data }, { on := 34, ground := Ground.data }, { on := 25, ground := Ground.chain }, { on := 0, ground := Ground.phase }, { on := 1, ground := Ground.phase }, { on := 2, ground := Ground.phase }, { on := 3, ground := Ground.phase }, { on := 4, ground := Ground.phase }, { on := 5, ground := Ground.phase }, { on := 6, ground := Ground.phase }, { on := 7, ground := Ground.phase }, { on := 8, ground := Ground.phase }, { on := 9, ground := Ground.phase }, { on := 10, ground := Ground.phase }, { on := 11, ground := Ground.phase }, { on := 12, ground := Ground.phase }, { on := 13, ground := Ground.phase }, { on := 14, ground := Ground.phase }, { on := 15, ground := Ground.phase }, { on := 16, ground := Ground.phase }, { on := 17, ground := Ground.phase }, { on := 18, ground := Ground.phase }, { on := 19, ground := Ground.phase }, { on := 20, ground := Ground.phase }, { on := 21, ground := Ground.phase }, { on := 22, ground := Ground.phase }, { on := 23, ground := Ground.phase }, { on := 24, ground := Ground.phase }, { on := 25, ground := Ground.phase }, { on := 26, ground := Ground.phase }, { on := 27, ground := Ground.phase }, { on := 28, ground := Ground.phase }, { on := 29, ground := Ground.phase }, { on := 30, ground := Ground.phase }, { on := 31, ground := Ground.phase }, { on := 32, ground := Ground.phase }, { on := 33, ground := Ground.phase }, { on := 34, ground := Ground.phase }, { on := 35, ground := Ground.phase }], guard := none }) rfl (fun K hK => ?_))
            refine step_store rfl (.tmp 3) (.tmp 39) 33 rfl rfl rfl (R := fun w' => GS w [.int .i64 p.cp, .int .u64 (p.on : Int), .int .u64 (p.ac : Int), .int .u64 (p.pw : Int), (.slice a4 p.th.length k4), (.slice a5 p.qu.length k5), (.slice a6 p.ti.length k6), (.slice a7 p.ir.length k7), (.slice a8 p.wo.length k8), (.slice a9 p.ca.length k9), (.slice a10 p.ke.length k10), .bool p.bu, .bool p.up, .int .i64 p.cc, .int .i64 p.by'] [.int .i64 0, .int .u64 0, .int .u64 0, .int .u64 0, .slice none 0 0, .slice none 0 0, .slice none 0 0, .slice none 0 0, .slice none 0 0, .slice none 0 0, .slice none 0 0, .bool false, .bool false, .int .i64 0, .int .i64 0] w' (some (v7.heap.size, [.int .i64 p.cp, .int .u64 (p.on : Int), .int .u64 (p.ac : Int), .int .u64 (p.pw : Int), .slice none 0 0, (.slice b5 p.qu.length m5), (.slice b6 p.ti.length m6), (.slice b7 p.ir.length m7), (.slice b8 p.wo.length m8), (.slice b9 p.ca.length m9), (.slice b10 p.ke.length m10), .bool p.bu, .bool p.up, .int .i64 p.cc, .int .i64 p.by'])) [(.slice b10 p.ke.length m10, p.ke), (.slice b9 p.ca.length m9, p.ca), (.slice b8 p.wo.length m8, p.wo), (.slice b7 p.ir.length m7, p.ir), (.slice b6 p.ti.length m6, p.ti), (.slice b5 p.qu.length m5, p.qu)]) (gs_store [.int .i64 p.cp, .int .u64 (p.on : Int), .int .u64 (p.ac : Int), .int .u64 (p.pw : Int), .slice none 0 0, (.slice b5 p.qu.length m5), (.slice b6 p.ti.length m6), (.slice b7 p.ir.length m7), (.slice b8 p.wo.length m8), (.slice b9 p.ca.length m9), (.slice b10 p.ke.length m10), .bool p.bu, .bool p.up, .int .i64 p.cc, .int .i64 p.by'] rfl (by kernel_rfl) (HG.out _ ⟨rfl, rfl, rfl, rfl⟩)) ?_
            intro wx gx
            have HX : Hid (GS _ _ _ wx _ _) := gx
            clear gx HG
            refine hK.out _ _ ?sa52 (fun hHeld => ?ta52)
            case sa52 => (intro hU; exact absurd hU (un_not (by kernel_rfl)))
            clear hHeld hK K
            try simp only [Act.put, List.setIfInBounds_toArray, List.set_cons_zero, List.set_cons_succ]
            refine wpAnyK_done (by kernel_rfl) ?_ _
            go_wp2_with fail
            go_meet
            case rel => exact ⟨rfl, rfl, _, _, _, _, _, _, _, _, _, _, _, _, _, rfl, HX.out⟩
        · go_simp
          have HG2 : Hid (∀ u, Sm u (v6.alloc (.cells #[.int .i64 0, .int .u64 0, .int .u64 0, .int .u64 0, .slice none 0 0, .slice none 0 0, .slice none 0 0, .slice none 0 0, .slice none 0 0, .slice none 0 0, .slice none 0 0, .bool false, .bool false, .int .i64 0, .int .i64 0] 33)) → GS w [.int .i64 p.cp, .int .u64 (p.on : Int), .int .u64 (p.ac : Int), .int .u64 (p.pw : Int), (.slice a4 p.th.length k4), (.slice a5 p.qu.length k5), (.slice a6 p.ti.length k6), (.slice a7 p.ir.length k7), (.slice a8 p.wo.length k8), (.slice a9 p.ca.length k9), (.slice a10 p.ke.length k10), .bool p.bu, .bool p.up, .int .i64 p.cc, .int .i64 p.by'] [.int .i64 0, .int .u64 0, .int .u64 0, .int .u64 0, .slice none 0 0, .slice none 0 0, .slice none 0 0, .slice none 0 0, .slice none 0 0, .slice none 0 0, .slice none 0 0, .bool false, .bool false, .int .i64 0, .int .i64 0] u (some (v6.heap.size, [.int .i64 0, .int .u64 0, .int .u64 0, .int .u64 0, .slice none 0 0, .slice none 0 0, .slice none 0 0, .slice none 0 0, .slice none 0 0, .slice none 0 0, .slice none 0 0, .bool false, .bool false, .int .i64 0, .int .i64 0])) [(.slice b6 p.ti.length m6, p.ti), (.slice b5 p.qu.length m5, p.qu)]) := fun u e => ((HG.out v6 ⟨rfl, rfl, rfl, rfl⟩).alloc [.int .i64 0, .int .u64 0, .int .u64 0, .int .u64 0, .slice none 0 0, .slice none 0 0, .slice none 0 0, .slice none 0 0, .slice none 0 0, .slice none 0 0, .slice none 0 0, .bool false, .bool false, .int .i64 0, .int .i64 0]).sm e
          clear HG
          have HG := HG2
          clear HG2
          (try go_wp2_with fail)
          refine hK.out _ _ ?sa53 (fun hHeld => ?ta53)
          case sa53 => (intro _; exact KS.out _ (GS.k0 (HG.out _ ⟨rfl, rfl, rfl, rfl⟩)))
          replace hHeld := hHeld (un_of (by kernel_rfl))
          clear hK K
          try simp only [Act.put, List.setIfInBounds_toArray, List.set_cons_zero, List.set_cons_succ]
          refine wpAnyK_one (i := 16) (by kernel_rfl) (oneK (o := { dst := some 21, op := Op.call { callee := Callee.value (Operand.func 13), args := #[Operand.tmp 20], argTypes := #[24] }, type := 31, pos := "law.go:32", after := #[{ on := 15, ground := Ground.data }, { on := 13, ground := Ground.chain }], guard := none }) rfl (fun K hK => ?_))
          go_simp
          refine (C7.out _ ?_).mono ?_
          exact GS.bel (HG.out _ ⟨rfl, rfl, rfl, rfl⟩)
          rintro e v7 ⟨r7, rfl, o7, y7⟩
          obtain ⟨b7, m7, rfl⟩ := o7.shape
          have HG2 : Hid (∀ u, Sm u v7 → GS w [.int .i64 p.cp, .int .u64 (p.on : Int), .int .u64 (p.ac : Int), .int .u64 (p.pw : Int), (.slice a4 p.th.length k4), (.slice a5 p.qu.length k5), (.slice a6 p.ti.length k6), (.slice a7 p.ir.length k7), (.slice a8 p.wo.length k8), (.slice a9 p.ca.length k9), (.slice a10 p.ke.length k10), .bool p.bu, .bool p.up, .int .i64 p.cc, .int .i64 p.by'] [.int .i64 0, .int .u64 0, .int .u64 0, .int .u64 0, .slice none 0 0, .slice none 0 0, .slice none 0 0, .slice none 0 0, .slice none 0 0, .slice none 0 0, .slice none 0 0, .bool false, .bool false, .int .i64 0, .int .i64 0] u (some (v6.heap.size, [.int .i64 0, .int .u64 0, .int .u64 0, .int .u64 0, .slice none 0 0, .slice none 0 0, .slice none 0 0, .slice none 0 0, .slice none 0 0, .slice none 0 0, .slice none 0 0, .bool false, .bool false, .int .i64 0, .int .i64 0])) [(.slice b7 p.ir.length m7, p.ir), (.slice b6 p.ti.length m6, p.ti), (.slice b5 p.qu.length m5, p.qu)]) := fun u e => (GS.call y7 o7 (HG.out _ ⟨rfl, rfl, rfl, rfl⟩)).sm e
          clear HG o7 y7
          have HG := HG2
          clear HG2
          (try go_wp2_with fail)
          refine hK.out _ _ ?sa54 (fun hHeld => ?ta54)
          case sa54 => (intro _; exact KS.out _ (GS.k0 (HG.out _ ⟨rfl, rfl, rfl, rfl⟩)))
          replace hHeld := hHeld (un_of (by kernel_rfl))
          clear hK K
          try simp only [Act.put, List.setIfInBounds_toArray, List.set_cons_zero, List.set_cons_succ]
          refine wpAnyK_one (i := 19) (by kernel_rfl) (oneK (o := { dst := some 24, op := Op.call { callee := Callee.value (Operand.func 13), args := #[Operand.tmp 23], argTypes := #[24] }, type := 31, pos := "law.go:32", after := #[{ on := 18, ground := Ground.data }, { on := 16, ground := Ground.chain }], guard := none }) rfl (fun K hK => ?_))
          go_simp
          refine (C8.out _ ?_).mono ?_
          exact GS.bel (HG.out _ ⟨rfl, rfl, rfl, rfl⟩)
          rintro e v8 ⟨r8, rfl, o8, y8⟩
          obtain ⟨b8, m8, rfl⟩ := o8.shape
          have HG2 : Hid (∀ u, Sm u v8 → GS w [.int .i64 p.cp, .int .u64 (p.on : Int), .int .u64 (p.ac : Int), .int .u64 (p.pw : Int), (.slice a4 p.th.length k4), (.slice a5 p.qu.length k5), (.slice a6 p.ti.length k6), (.slice a7 p.ir.length k7), (.slice a8 p.wo.length k8), (.slice a9 p.ca.length k9), (.slice a10 p.ke.length k10), .bool p.bu, .bool p.up, .int .i64 p.cc, .int .i64 p.by'] [.int .i64 0, .int .u64 0, .int .u64 0, .int .u64 0, .slice none 0 0, .slice none 0 0, .slice none 0 0, .slice none 0 0, .slice none 0 0, .slice none 0 0, .slice none 0 0, .bool false, .bool false, .int .i64 0, .int .i64 0] u (some (v6.heap.size, [.int .i64 0, .int .u64 0, .int .u64 0, .int .u64 0, .slice none 0 0, .slice none 0 0, .slice none 0 0, .slice none 0 0, .slice none 0 0, .slice none 0 0, .slice none 0 0, .bool false, .bool false, .int .i64 0, .int .i64 0])) [(.slice b8 p.wo.length m8, p.wo), (.slice b7 p.ir.length m7, p.ir), (.slice b6 p.ti.length m6, p.ti), (.slice b5 p.qu.length m5, p.qu)]) := fun u e => (GS.call y8 o8 (HG.out _ ⟨rfl, rfl, rfl, rfl⟩)).sm e
          clear HG o8 y8
          have HG := HG2
          clear HG2
          (try go_wp2_with fail)
          refine hK.out _ _ ?sa55 (fun hHeld => ?ta55)
          case sa55 => (intro _; exact KS.out _ (GS.k0 (HG.out _ ⟨rfl, rfl, rfl, rfl⟩)))
          replace hHeld := hHeld (un_of (by kernel_rfl))
          clear hK K
          try simp only [Act.put, List.setIfInBounds_toArray, List.set_cons_zero, List.set_cons_succ]
          refine wpAnyK_one (i := 22) (by kernel_rfl) (oneK (o := { dst := some 27, op := Op.call { callee := Callee.value (Operand.func 13), args := #[Operand.tmp 26], argTypes := #[24] }, type := 31, pos := "law.go:32", after := #[{ on := 21, ground := Ground.data }, { on := 19, ground := Ground.chain }], guard := none }) rfl (fun K hK => ?_))
          go_simp
          refine (C9.out _ ?_).mono ?_
          exact GS.bel (HG.out _ ⟨rfl, rfl, rfl, rfl⟩)
          rintro e v9 ⟨r9, rfl, o9, y9⟩
          obtain ⟨b9, m9, rfl⟩ := o9.shape
          have HG2 : Hid (∀ u, Sm u v9 → GS w [.int .i64 p.cp, .int .u64 (p.on : Int), .int .u64 (p.ac : Int), .int .u64 (p.pw : Int), (.slice a4 p.th.length k4), (.slice a5 p.qu.length k5), (.slice a6 p.ti.length k6), (.slice a7 p.ir.length k7), (.slice a8 p.wo.length k8), (.slice a9 p.ca.length k9), (.slice a10 p.ke.length k10), .bool p.bu, .bool p.up, .int .i64 p.cc, .int .i64 p.by'] [.int .i64 0, .int .u64 0, .int .u64 0, .int .u64 0, .slice none 0 0, .slice none 0 0, .slice none 0 0, .slice none 0 0, .slice none 0 0, .slice none 0 0, .slice none 0 0, .bool false, .bool false, .int .i64 0, .int .i64 0] u (some (v6.heap.size, [.int .i64 0, .int .u64 0, .int .u64 0, .int .u64 0, .slice none 0 0, .slice none 0 0, .slice none 0 0, .slice none 0 0, .slice none 0 0, .slice none 0 0, .slice none 0 0, .bool false, .bool false, .int .i64 0, .int .i64 0])) [(.slice b9 p.ca.length m9, p.ca), (.slice b8 p.wo.length m8, p.wo), (.slice b7 p.ir.length m7, p.ir), (.slice b6 p.ti.length m6, p.ti), (.slice b5 p.qu.length m5, p.qu)]) := fun u e => (GS.call y9 o9 (HG.out _ ⟨rfl, rfl, rfl, rfl⟩)).sm e
          clear HG o9 y9
          have HG := HG2
          clear HG2
          (try go_wp2_with fail)
          refine hK.out _ _ ?sa56 (fun hHeld => ?ta56)
          case sa56 => (intro _; exact KS.out _ (GS.k0 (HG.out _ ⟨rfl, rfl, rfl, rfl⟩)))
          replace hHeld := hHeld (un_of (by kernel_rfl))
          clear hK K
          try simp only [Act.put, List.setIfInBounds_toArray, List.set_cons_zero, List.set_cons_succ]
          refine wpAnyK_one (i := 25) (by kernel_rfl) (oneK (o := { dst := some 30, op := Op.call { callee := Callee.value (Operand.func 13), args := #[Operand.tmp 29], argTypes := #[24] }, type := 31, pos := "law.go:32", after := #[{ on := 24, ground := Ground.data }, { on := 22, ground := Ground.chain }], guard := none }) rfl (fun K hK => ?_))
          go_simp
          refine (C10.out _ ?_).mono ?_
          exact GS.bel (HG.out _ ⟨rfl, rfl, rfl, rfl⟩)
          rintro e v10 ⟨r10, rfl, o10, y10⟩
          obtain ⟨b10, m10, rfl⟩ := o10.shape
          have HG2 : Hid (∀ u, Sm u v10 → GS w [.int .i64 p.cp, .int .u64 (p.on : Int), .int .u64 (p.ac : Int), .int .u64 (p.pw : Int), (.slice a4 p.th.length k4), (.slice a5 p.qu.length k5), (.slice a6 p.ti.length k6), (.slice a7 p.ir.length k7), (.slice a8 p.wo.length k8), (.slice a9 p.ca.length k9), (.slice a10 p.ke.length k10), .bool p.bu, .bool p.up, .int .i64 p.cc, .int .i64 p.by'] [.int .i64 0, .int .u64 0, .int .u64 0, .int .u64 0, .slice none 0 0, .slice none 0 0, .slice none 0 0, .slice none 0 0, .slice none 0 0, .slice none 0 0, .slice none 0 0, .bool false, .bool false, .int .i64 0, .int .i64 0] u (some (v6.heap.size, [.int .i64 0, .int .u64 0, .int .u64 0, .int .u64 0, .slice none 0 0, .slice none 0 0, .slice none 0 0, .slice none 0 0, .slice none 0 0, .slice none 0 0, .slice none 0 0, .bool false, .bool false, .int .i64 0, .int .i64 0])) [(.slice b10 p.ke.length m10, p.ke), (.slice b9 p.ca.length m9, p.ca), (.slice b8 p.wo.length m8, p.wo), (.slice b7 p.ir.length m7, p.ir), (.slice b6 p.ti.length m6, p.ti), (.slice b5 p.qu.length m5, p.qu)]) := fun u e => (GS.call y10 o10 (HG.out _ ⟨rfl, rfl, rfl, rfl⟩)).sm e
          clear HG o10 y10
          have HG := HG2
          clear HG2
          (try go_wp2_with fail)
          refine hK.out _ _ ?sa57 (fun hHeld => ?ta57)
          case sa57 => (intro _; exact KS.out _ (GS.k0 (HG.out _ ⟨rfl, rfl, rfl, rfl⟩)))
          replace hHeld := hHeld (un_of (by kernel_rfl))
          clear hK K
          try simp only [Act.put, List.setIfInBounds_toArray, List.set_cons_zero, List.set_cons_succ]
          refine wpAnyK_pure (i := 34) (oi := { dst := some 39, op := Op.build 33 #[(0, Operand.tmp 6), (1, Operand.tmp 8), (2, Operand.tmp 10), (3, Operand.tmp 12), (5, Operand.tmp 15), (6, Operand.tmp 18), (7, Operand.tmp 21), (8, Operand.tmp 24), (9, Operand.tmp 27), (10, Operand.tmp 30), (11, Operand.tmp 32), (12, Operand.tmp 34), (13, Operand.tmp 36), (14, Operand.tmp 38)], type := 33, pos := "law.go:32", after := #[{ on := 1, ground := Ground.data }, { on := 3, ground := Ground.data }, { on := 5, ground := Ground.data }, { on := 7, ground := Ground.data }, { on := 10, ground := Ground.data }, { on := 13, ground := Ground.data }, { on := 16, ground := Ground.data }, { on := 19, ground := Ground.data }, { on := 22, ground := Ground.data }, { on := 25, ground := Ground.data }, { on := 27, ground := Ground.data }, { on := 29, ground := Ground.data }, { on := 31, ground := Ground.data }, { on := 33, ground := Ground.data }], guard := none }) (v := ?va58) rfl (by kernel_rfl) (by kernel_rfl) (by kernel_rfl) (by kernel_rfl) (fun _ _ _ h => h) (Or.inl ⟨by rfl, ?ha58⟩) (fun _ => hHeld) ?ra58
          case ha58 => (intro wz _; go_simp <;> with_reducible rfl)
          try simp only [Act.put, List.setIfInBounds_toArray, List.set_cons_zero, List.set_cons_succ]
          refine wpAnyK_one (i := 36) (by kernel_rfl) (oneK (o := { dst := none, op := Op.store 33 (Operand.tmp 3) (Operand.tmp 39), type := 0, pos := "law.go:32", after := #[{ on := 35, ground := Ground.data }, { on := 34, ground := Ground.data }, { on := 25, ground := Ground.chain }, { on := 0, ground := Ground.phase }, { on := 1, ground := Ground.phase }, { on := 2, ground := Ground.phase }, { on := 3, ground := Ground.phase }, { on := 4, ground := Ground.phase }, { on := 5, ground := Ground.phase }, { on := 6, ground := Ground.phase }, { on := 7, ground := Ground.phase }, { on := 8, ground := Ground.phase }, { on := 9, ground := Ground.phase }, { on := 10, ground := Ground.phase }, { on := 11, ground := Ground.phase }, { on := 12, ground := Ground.phase }, { on := 13, ground := Ground.phase }, { on := 14, ground := Ground.phase }, { on := 15, ground := Ground.phase }, { on := 16, ground := Ground.phase }, { on := 17, ground := Ground.phase }, { on := 18, ground := Ground.phase }, { on := 19, ground := Ground.phase }, { on := 20, ground := Ground.phase }, { on := 21, ground := Ground.phase }, { on := 22, ground := Ground.phase }, { on := 23, ground := Ground.phase }, { on := 24, ground := Ground.phase }, { on := 25, ground := Ground.phase }, { on := 26, ground := Ground.phase }, { on := 27, ground := Ground.phase }, { on := 28, ground := Ground.phase }, { on := 29, ground := Ground.phase }, { on := 30, ground := Ground.phase }, { on := 31, ground := Ground.phase }, { on := 32, ground := Ground.phase }, { on := 33, ground := Ground.phase }, { on := 34, ground := Ground.phase }, { on := 35, ground := Ground.phase }], guard := none }) rfl (fun K hK => ?_))
          refine step_store rfl (.tmp 3) (.tmp 39) 33 rfl rfl rfl (R := fun w' => GS w [.int .i64 p.cp, .int .u64 (p.on : Int), .int .u64 (p.ac : Int), .int .u64 (p.pw : Int), (.slice a4 p.th.length k4), (.slice a5 p.qu.length k5), (.slice a6 p.ti.length k6), (.slice a7 p.ir.length k7), (.slice a8 p.wo.length k8), (.slice a9 p.ca.length k9), (.slice a10 p.ke.length k10), .bool p.bu, .bool p.up, .int .i64 p.cc, .int .i64 p.by'] [.int .i64 0, .int .u64 0, .int .u64 0, .int .u64 0, .slice none 0 0, .slice none 0 0, .slice none 0 0, .slice none 0 0, .slice none 0 0, .slice none 0 0, .slice none 0 0, .bool false, .bool false, .int .i64 0, .int .i64 0] w' (some (v6.heap.size, [.int .i64 p.cp, .int .u64 (p.on : Int), .int .u64 (p.ac : Int), .int .u64 (p.pw : Int), .slice none 0 0, (.slice b5 p.qu.length m5), (.slice b6 p.ti.length m6), (.slice b7 p.ir.length m7), (.slice b8 p.wo.length m8), (.slice b9 p.ca.length m9), (.slice b10 p.ke.length m10), .bool p.bu, .bool p.up, .int .i64 p.cc, .int .i64 p.by'])) [(.slice b10 p.ke.length m10, p.ke), (.slice b9 p.ca.length m9, p.ca), (.slice b8 p.wo.length m8, p.wo), (.slice b7 p.ir.length m7, p.ir), (.slice b6 p.ti.length m6, p.ti), (.slice b5 p.qu.length m5, p.qu)]) (gs_store [.int .i64 p.cp, .int .u64 (p.on : Int), .int .u64 (p.ac : Int), .int .u64 (p.pw : Int), .slice none 0 0, (.slice b5 p.qu.length m5), (.slice b6 p.ti.length m6), (.slice b7 p.ir.length m7), (.slice b8 p.wo.length m8), (.slice b9 p.ca.length m9), (.slice b10 p.ke.length m10), .bool p.bu, .bool p.up, .int .i64 p.cc, .int .i64 p.by'] rfl (by kernel_rfl) (HG.out _ ⟨rfl, rfl, rfl, rfl⟩)) ?_
          intro wx gx
          have HX : Hid (GS _ _ _ wx _ _) := gx
          clear gx HG
          refine hK.out _ _ ?sa59 (fun hHeld => ?ta59)
          case sa59 => (intro hU; exact absurd hU (un_not (by kernel_rfl)))
          clear hHeld hK K
          try simp only [Act.put, List.setIfInBounds_toArray, List.set_cons_zero, List.set_cons_succ]
          refine wpAnyK_done (by kernel_rfl) ?_ _
          go_wp2_with fail
          go_meet
          case rel => exact ⟨rfl, rfl, _, _, _, _, _, _, _, _, _, _, _, _, _, rfl, HX.out⟩
      · go_simp
        have HG2 : Hid (∀ u, Sm u (v5.alloc (.cells #[.int .i64 0, .int .u64 0, .int .u64 0, .int .u64 0, .slice none 0 0, .slice none 0 0, .slice none 0 0, .slice none 0 0, .slice none 0 0, .slice none 0 0, .slice none 0 0, .bool false, .bool false, .int .i64 0, .int .i64 0] 33)) → GS w [.int .i64 p.cp, .int .u64 (p.on : Int), .int .u64 (p.ac : Int), .int .u64 (p.pw : Int), (.slice a4 p.th.length k4), (.slice a5 p.qu.length k5), (.slice a6 p.ti.length k6), (.slice a7 p.ir.length k7), (.slice a8 p.wo.length k8), (.slice a9 p.ca.length k9), (.slice a10 p.ke.length k10), .bool p.bu, .bool p.up, .int .i64 p.cc, .int .i64 p.by'] [.int .i64 0, .int .u64 0, .int .u64 0, .int .u64 0, .slice none 0 0, .slice none 0 0, .slice none 0 0, .slice none 0 0, .slice none 0 0, .slice none 0 0, .slice none 0 0, .bool false, .bool false, .int .i64 0, .int .i64 0] u (some (v5.heap.size, [.int .i64 0, .int .u64 0, .int .u64 0, .int .u64 0, .slice none 0 0, .slice none 0 0, .slice none 0 0, .slice none 0 0, .slice none 0 0, .slice none 0 0, .slice none 0 0, .bool false, .bool false, .int .i64 0, .int .i64 0])) [(.slice b5 p.qu.length m5, p.qu)]) := fun u e => ((HG.out v5 ⟨rfl, rfl, rfl, rfl⟩).alloc [.int .i64 0, .int .u64 0, .int .u64 0, .int .u64 0, .slice none 0 0, .slice none 0 0, .slice none 0 0, .slice none 0 0, .slice none 0 0, .slice none 0 0, .slice none 0 0, .bool false, .bool false, .int .i64 0, .int .i64 0]).sm e
        clear HG
        have HG := HG2
        clear HG2
        (try go_wp2_with fail)
        refine hK.out _ _ ?sa60 (fun hHeld => ?ta60)
        case sa60 => (intro _; exact KS.out _ (GS.k0 (HG.out _ ⟨rfl, rfl, rfl, rfl⟩)))
        replace hHeld := hHeld (un_of (by kernel_rfl))
        clear hK K
        try simp only [Act.put, List.setIfInBounds_toArray, List.set_cons_zero, List.set_cons_succ]
        refine wpAnyK_one (i := 13) (by kernel_rfl) (oneK (o := { dst := some 18, op := Op.call { callee := Callee.value (Operand.func 13), args := #[Operand.tmp 17], argTypes := #[24] }, type := 31, pos := "law.go:32", after := #[{ on := 12, ground := Ground.data }, { on := 10, ground := Ground.chain }], guard := none }) rfl (fun K hK => ?_))
        go_simp
        refine (C6.out _ ?_).mono ?_
        exact GS.bel (HG.out _ ⟨rfl, rfl, rfl, rfl⟩)
        rintro e v6 ⟨r6, rfl, o6, y6⟩
        obtain ⟨b6, m6, rfl⟩ := o6.shape
        have HG2 : Hid (∀ u, Sm u v6 → GS w [.int .i64 p.cp, .int .u64 (p.on : Int), .int .u64 (p.ac : Int), .int .u64 (p.pw : Int), (.slice a4 p.th.length k4), (.slice a5 p.qu.length k5), (.slice a6 p.ti.length k6), (.slice a7 p.ir.length k7), (.slice a8 p.wo.length k8), (.slice a9 p.ca.length k9), (.slice a10 p.ke.length k10), .bool p.bu, .bool p.up, .int .i64 p.cc, .int .i64 p.by'] [.int .i64 0, .int .u64 0, .int .u64 0, .int .u64 0, .slice none 0 0, .slice none 0 0, .slice none 0 0, .slice none 0 0, .slice none 0 0, .slice none 0 0, .slice none 0 0, .bool false, .bool false, .int .i64 0, .int .i64 0] u (some (v5.heap.size, [.int .i64 0, .int .u64 0, .int .u64 0, .int .u64 0, .slice none 0 0, .slice none 0 0, .slice none 0 0, .slice none 0 0, .slice none 0 0, .slice none 0 0, .slice none 0 0, .bool false, .bool false, .int .i64 0, .int .i64 0])) [(.slice b6 p.ti.length m6, p.ti), (.slice b5 p.qu.length m5, p.qu)]) := fun u e => (GS.call y6 o6 (HG.out _ ⟨rfl, rfl, rfl, rfl⟩)).sm e
        clear HG o6 y6
        have HG := HG2
        clear HG2
        (try go_wp2_with fail)
        refine hK.out _ _ ?sa61 (fun hHeld => ?ta61)
        case sa61 => (intro _; exact KS.out _ (GS.k0 (HG.out _ ⟨rfl, rfl, rfl, rfl⟩)))
        replace hHeld := hHeld (un_of (by kernel_rfl))
        clear hK K
        try simp only [Act.put, List.setIfInBounds_toArray, List.set_cons_zero, List.set_cons_succ]
        refine wpAnyK_one (i := 16) (by kernel_rfl) (oneK (o := { dst := some 21, op := Op.call { callee := Callee.value (Operand.func 13), args := #[Operand.tmp 20], argTypes := #[24] }, type := 31, pos := "law.go:32", after := #[{ on := 15, ground := Ground.data }, { on := 13, ground := Ground.chain }], guard := none }) rfl (fun K hK => ?_))
        go_simp
        refine (C7.out _ ?_).mono ?_
        exact GS.bel (HG.out _ ⟨rfl, rfl, rfl, rfl⟩)
        rintro e v7 ⟨r7, rfl, o7, y7⟩
        obtain ⟨b7, m7, rfl⟩ := o7.shape
        have HG2 : Hid (∀ u, Sm u v7 → GS w [.int .i64 p.cp, .int .u64 (p.on : Int), .int .u64 (p.ac : Int), .int .u64 (p.pw : Int), (.slice a4 p.th.length k4), (.slice a5 p.qu.length k5), (.slice a6 p.ti.length k6), (.slice a7 p.ir.length k7), (.slice a8 p.wo.length k8), (.slice a9 p.ca.length k9), (.slice a10 p.ke.length k10), .bool p.bu, .bool p.up, .int .i64 p.cc, .int .i64 p.by'] [.int .i64 0, .int .u64 0, .int .u64 0, .int .u64 0, .slice none 0 0, .slice none 0 0, .slice none 0 0, .slice none 0 0, .slice none 0 0, .slice none 0 0, .slice none 0 0, .bool false, .bool false, .int .i64 0, .int .i64 0] u (some (v5.heap.size, [.int .i64 0, .int .u64 0, .int .u64 0, .int .u64 0, .slice none 0 0, .slice none 0 0, .slice none 0 0, .slice none 0 0, .slice none 0 0, .slice none 0 0, .slice none 0 0, .bool false, .bool false, .int .i64 0, .int .i64 0])) [(.slice b7 p.ir.length m7, p.ir), (.slice b6 p.ti.length m6, p.ti), (.slice b5 p.qu.length m5, p.qu)]) := fun u e => (GS.call y7 o7 (HG.out _ ⟨rfl, rfl, rfl, rfl⟩)).sm e
        clear HG o7 y7
        have HG := HG2
        clear HG2
        (try go_wp2_with fail)
        refine hK.out _ _ ?sa62 (fun hHeld => ?ta62)
        case sa62 => (intro _; exact KS.out _ (GS.k0 (HG.out _ ⟨rfl, rfl, rfl, rfl⟩)))
        replace hHeld := hHeld (un_of (by kernel_rfl))
        clear hK K
        try simp only [Act.put, List.setIfInBounds_toArray, List.set_cons_zero, List.set_cons_succ]
        refine wpAnyK_one (i := 19) (by kernel_rfl) (oneK (o := { dst := some 24, op := Op.call { callee := Callee.value (Operand.func 13), args := #[Operand.tmp 23], argTypes := #[24] }, type := 31, pos := "law.go:32", after := #[{ on := 18, ground := Ground.data }, { on := 16, ground := Ground.chain }], guard := none }) rfl (fun K hK => ?_))
        go_simp
        refine (C8.out _ ?_).mono ?_
        exact GS.bel (HG.out _ ⟨rfl, rfl, rfl, rfl⟩)
        rintro e v8 ⟨r8, rfl, o8, y8⟩
        obtain ⟨b8, m8, rfl⟩ := o8.shape
        have HG2 : Hid (∀ u, Sm u v8 → GS w [.int .i64 p.cp, .int .u64 (p.on : Int), .int .u64 (p.ac : Int), .int .u64 (p.pw : Int), (.slice a4 p.th.length k4), (.slice a5 p.qu.length k5), (.slice a6 p.ti.length k6), (.slice a7 p.ir.length k7), (.slice a8 p.wo.length k8), (.slice a9 p.ca.length k9), (.slice a10 p.ke.length k10), .bool p.bu, .bool p.up, .int .i64 p.cc, .int .i64 p.by'] [.int .i64 0, .int .u64 0, .int .u64 0, .int .u64 0, .slice none 0 0, .slice none 0 0, .slice none 0 0, .slice none 0 0, .slice none 0 0, .slice none 0 0, .slice none 0 0, .bool false, .bool false, .int .i64 0, .int .i64 0] u (some (v5.heap.size, [.int .i64 0, .int .u64 0, .int .u64 0, .int .u64 0, .slice none 0 0, .slice none 0 0, .slice none 0 0, .slice none 0 0, .slice none 0 0, .slice none 0 0, .slice none 0 0, .bool false, .bool false, .int .i64 0, .int .i64 0])) [(.slice b8 p.wo.length m8, p.wo), (.slice b7 p.ir.length m7, p.ir), (.slice b6 p.ti.length m6, p.ti), (.slice b5 p.qu.length m5, p.qu)]) := fun u e => (GS.call y8 o8 (HG.out _ ⟨rfl, rfl, rfl, rfl⟩)).sm e
        clear HG o8 y8
        have HG := HG2
        clear HG2
        (try go_wp2_with fail)
        refine hK.out _ _ ?sa63 (fun hHeld => ?ta63)
        case sa63 => (intro _; exact KS.out _ (GS.k0 (HG.out _ ⟨rfl, rfl, rfl, rfl⟩)))
        replace hHeld := hHeld (un_of (by kernel_rfl))
        clear hK K
        try simp only [Act.put, List.setIfInBounds_toArray, List.set_cons_zero, List.set_cons_succ]
        refine wpAnyK_one (i := 22) (by kernel_rfl) (oneK (o := { dst := some 27, op := Op.call { callee := Callee.value (Operand.func 13), args := #[Operand.tmp 26], argTypes := #[24] }, type := 31, pos := "law.go:32", after := #[{ on := 21, ground := Ground.data }, { on := 19, ground := Ground.chain }], guard := none }) rfl (fun K hK => ?_))
        go_simp
        refine (C9.out _ ?_).mono ?_
        exact GS.bel (HG.out _ ⟨rfl, rfl, rfl, rfl⟩)
        rintro e v9 ⟨r9, rfl, o9, y9⟩
        obtain ⟨b9, m9, rfl⟩ := o9.shape
        have HG2 : Hid (∀ u, Sm u v9 → GS w [.int .i64 p.cp, .int .u64 (p.on : Int), .int .u64 (p.ac : Int), .int .u64 (p.pw : Int), (.slice a4 p.th.length k4), (.slice a5 p.qu.length k5), (.slice a6 p.ti.length k6), (.slice a7 p.ir.length k7), (.slice a8 p.wo.length k8), (.slice a9 p.ca.length k9), (.slice a10 p.ke.length k10), .bool p.bu, .bool p.up, .int .i64 p.cc, .int .i64 p.by'] [.int .i64 0, .int .u64 0, .int .u64 0, .int .u64 0, .slice none 0 0, .slice none 0 0, .slice none 0 0, .slice none 0 0, .slice none 0 0, .slice none 0 0, .slice none 0 0, .bool false, .bool false, .int .i64 0, .int .i64 0] u (some (v5.heap.size, [.int .i64 0, .int .u64 0, .int .u64 0, .int .u64 0, .slice none 0 0, .slice none 0 0, .slice none 0 0, .slice none 0 0, .slice none 0 0, .slice none 0 0, .slice none 0 0, .bool false, .bool false, .int .i64 0, .int .i64 0])) [(.slice b9 p.ca.length m9, p.ca), (.slice b8 p.wo.length m8, p.wo), (.slice b7 p.ir.length m7, p.ir), (.slice b6 p.ti.length m6, p.ti), (.slice b5 p.qu.length m5, p.qu)]) := fun u e => (GS.call y9 o9 (HG.out _ ⟨rfl, rfl, rfl, rfl⟩)).sm e
        clear HG o9 y9
        have HG := HG2
        clear HG2
        (try go_wp2_with fail)
        refine hK.out _ _ ?sa64 (fun hHeld => ?ta64)
        case sa64 => (intro _; exact KS.out _ (GS.k0 (HG.out _ ⟨rfl, rfl, rfl, rfl⟩)))
        replace hHeld := hHeld (un_of (by kernel_rfl))
        clear hK K
        try simp only [Act.put, List.setIfInBounds_toArray, List.set_cons_zero, List.set_cons_succ]
        refine wpAnyK_one (i := 25) (by kernel_rfl) (oneK (o := { dst := some 30, op := Op.call { callee := Callee.value (Operand.func 13), args := #[Operand.tmp 29], argTypes := #[24] }, type := 31, pos := "law.go:32", after := #[{ on := 24, ground := Ground.data }, { on := 22, ground := Ground.chain }], guard := none }) rfl (fun K hK => ?_))
        go_simp
        refine (C10.out _ ?_).mono ?_
        exact GS.bel (HG.out _ ⟨rfl, rfl, rfl, rfl⟩)
        rintro e v10 ⟨r10, rfl, o10, y10⟩
        obtain ⟨b10, m10, rfl⟩ := o10.shape
        have HG2 : Hid (∀ u, Sm u v10 → GS w [.int .i64 p.cp, .int .u64 (p.on : Int), .int .u64 (p.ac : Int), .int .u64 (p.pw : Int), (.slice a4 p.th.length k4), (.slice a5 p.qu.length k5), (.slice a6 p.ti.length k6), (.slice a7 p.ir.length k7), (.slice a8 p.wo.length k8), (.slice a9 p.ca.length k9), (.slice a10 p.ke.length k10), .bool p.bu, .bool p.up, .int .i64 p.cc, .int .i64 p.by'] [.int .i64 0, .int .u64 0, .int .u64 0, .int .u64 0, .slice none 0 0, .slice none 0 0, .slice none 0 0, .slice none 0 0, .slice none 0 0, .slice none 0 0, .slice none 0 0, .bool false, .bool false, .int .i64 0, .int .i64 0] u (some (v5.heap.size, [.int .i64 0, .int .u64 0, .int .u64 0, .int .u64 0, .slice none 0 0, .slice none 0 0, .slice none 0 0, .slice none 0 0, .slice none 0 0, .slice none 0 0, .slice none 0 0, .bool false, .bool false, .int .i64 0, .int .i64 0])) [(.slice b10 p.ke.length m10, p.ke), (.slice b9 p.ca.length m9, p.ca), (.slice b8 p.wo.length m8, p.wo), (.slice b7 p.ir.length m7, p.ir), (.slice b6 p.ti.length m6, p.ti), (.slice b5 p.qu.length m5, p.qu)]) := fun u e => (GS.call y10 o10 (HG.out _ ⟨rfl, rfl, rfl, rfl⟩)).sm e
        clear HG o10 y10
        have HG := HG2
        clear HG2
        (try go_wp2_with fail)
        refine hK.out _ _ ?sa65 (fun hHeld => ?ta65)
        case sa65 => (intro _; exact KS.out _ (GS.k0 (HG.out _ ⟨rfl, rfl, rfl, rfl⟩)))
        replace hHeld := hHeld (un_of (by kernel_rfl))
        clear hK K
        try simp only [Act.put, List.setIfInBounds_toArray, List.set_cons_zero, List.set_cons_succ]
        refine wpAnyK_pure (i := 34) (oi := { dst := some 39, op := Op.build 33 #[(0, Operand.tmp 6), (1, Operand.tmp 8), (2, Operand.tmp 10), (3, Operand.tmp 12), (5, Operand.tmp 15), (6, Operand.tmp 18), (7, Operand.tmp 21), (8, Operand.tmp 24), (9, Operand.tmp 27), (10, Operand.tmp 30), (11, Operand.tmp 32), (12, Operand.tmp 34), (13, Operand.tmp 36), (14, Operand.tmp 38)], type := 33, pos := "law.go:32", after := #[{ on := 1, ground := Ground.data }, { on := 3, ground := Ground.data }, { on := 5, ground := Ground.data }, { on := 7, ground := Ground.data }, { on := 10, ground := Ground.data }, { on := 13, ground := Ground.data }, { on := 16, ground := Ground.data }, { on := 19, ground := Ground.data }, { on := 22, ground := Ground.data }, { on := 25, ground := Ground.data }, { on := 27, ground := Ground.data }, { on := 29, ground := Ground.data }, { on := 31, ground := Ground.data }, { on := 33, ground := Ground.data }], guard := none }) (v := ?va66) rfl (by kernel_rfl) (by kernel_rfl) (by kernel_rfl) (by kernel_rfl) (fun _ _ _ h => h) (Or.inl ⟨by rfl, ?ha66⟩) (fun _ => hHeld) ?ra66
        case ha66 => (intro wz _; go_simp <;> with_reducible rfl)
        try simp only [Act.put, List.setIfInBounds_toArray, List.set_cons_zero, List.set_cons_succ]
        refine wpAnyK_one (i := 36) (by kernel_rfl) (oneK (o := { dst := none, op := Op.store 33 (Operand.tmp 3) (Operand.tmp 39), type := 0, pos := "law.go:32", after := #[{ on := 35, ground := Ground.data }, { on := 34, ground := Ground.data }, { on := 25, ground := Ground.chain }, { on := 0, ground := Ground.phase }, { on := 1, ground := Ground.phase }, { on := 2, ground := Ground.phase }, { on := 3, ground := Ground.phase }, { on := 4, ground := Ground.phase }, { on := 5, ground := Ground.phase }, { on := 6, ground := Ground.phase }, { on := 7, ground := Ground.phase }, { on := 8, ground := Ground.phase }, { on := 9, ground := Ground.phase }, { on := 10, ground := Ground.phase }, { on := 11, ground := Ground.phase }, { on := 12, ground := Ground.phase }, { on := 13, ground := Ground.phase }, { on := 14, ground := Ground.phase }, { on := 15, ground := Ground.phase }, { on := 16, ground := Ground.phase }, { on := 17, ground := Ground.phase }, { on := 18, ground := Ground.phase }, { on := 19, ground := Ground.phase }, { on := 20, ground := Ground.phase }, { on := 21, ground := Ground.phase }, { on := 22, ground := Ground.phase }, { on := 23, ground := Ground.phase }, { on := 24, ground := Ground.phase }, { on := 25, ground := Ground.phase }, { on := 26, ground := Ground.phase }, { on := 27, ground := Ground.phase }, { on := 28, ground := Ground.phase }, { on := 29, ground := Ground.phase }, { on := 30, ground := Ground.phase }, { on := 31, ground := Ground.phase }, { on := 32, ground := Ground.phase }, { on := 33, ground := Ground.phase }, { on := 34, ground := Ground.phase }, { on := 35, ground := Ground.phase }], guard := none }) rfl (fun K hK => ?_))
        refine step_store rfl (.tmp 3) (.tmp 39) 33 rfl rfl rfl (R := fun w' => GS w [.int .i64 p.cp, .int .u64 (p.on : Int), .int .u64 (p.ac : Int), .int .u64 (p.pw : Int), (.slice a4 p.th.length k4), (.slice a5 p.qu.length k5), (.slice a6 p.ti.length k6), (.slice a7 p.ir.length k7), (.slice a8 p.wo.length k8), (.slice a9 p.ca.length k9), (.slice a10 p.ke.length k10), .bool p.bu, .bool p.up, .int .i64 p.cc, .int .i64 p.by'] [.int .i64 0, .int .u64 0, .int .u64 0, .int .u64 0, .slice none 0 0, .slice none 0 0, .slice none 0 0, .slice none 0 0, .slice none 0 0, .slice none 0 0, .slice none 0 0, .bool false, .bool false, .int .i64 0, .int .i64 0] w' (some (v5.heap.size, [.int .i64 p.cp, .int .u64 (p.on : Int), .int .u64 (p.ac : Int), .int .u64 (p.pw : Int), .slice none 0 0, (.slice b5 p.qu.length m5), (.slice b6 p.ti.length m6), (.slice b7 p.ir.length m7), (.slice b8 p.wo.length m8), (.slice b9 p.ca.length m9), (.slice b10 p.ke.length m10), .bool p.bu, .bool p.up, .int .i64 p.cc, .int .i64 p.by'])) [(.slice b10 p.ke.length m10, p.ke), (.slice b9 p.ca.length m9, p.ca), (.slice b8 p.wo.length m8, p.wo), (.slice b7 p.ir.length m7, p.ir), (.slice b6 p.ti.length m6, p.ti), (.slice b5 p.qu.length m5, p.qu)]) (gs_store [.int .i64 p.cp, .int .u64 (p.on : Int), .int .u64 (p.ac : Int), .int .u64 (p.pw : Int), .slice none 0 0, (.slice b5 p.qu.length m5), (.slice b6 p.ti.length m6), (.slice b7 p.ir.length m7), (.slice b8 p.wo.length m8), (.slice b9 p.ca.length m9), (.slice b10 p.ke.length m10), .bool p.bu, .bool p.up, .int .i64 p.cc, .int .i64 p.by'] rfl (by kernel_rfl) (HG.out _ ⟨rfl, rfl, rfl, rfl⟩)) ?_
        intro wx gx
        have HX : Hid (GS _ _ _ wx _ _) := gx
        clear gx HG
        refine hK.out _ _ ?sa67 (fun hHeld => ?ta67)
        case sa67 => (intro hU; exact absurd hU (un_not (by kernel_rfl)))
        clear hHeld hK K
        try simp only [Act.put, List.setIfInBounds_toArray, List.set_cons_zero, List.set_cons_succ]
        refine wpAnyK_done (by kernel_rfl) ?_ _
        go_wp2_with fail
        go_meet
        case rel => exact ⟨rfl, rfl, _, _, _, _, _, _, _, _, _, _, _, _, _, rfl, HX.out⟩
    · go_simp
      have HG2 : Hid (∀ u, Sm u (w0.alloc (.cells #[.int .i64 0, .int .u64 0, .int .u64 0, .int .u64 0, .slice none 0 0, .slice none 0 0, .slice none 0 0, .slice none 0 0, .slice none 0 0, .slice none 0 0, .slice none 0 0, .bool false, .bool false, .int .i64 0, .int .i64 0] 33)) → GS w [.int .i64 p.cp, .int .u64 (p.on : Int), .int .u64 (p.ac : Int), .int .u64 (p.pw : Int), (.slice a4 p.th.length k4), (.slice a5 p.qu.length k5), (.slice a6 p.ti.length k6), (.slice a7 p.ir.length k7), (.slice a8 p.wo.length k8), (.slice a9 p.ca.length k9), (.slice a10 p.ke.length k10), .bool p.bu, .bool p.up, .int .i64 p.cc, .int .i64 p.by'] [.int .i64 0, .int .u64 0, .int .u64 0, .int .u64 0, .slice none 0 0, .slice none 0 0, .slice none 0 0, .slice none 0 0, .slice none 0 0, .slice none 0 0, .slice none 0 0, .bool false, .bool false, .int .i64 0, .int .i64 0] u (some (w0.heap.size, [.int .i64 0, .int .u64 0, .int .u64 0, .int .u64 0, .slice none 0 0, .slice none 0 0, .slice none 0 0, .slice none 0 0, .slice none 0 0, .slice none 0 0, .slice none 0 0, .bool false, .bool false, .int .i64 0, .int .i64 0])) []) := fun u e => ((HG.out w0 ⟨rfl, rfl, rfl, rfl⟩).alloc [.int .i64 0, .int .u64 0, .int .u64 0, .int .u64 0, .slice none 0 0, .slice none 0 0, .slice none 0 0, .slice none 0 0, .slice none 0 0, .slice none 0 0, .slice none 0 0, .bool false, .bool false, .int .i64 0, .int .i64 0]).sm e
      clear HG
      have HG := HG2
      clear HG2
      (try go_wp2_with fail)
      refine hK.out _ _ ?sa68 (fun hHeld => ?ta68)
      case sa68 => (intro _; exact KS.out _ (GS.k0 (HG.out _ ⟨rfl, rfl, rfl, rfl⟩)))
      replace hHeld := hHeld (un_of (by kernel_rfl))
      clear hK K
      try simp only [Act.put, List.setIfInBounds_toArray, List.set_cons_zero, List.set_cons_succ]
      refine wpAnyK_one (i := 10) (by kernel_rfl) (oneK (o := { dst := some 15, op := Op.call { callee := Callee.value (Operand.func 13), args := #[Operand.tmp 14], argTypes := #[24] }, type := 31, pos := "law.go:32", after := #[{ on := 9, ground := Ground.data }], guard := none }) rfl (fun K hK => ?_))
      go_simp
      refine (C5.out _ ?_).mono ?_
      exact GS.bel (HG.out _ ⟨rfl, rfl, rfl, rfl⟩)
      rintro e v5 ⟨r5, rfl, o5, y5⟩
      obtain ⟨b5, m5, rfl⟩ := o5.shape
      have HG2 : Hid (∀ u, Sm u v5 → GS w [.int .i64 p.cp, .int .u64 (p.on : Int), .int .u64 (p.ac : Int), .int .u64 (p.pw : Int), (.slice a4 p.th.length k4), (.slice a5 p.qu.length k5), (.slice a6 p.ti.length k6), (.slice a7 p.ir.length k7), (.slice a8 p.wo.length k8), (.slice a9 p.ca.length k9), (.slice a10 p.ke.length k10), .bool p.bu, .bool p.up, .int .i64 p.cc, .int .i64 p.by'] [.int .i64 0, .int .u64 0, .int .u64 0, .int .u64 0, .slice none 0 0, .slice none 0 0, .slice none 0 0, .slice none 0 0, .slice none 0 0, .slice none 0 0, .slice none 0 0, .bool false, .bool false, .int .i64 0, .int .i64 0] u (some (w0.heap.size, [.int .i64 0, .int .u64 0, .int .u64 0, .int .u64 0, .slice none 0 0, .slice none 0 0, .slice none 0 0, .slice none 0 0, .slice none 0 0, .slice none 0 0, .slice none 0 0, .bool false, .bool false, .int .i64 0, .int .i64 0])) [(.slice b5 p.qu.length m5, p.qu)]) := fun u e => (GS.call y5 o5 (HG.out _ ⟨rfl, rfl, rfl, rfl⟩)).sm e
      clear HG o5 y5
      have HG := HG2
      clear HG2
      (try go_wp2_with fail)
      refine hK.out _ _ ?sa69 (fun hHeld => ?ta69)
      case sa69 => (intro _; exact KS.out _ (GS.k0 (HG.out _ ⟨rfl, rfl, rfl, rfl⟩)))
      replace hHeld := hHeld (un_of (by kernel_rfl))
      clear hK K
      try simp only [Act.put, List.setIfInBounds_toArray, List.set_cons_zero, List.set_cons_succ]
      refine wpAnyK_one (i := 13) (by kernel_rfl) (oneK (o := { dst := some 18, op := Op.call { callee := Callee.value (Operand.func 13), args := #[Operand.tmp 17], argTypes := #[24] }, type := 31, pos := "law.go:32", after := #[{ on := 12, ground := Ground.data }, { on := 10, ground := Ground.chain }], guard := none }) rfl (fun K hK => ?_))
      go_simp
      refine (C6.out _ ?_).mono ?_
      exact GS.bel (HG.out _ ⟨rfl, rfl, rfl, rfl⟩)
      rintro e v6 ⟨r6, rfl, o6, y6⟩
      obtain ⟨b6, m6, rfl⟩ := o6.shape
      have HG2 : Hid (∀ u, Sm u v6 → GS w [.int .i64 p.cp, .int .u64 (p.on : Int), .int .u64 (p.ac : Int), .int .u64 (p.pw : Int), (.slice a4 p.th.length k4), (.slice a5 p.qu.length k5), (.slice a6 p.ti.length k6), (.slice a7 p.ir.length k7), (.slice a8 p.wo.length k8), (.slice a9 p.ca.length k9), (.slice a10 p.ke.length k10), .bool p.bu, .bool p.up, .int .i64 p.cc, .int .i64 p.by'] [.int .i64 0, .int .u64 0, .int .u64 0, .int .u64 0, .slice none 0 0, .slice none 0 0, .slice none 0 0, .slice none 0 0, .slice none 0 0, .slice none 0 0, .slice none 0 0, .bool false, .bool false, .int .i64 0, .int .i64 0] u (some (w0.heap.size, [.int .i64 0, .int .u64 0, .int .u64 0, .int .u64 0, .slice none 0 0, .slice none 0 0, .slice none 0 0, .slice none 0 0, .slice none 0 0, .slice none 0 0, .slice none 0 0, .bool false, .bool false, .int .i64 0, .int .i64 0])) [(.slice b6 p.ti.length m6, p.ti), (.slice b5 p.qu.length m5, p.qu)]) := fun u e => (GS.call y6 o6 (HG.out _ ⟨rfl, rfl, rfl, rfl⟩)).sm e
      clear HG o6 y6
      have HG := HG2
      clear HG2
      (try go_wp2_with fail)
      refine hK.out _ _ ?sa70 (fun hHeld => ?ta70)
      case sa70 => (intro _; exact KS.out _ (GS.k0 (HG.out _ ⟨rfl, rfl, rfl, rfl⟩)))
      replace hHeld := hHeld (un_of (by kernel_rfl))
      clear hK K
      try simp only [Act.put, List.setIfInBounds_toArray, List.set_cons_zero, List.set_cons_succ]
      refine wpAnyK_one (i := 16) (by kernel_rfl) (oneK (o := { dst := some 21, op := Op.call { callee := Callee.value (Operand.func 13), args := #[Operand.tmp 20], argTypes := #[24] }, type := 31, pos := "law.go:32", after := #[{ on := 15, ground := Ground.data }, { on := 13, ground := Ground.chain }], guard := none }) rfl (fun K hK => ?_))
      go_simp
      refine (C7.out _ ?_).mono ?_
      exact GS.bel (HG.out _ ⟨rfl, rfl, rfl, rfl⟩)
      rintro e v7 ⟨r7, rfl, o7, y7⟩
      obtain ⟨b7, m7, rfl⟩ := o7.shape
      have HG2 : Hid (∀ u, Sm u v7 → GS w [.int .i64 p.cp, .int .u64 (p.on : Int), .int .u64 (p.ac : Int), .int .u64 (p.pw : Int), (.slice a4 p.th.length k4), (.slice a5 p.qu.length k5), (.slice a6 p.ti.length k6), (.slice a7 p.ir.length k7), (.slice a8 p.wo.length k8), (.slice a9 p.ca.length k9), (.slice a10 p.ke.length k10), .bool p.bu, .bool p.up, .int .i64 p.cc, .int .i64 p.by'] [.int .i64 0, .int .u64 0, .int .u64 0, .int .u64 0, .slice none 0 0, .slice none 0 0, .slice none 0 0, .slice none 0 0, .slice none 0 0, .slice none 0 0, .slice none 0 0, .bool false, .bool false, .int .i64 0, .int .i64 0] u (some (w0.heap.size, [.int .i64 0, .int .u64 0, .int .u64 0, .int .u64 0, .slice none 0 0, .slice none 0 0, .slice none 0 0, .slice none 0 0, .slice none 0 0, .slice none 0 0, .slice none 0 0, .bool false, .bool false, .int .i64 0, .int .i64 0])) [(.slice b7 p.ir.length m7, p.ir), (.slice b6 p.ti.length m6, p.ti), (.slice b5 p.qu.length m5, p.qu)]) := fun u e => (GS.call y7 o7 (HG.out _ ⟨rfl, rfl, rfl, rfl⟩)).sm e
      clear HG o7 y7
      have HG := HG2
      clear HG2
      (try go_wp2_with fail)
      refine hK.out _ _ ?sa71 (fun hHeld => ?ta71)
      case sa71 => (intro _; exact KS.out _ (GS.k0 (HG.out _ ⟨rfl, rfl, rfl, rfl⟩)))
      replace hHeld := hHeld (un_of (by kernel_rfl))
      clear hK K
      try simp only [Act.put, List.setIfInBounds_toArray, List.set_cons_zero, List.set_cons_succ]
      refine wpAnyK_one (i := 19) (by kernel_rfl) (oneK (o := { dst := some 24, op := Op.call { callee := Callee.value (Operand.func 13), args := #[Operand.tmp 23], argTypes := #[24] }, type := 31, pos := "law.go:32", after := #[{ on := 18, ground := Ground.data }, { on := 16, ground := Ground.chain }], guard := none }) rfl (fun K hK => ?_))
      go_simp
      refine (C8.out _ ?_).mono ?_
      exact GS.bel (HG.out _ ⟨rfl, rfl, rfl, rfl⟩)
      rintro e v8 ⟨r8, rfl, o8, y8⟩
      obtain ⟨b8, m8, rfl⟩ := o8.shape
      have HG2 : Hid (∀ u, Sm u v8 → GS w [.int .i64 p.cp, .int .u64 (p.on : Int), .int .u64 (p.ac : Int), .int .u64 (p.pw : Int), (.slice a4 p.th.length k4), (.slice a5 p.qu.length k5), (.slice a6 p.ti.length k6), (.slice a7 p.ir.length k7), (.slice a8 p.wo.length k8), (.slice a9 p.ca.length k9), (.slice a10 p.ke.length k10), .bool p.bu, .bool p.up, .int .i64 p.cc, .int .i64 p.by'] [.int .i64 0, .int .u64 0, .int .u64 0, .int .u64 0, .slice none 0 0, .slice none 0 0, .slice none 0 0, .slice none 0 0, .slice none 0 0, .slice none 0 0, .slice none 0 0, .bool false, .bool false, .int .i64 0, .int .i64 0] u (some (w0.heap.size, [.int .i64 0, .int .u64 0, .int .u64 0, .int .u64 0, .slice none 0 0, .slice none 0 0, .slice none 0 0, .slice none 0 0, .slice none 0 0, .slice none 0 0, .slice none 0 0, .bool false, .bool false, .int .i64 0, .int .i64 0])) [(.slice b8 p.wo.length m8, p.wo), (.slice b7 p.ir.length m7, p.ir), (.slice b6 p.ti.length m6, p.ti), (.slice b5 p.qu.length m5, p.qu)]) := fun u e => (GS.call y8 o8 (HG.out _ ⟨rfl, rfl, rfl, rfl⟩)).sm e
      clear HG o8 y8
      have HG := HG2
      clear HG2
      (try go_wp2_with fail)
      refine hK.out _ _ ?sa72 (fun hHeld => ?ta72)
      case sa72 => (intro _; exact KS.out _ (GS.k0 (HG.out _ ⟨rfl, rfl, rfl, rfl⟩)))
      replace hHeld := hHeld (un_of (by kernel_rfl))
      clear hK K
      try simp only [Act.put, List.setIfInBounds_toArray, List.set_cons_zero, List.set_cons_succ]
      refine wpAnyK_one (i := 22) (by kernel_rfl) (oneK (o := { dst := some 27, op := Op.call { callee := Callee.value (Operand.func 13), args := #[Operand.tmp 26], argTypes := #[24] }, type := 31, pos := "law.go:32", after := #[{ on := 21, ground := Ground.data }, { on := 19, ground := Ground.chain }], guard := none }) rfl (fun K hK => ?_))
      go_simp
      refine (C9.out _ ?_).mono ?_
      exact GS.bel (HG.out _ ⟨rfl, rfl, rfl, rfl⟩)
      rintro e v9 ⟨r9, rfl, o9, y9⟩
      obtain ⟨b9, m9, rfl⟩ := o9.shape
      have HG2 : Hid (∀ u, Sm u v9 → GS w [.int .i64 p.cp, .int .u64 (p.on : Int), .int .u64 (p.ac : Int), .int .u64 (p.pw : Int), (.slice a4 p.th.length k4), (.slice a5 p.qu.length k5), (.slice a6 p.ti.length k6), (.slice a7 p.ir.length k7), (.slice a8 p.wo.length k8), (.slice a9 p.ca.length k9), (.slice a10 p.ke.length k10), .bool p.bu, .bool p.up, .int .i64 p.cc, .int .i64 p.by'] [.int .i64 0, .int .u64 0, .int .u64 0, .int .u64 0, .slice none 0 0, .slice none 0 0, .slice none 0 0, .slice none 0 0, .slice none 0 0, .slice none 0 0, .slice none 0 0, .bool false, .bool false, .int .i64 0, .int .i64 0] u (some (w0.heap.size, [.int .i64 0, .int .u64 0, .int .u64 0, .int .u64 0, .slice none 0 0, .slice none 0 0, .slice none 0 0, .slice none 0 0, .slice none 0 0, .slice none 0 0, .slice none 0 0, .bool false, .bool false, .int .i64 0, .int .i64 0])) [(.slice b9 p.ca.length m9, p.ca), (.slice b8 p.wo.length m8, p.wo), (.slice b7 p.ir.length m7, p.ir), (.slice b6 p.ti.length m6, p.ti), (.slice b5 p.qu.length m5, p.qu)]) := fun u e => (GS.call y9 o9 (HG.out _ ⟨rfl, rfl, rfl, rfl⟩)).sm e
      clear HG o9 y9
      have HG := HG2
      clear HG2
      (try go_wp2_with fail)
      refine hK.out _ _ ?sa73 (fun hHeld => ?ta73)
      case sa73 => (intro _; exact KS.out _ (GS.k0 (HG.out _ ⟨rfl, rfl, rfl, rfl⟩)))
      replace hHeld := hHeld (un_of (by kernel_rfl))
      clear hK K
      try simp only [Act.put, List.setIfInBounds_toArray, List.set_cons_zero, List.set_cons_succ]
      refine wpAnyK_one (i := 25) (by kernel_rfl) (oneK (o := { dst := some 30, op := Op.call { callee := Callee.value (Operand.func 13), args := #[Operand.tmp 29], argTypes := #[24] }, type := 31, pos := "law.go:32", after := #[{ on := 24, ground := Ground.data }, { on := 22, ground := Ground.chain }], guard := none }) rfl (fun K hK => ?_))
      go_simp
      refine (C10.out _ ?_).mono ?_
      exact GS.bel (HG.out _ ⟨rfl, rfl, rfl, rfl⟩)
      rintro e v10 ⟨r10, rfl, o10, y10⟩
      obtain ⟨b10, m10, rfl⟩ := o10.shape
      have HG2 : Hid (∀ u, Sm u v10 → GS w [.int .i64 p.cp, .int .u64 (p.on : Int), .int .u64 (p.ac : Int), .int .u64 (p.pw : Int), (.slice a4 p.th.length k4), (.slice a5 p.qu.length k5), (.slice a6 p.ti.length k6), (.slice a7 p.ir.length k7), (.slice a8 p.wo.length k8), (.slice a9 p.ca.length k9), (.slice a10 p.ke.length k10), .bool p.bu, .bool p.up, .int .i64 p.cc, .int .i64 p.by'] [.int .i64 0, .int .u64 0, .int .u64 0, .int .u64 0, .slice none 0 0, .slice none 0 0, .slice none 0 0, .slice none 0 0, .slice none 0 0, .slice none 0 0, .slice none 0 0, .bool false, .bool false, .int .i64 0, .int .i64 0] u (some (w0.heap.size, [.int .i64 0, .int .u64 0, .int .u64 0, .int .u64 0, .slice none 0 0, .slice none 0 0, .slice none 0 0, .slice none 0 0, .slice none 0 0, .slice none 0 0, .slice none 0 0, .bool false, .bool false, .int .i64 0, .int .i64 0])) [(.slice b10 p.ke.length m10, p.ke), (.slice b9 p.ca.length m9, p.ca), (.slice b8 p.wo.length m8, p.wo), (.slice b7 p.ir.length m7, p.ir), (.slice b6 p.ti.length m6, p.ti), (.slice b5 p.qu.length m5, p.qu)]) := fun u e => (GS.call y10 o10 (HG.out _ ⟨rfl, rfl, rfl, rfl⟩)).sm e
      clear HG o10 y10
      have HG := HG2
      clear HG2
      (try go_wp2_with fail)
      refine hK.out _ _ ?sa74 (fun hHeld => ?ta74)
      case sa74 => (intro _; exact KS.out _ (GS.k0 (HG.out _ ⟨rfl, rfl, rfl, rfl⟩)))
      replace hHeld := hHeld (un_of (by kernel_rfl))
      clear hK K
      try simp only [Act.put, List.setIfInBounds_toArray, List.set_cons_zero, List.set_cons_succ]
      refine wpAnyK_pure (i := 34) (oi := { dst := some 39, op := Op.build 33 #[(0, Operand.tmp 6), (1, Operand.tmp 8), (2, Operand.tmp 10), (3, Operand.tmp 12), (5, Operand.tmp 15), (6, Operand.tmp 18), (7, Operand.tmp 21), (8, Operand.tmp 24), (9, Operand.tmp 27), (10, Operand.tmp 30), (11, Operand.tmp 32), (12, Operand.tmp 34), (13, Operand.tmp 36), (14, Operand.tmp 38)], type := 33, pos := "law.go:32", after := #[{ on := 1, ground := Ground.data }, { on := 3, ground := Ground.data }, { on := 5, ground := Ground.data }, { on := 7, ground := Ground.data }, { on := 10, ground := Ground.data }, { on := 13, ground := Ground.data }, { on := 16, ground := Ground.data }, { on := 19, ground := Ground.data }, { on := 22, ground := Ground.data }, { on := 25, ground := Ground.data }, { on := 27, ground := Ground.data }, { on := 29, ground := Ground.data }, { on := 31, ground := Ground.data }, { on := 33, ground := Ground.data }], guard := none }) (v := ?va75) rfl (by kernel_rfl) (by kernel_rfl) (by kernel_rfl) (by kernel_rfl) (fun _ _ _ h => h) (Or.inl ⟨by rfl, ?ha75⟩) (fun _ => hHeld) ?ra75
      case ha75 => (intro wz _; go_simp <;> with_reducible rfl)
      try simp only [Act.put, List.setIfInBounds_toArray, List.set_cons_zero, List.set_cons_succ]
      refine wpAnyK_one (i := 36) (by kernel_rfl) (oneK (o := { dst := none, op := Op.store 33 (Operand.tmp 3) (Operand.tmp 39), type := 0, pos := "law.go:32", after := #[{ on := 35, ground := Ground.data }, { on := 34, ground := Ground.data }, { on := 25, ground := Ground.chain }, { on := 0, ground := Ground.phase }, { on := 1, ground := Ground.phase }, { on := 2, ground := Ground.phase }, { on := 3, ground := Ground.phase }, { on := 4, ground := Ground.phase }, { on := 5, ground := Ground.phase }, { on := 6, ground := Ground.phase }, { on := 7, ground := Ground.phase }, { on := 8, ground := Ground.phase }, { on := 9, ground := Ground.phase }, { on := 10, ground := Ground.phase }, { on := 11, ground := Ground.phase }, { on := 12, ground := Ground.phase }, { on := 13, ground := Ground.phase }, { on := 14, ground := Ground.phase }, { on := 15, ground := Ground.phase }, { on := 16, ground := Ground.phase }, { on := 17, ground := Ground.phase }, { on := 18, ground := Ground.phase }, { on := 19, ground := Ground.phase }, { on := 20, ground := Ground.phase }, { on := 21, ground := Ground.phase }, { on := 22, ground := Ground.phase }, { on := 23, ground := Ground.phase }, { on := 24, ground := Ground.phase }, { on := 25, ground := Ground.phase }, { on := 26, ground := Ground.phase }, { on := 27, ground := Ground.phase }, { on := 28, ground := Ground.phase }, { on := 29, ground := Ground.phase }, { on := 30, ground := Ground.phase }, { on := 31, ground := Ground.phase }, { on := 32, ground := Ground.phase }, { on := 33, ground := Ground.phase }, { on := 34, ground := Ground.phase }, { on := 35, ground := Ground.phase }], guard := none }) rfl (fun K hK => ?_))
      refine step_store rfl (.tmp 3) (.tmp 39) 33 rfl rfl rfl (R := fun w' => GS w [.int .i64 p.cp, .int .u64 (p.on : Int), .int .u64 (p.ac : Int), .int .u64 (p.pw : Int), (.slice a4 p.th.length k4), (.slice a5 p.qu.length k5), (.slice a6 p.ti.length k6), (.slice a7 p.ir.length k7), (.slice a8 p.wo.length k8), (.slice a9 p.ca.length k9), (.slice a10 p.ke.length k10), .bool p.bu, .bool p.up, .int .i64 p.cc, .int .i64 p.by'] [.int .i64 0, .int .u64 0, .int .u64 0, .int .u64 0, .slice none 0 0, .slice none 0 0, .slice none 0 0, .slice none 0 0, .slice none 0 0, .slice none 0 0, .slice none 0 0, .bool false, .bool false, .int .i64 0, .int .i64 0] w' (some (w0.heap.size, [.int .i64 p.cp, .int .u64 (p.on : Int), .int .u64 (p.ac : Int), .int .u64 (p.pw : Int), .slice none 0 0, (.slice b5 p.qu.length m5), (.slice b6 p.ti.length m6), (.slice b7 p.ir.length m7), (.slice b8 p.wo.length m8), (.slice b9 p.ca.length m9), (.slice b10 p.ke.length m10), .bool p.bu, .bool p.up, .int .i64 p.cc, .int .i64 p.by'])) [(.slice b10 p.ke.length m10, p.ke), (.slice b9 p.ca.length m9, p.ca), (.slice b8 p.wo.length m8, p.wo), (.slice b7 p.ir.length m7, p.ir), (.slice b6 p.ti.length m6, p.ti), (.slice b5 p.qu.length m5, p.qu)]) (gs_store [.int .i64 p.cp, .int .u64 (p.on : Int), .int .u64 (p.ac : Int), .int .u64 (p.pw : Int), .slice none 0 0, (.slice b5 p.qu.length m5), (.slice b6 p.ti.length m6), (.slice b7 p.ir.length m7), (.slice b8 p.wo.length m8), (.slice b9 p.ca.length m9), (.slice b10 p.ke.length m10), .bool p.bu, .bool p.up, .int .i64 p.cc, .int .i64 p.by'] rfl (by kernel_rfl) (HG.out _ ⟨rfl, rfl, rfl, rfl⟩)) ?_
      intro wx gx
      have HX : Hid (GS _ _ _ wx _ _) := gx
      clear gx HG
      refine hK.out _ _ ?sa76 (fun hHeld => ?ta76)
      case sa76 => (intro hU; exact absurd hU (un_not (by kernel_rfl)))
      clear hHeld hK K
      try simp only [Act.put, List.setIfInBounds_toArray, List.set_cons_zero, List.set_cons_succ]
      refine wpAnyK_done (by kernel_rfl) ?_ _
      go_wp2_with fail
      go_meet
      case rel => exact ⟨rfl, rfl, _, _, _, _, _, _, _, _, _, _, _, _, _, rfl, HX.out⟩
  case rest =>
    obtain ⟨rfl, rfl, z, b5, b6, b7, b8, b9, b10, m5, m6, m7, m8, m9, m10, rfl, gs0⟩ := hcut
    have G0 : Hid (GS _ _ _ _ _ _) := gs0
    have lth := HL.out.th
    clear gs0 C5 C6 C7 C8 C9 C10 HG HW0
    go_wp2
    go_loopw [4] (fun i wr => ∃ (k : Nat) (y : World) (v : Value), (k : Int) ≤ p.th.length ∧ Hid (GS w [.int .i64 p.cp, .int .u64 (p.on : Int), .int .u64 (p.ac : Int), .int .u64 (p.pw : Int), (.slice a4 p.th.length k4), (.slice a5 p.qu.length k5), (.slice a6 p.ti.length k6), (.slice a7 p.ir.length k7), (.slice a8 p.wo.length k8), (.slice a9 p.ca.length k9), (.slice a10 p.ke.length k10), .bool p.bu, .bool p.up, .int .i64 p.cc, .int .i64 p.by'] [.int .i64 0, .int .u64 0, .int .u64 0, .int .u64 0, .slice none 0 0, .slice none 0 0, .slice none 0 0, .slice none 0 0, .slice none 0 0, .slice none 0 0, .slice none 0 0, .bool false, .bool false, .int .i64 0, .int .i64 0] y (some (z, [.int .i64 p.cp, .int .u64 (p.on : Int), .int .u64 (p.ac : Int), .int .u64 (p.pw : Int), v, (.slice b5 p.qu.length m5), (.slice b6 p.ti.length m6), (.slice b7 p.ir.length m7), (.slice b8 p.wo.length m8), (.slice b9 p.ca.length m9), (.slice b10 p.ke.length m10), .bool p.bu, .bool p.up, .int .i64 p.cc, .int .i64 p.by'])) [(.slice b10 p.ke.length m10, p.ke), (.slice b9 p.ca.length m9, p.ca), (.slice b8 p.wo.length m8, p.wo), (.slice b7 p.ir.length m7, p.ir), (.slice b6 p.ti.length m6, p.ti), (.slice b5 p.qu.length m5, p.qu)] ∧ LG tr 49 y wr v (p.th.take k)) ∧ i = .int .i64 (k : Int)) (fun i _ => p.th.length - (intOf i).toNat)
    case atStart => exact ⟨0, wc, .slice none 0 0, by omega, ⟨G0.out, lg_start tr _ wc⟩, rfl⟩
    case round =>
      obtain ⟨k, y, v, hk, hm, rfl⟩ := hrel
      have bw : Below w.heap.size w wr := hm.out.1.bel.trans (hm.out.2.bel.mono hm.out.1.bel.size)
      by_cases e : (k : Int) < p.th.length
      · obtain ⟨b, off, rfl, hbl, e0, e1, e2⟩ := trow_at HH.out.th (k := k) (by omega)
        obtain ⟨a2, c2, hv2⟩ := owng_shape hm.out.2.own
        generalize (p.th.take k).length = n2 at hv2
        subst hv2
        have ky := (hm.out.1.zb _ rfl).1
        have KS2 : Hid (∀ u, Below y.heap.size y u → (u.cell? ⟨w.heap.size, 4, none⟩ = some (.slice (some ⟨b, off, none⟩) p.th.length k4) ∧ u.cell? ⟨z, 4, none⟩ = some (.slice a2 n2 c2) ∧ u.cell? ⟨b, off + k * 3, none⟩ = some (.int .i64 (p.th.getD k tz).a) ∧ u.cell? ⟨b, off + k * 3 + 1, none⟩ = some (.int .i64 (p.th.getD k tz).b) ∧ u.cell? ⟨b, off + k * 3 + 2, none⟩ = some (.int .i64 (p.th.getD k tz).c)) ∧ u.frozen? ⟨z, 4, none⟩ = false) := fun u bu => by
          have q0 := hm.out.1.k0.keep (Fr.of_below bu) hm.out.1.k0.lt (by simp)
          have qz := ky.keep (Fr.of_below bu) ky.lt (by simp)
          have bu2 := hm.out.1.bel.trans (bu.mono hm.out.1.bel.size)
          exact ⟨⟨q0.cell 4, qz.cell 4, below_cell bu2 e0, below_cell bu2 e1, below_cell bu2 e2⟩, qz.free 4⟩
        have s : p.th.take k ++ [p.th.getD k tz] = p.th.take (k + 1) := by rw [take_one' p.th tz (by omega)]
        obtain ⟨i0, hi0, hz0, hz1, hz2⟩ := info_parts infoTh
        have RUN : Hid (∀ w1 : World, Sm w1 (wr.alloc (.cells #[.int .i64 (p.th.getD k tz).a, .int .i64 (p.th.getD k tz).b, .int .i64 (p.th.getD k tz).c] 49)) → ∃ v' w2, (Builtin.append_ #[30, 30] 30 #[.slice a2 n2 c2, .slice (some ⟨wr.heap.size, 0, none⟩) 1 1]).run Tryz.prog w1 = .ok v' w2 ∧ LG tr 49 y w2 v' (p.th.take (k + 1))) := fun w1 e1 => by
          have q := lg_app 49 30 30 i0 _ 24 Tryz.underlying30 hi0 hz0 hz1 hz2 rfl (p.th.getD k tz) hm.out.2 (Below.refl _ _) e1 (by rw [List.length_take]; unfold maxLen; omega) (by rw [List.length_take]; omega)
          rwa [s] at q
        have FIN : Hid (∀ w2 v2, LG tr 49 y w2 v2 (p.th.take (k + 1)) → GS w _ _ (y.setCell ⟨z, 4, none⟩ v2) (some (z, [.int .i64 p.cp, .int .u64 (p.on : Int), .int .u64 (p.ac : Int), .int .u64 (p.pw : Int), v2, (.slice b5 p.qu.length m5), (.slice b6 p.ti.length m6), (.slice b7 p.ir.length m7), (.slice b8 p.wo.length m8), (.slice b9 p.ca.length m9), (.slice b10 p.ke.length m10), .bool p.bu, .bool p.up, .int .i64 p.cc, .int .i64 p.by'])) [(.slice b10 p.ke.length m10, p.ke), (.slice b9 p.ca.length m9, p.ca), (.slice b8 p.wo.length m8, p.wo), (.slice b7 p.ir.length m7, p.ir), (.slice b6 p.ti.length m6, p.ti), (.slice b5 p.qu.length m5, p.qu)] ∧ LG tr 49 (y.setCell ⟨z, 4, none⟩ v2) (w2.setCell ⟨z, 4, none⟩ v2) v2 (p.th.take (k + 1))) := fun w2 v2 g2 => ⟨hm.out.1.setc v2, lg_store g2 ky⟩
        have BA : Hid (Below y.heap.size y (wr.alloc (.cells #[.int .i64 (p.th.getD k tz).a, .int .i64 (p.th.getD k tz).b, .int .i64 (p.th.getD k tz).c] 49))) := hm.out.2.bel.alloc hm.out.2.bel.size _
        obtain ⟨⟨c0, c1, c2', c3, c4⟩, fz⟩ := KS2.out wr hm.out.2.bel
        clear hm bw hbl e0 e1 e2 ky s hi0 hz0 hz1 hz2
        generalize p.th.getD k tz = x at *
        go_wp2_with fail
        refine wp_region_K [24] (fun w' => w'.cell? ⟨w.heap.size, 4, none⟩ = some (.slice (some ⟨b, off, none⟩) p.th.length k4) ∧ w'.cell? ⟨z, 4, none⟩ = some (.slice a2 n2 c2) ∧ w'.cell? ⟨b, off + k * 3, none⟩ = some (.int .i64 x.a) ∧ w'.cell? ⟨b, off + k * 3 + 1, none⟩ = some (.int .i64 x.b) ∧ w'.cell? ⟨b, off + k * 3 + 2, none⟩ = some (.int .i64 x.c)) (by kernel_rfl) (by exact ⟨c0, c1, c2', c3, c4⟩) (fun hHeld => ?_)
        refine wpAnyK_pure (i := 0) (oi := { dst := some 47, op := Op.fieldAddr 33 (Operand.tmp 3) 4, type := 0, pos := "law.go:34", after := #[], guard := none }) (v := ?vb1) rfl (by kernel_rfl) (by kernel_rfl) (by kernel_rfl) (by kernel_rfl) (fun _ _ _ h => h) (Or.inl ⟨by rfl, ?hb1⟩) (fun _ => hHeld) ?rb1
        case hb1 => (intro wz _; go_simp <;> with_reducible rfl)
        try simp only [Act.put, List.setIfInBounds_toArray, List.set_cons_zero, List.set_cons_succ]
        refine wpAnyK_take (i := 1) (oi := { dst := some 48, op := Op.load 30 (Operand.tmp 47), type := 30, pos := "law.go:34", after := #[{ on := 0, ground := Ground.data }], guard := none }) (v := ?vb2) rfl (by kernel_rfl) (by kernel_rfl) (by kernel_rfl) (by kernel_rfl) (by kernel_rfl) (fun _ _ _ h => h) (Or.inl ⟨by rfl, ?hb2⟩) hHeld ?rb2
        case hb2 => (intro wz hSw; (try dsimp only at hSw); go_simp <;> with_reducible rfl)
        try simp only [Act.put, List.setIfInBounds_toArray, List.set_cons_zero, List.set_cons_succ]
        refine wpAnyK_pure (i := 2) (oi := { dst := some 49, op := Op.fieldAddr 26 (Operand.tmp 1) 4, type := 0, pos := "law.go:34", after := #[], guard := none }) (v := ?vb3) rfl (by kernel_rfl) (by kernel_rfl) (by kernel_rfl) (by kernel_rfl) (fun _ _ _ h => h) (Or.inl ⟨by rfl, ?hb3⟩) (fun _ => hHeld) ?rb3
        case hb3 => (intro wz _; go_simp <;> with_reducible rfl)
        try simp only [Act.put, List.setIfInBounds_toArray, List.set_cons_zero, List.set_cons_succ]
        refine wpAnyK_take (i := 3) (oi := { dst := some 50, op := Op.load 23 (Operand.tmp 49), type := 23, pos := "law.go:34", after := #[{ on := 2, ground := Ground.data }], guard := none }) (v := ?vb4) rfl (by kernel_rfl) (by kernel_rfl) (by kernel_rfl) (by kernel_rfl) (by kernel_rfl) (fun _ _ _ h => h) (Or.inl ⟨by rfl, ?hb4⟩) hHeld ?rb4
        case hb4 => (intro wz hSw; (try dsimp only at hSw); go_simp <;> with_reducible rfl)
        try simp only [Act.put, List.setIfInBounds_toArray, List.set_cons_zero, List.set_cons_succ]
        refine wpAnyK_pure (i := 4) (oi := { dst := some 51, op := Op.move (Operand.tmp 4), type := 3, pos := "law.go:34", after := #[], guard := none }) (v := ?vb5) rfl (by kernel_rfl) (by kernel_rfl) (by kernel_rfl) (by kernel_rfl) (fun _ _ _ h => h) (Or.inl ⟨by rfl, ?hb5⟩) (fun _ => hHeld) ?rb5
        case hb5 => (intro wz _; go_simp <;> with_reducible rfl)
        try simp only [Act.put, List.setIfInBounds_toArray, List.set_cons_zero, List.set_cons_succ]
        refine wpAnyK_pure (i := 5) (oi := { dst := some 52, op := Op.indexAddr 23 (Operand.tmp 50) (Operand.tmp 51), type := 0, pos := "law.go:34", after := #[{ on := 3, ground := Ground.data }, { on := 4, ground := Ground.data }], guard := none }) (v := ?vb6) rfl (by kernel_rfl) (by kernel_rfl) (by kernel_rfl) (by kernel_rfl) (fun _ _ _ h => h) (Or.inl ⟨by rfl, ?hb6⟩) (fun _ => hHeld) ?rb6
        case hb6 => (intro wz _; go_simp <;> with_reducible rfl)
        try simp only [Act.put, List.setIfInBounds_toArray, List.set_cons_zero, List.set_cons_succ]
        refine wpAnyK_pure (i := 6) (oi := { dst := some 53, op := Op.fieldAddr 48 (Operand.tmp 52) 0, type := 0, pos := "law.go:34", after := #[{ on := 5, ground := Ground.data }], guard := none }) (v := ?vb7) rfl (by kernel_rfl) (by kernel_rfl) (by kernel_rfl) (by kernel_rfl) (fun _ _ _ h => h) (Or.inl ⟨by rfl, ?hb7⟩) (fun _ => hHeld) ?rb7
        case hb7 => (intro wz _; go_simp <;> with_reducible rfl)
        try simp only [Act.put, List.setIfInBounds_toArray, List.set_cons_zero, List.set_cons_succ]
        refine wpAnyK_take (i := 7) (oi := { dst := some 54, op := Op.load 3 (Operand.tmp 53), type := 3, pos := "law.go:34", after := #[{ on := 6, ground := Ground.data }], guard := none }) (v := ?vb8) rfl (by kernel_rfl) (by kernel_rfl) (by kernel_rfl) (by kernel_rfl) (by kernel_rfl) (fun _ _ _ h => h) (Or.inl ⟨by rfl, ?hb8⟩) hHeld ?rb8
        case hb8 => (intro wz hSw; (try dsimp only at hSw); go_simp <;> with_reducible rfl)
        try simp only [Act.put, List.setIfInBounds_toArray, List.set_cons_zero, List.set_cons_succ]
        refine wpAnyK_pure (i := 8) (oi := { dst := some 55, op := Op.fieldAddr 26 (Operand.tmp 1) 4, type := 0, pos := "law.go:34", after := #[], guard := none }) (v := ?vb9) rfl (by kernel_rfl) (by kernel_rfl) (by kernel_rfl) (by kernel_rfl) (fun _ _ _ h => h) (Or.inl ⟨by rfl, ?hb9⟩) (fun _ => hHeld) ?rb9
        case hb9 => (intro wz _; go_simp <;> with_reducible rfl)
        try simp only [Act.put, List.setIfInBounds_toArray, List.set_cons_zero, List.set_cons_succ]
        refine wpAnyK_take (i := 9) (oi := { dst := some 56, op := Op.load 23 (Operand.tmp 55), type := 23, pos := "law.go:34", after := #[{ on := 8, ground := Ground.data }], guard := none }) (v := ?vb10) rfl (by kernel_rfl) (by kernel_rfl) (by kernel_rfl) (by kernel_rfl) (by kernel_rfl) (fun _ _ _ h => h) (Or.inl ⟨by rfl, ?hb10⟩) hHeld ?rb10
        case hb10 => (intro wz hSw; (try dsimp only at hSw); go_simp <;> with_reducible rfl)
        try simp only [Act.put, List.setIfInBounds_toArray, List.set_cons_zero, List.set_cons_succ]
        refine wpAnyK_pure (i := 10) (oi := { dst := some 57, op := Op.move (Operand.tmp 4), type := 3, pos := "law.go:34", after := #[], guard := none }) (v := ?vb11) rfl (by kernel_rfl) (by kernel_rfl) (by kernel_rfl) (by kernel_rfl) (fun _ _ _ h => h) (Or.inl ⟨by rfl, ?hb11⟩) (fun _ => hHeld) ?rb11
        case hb11 => (intro wz _; go_simp <;> with_reducible rfl)
        try simp only [Act.put, List.setIfInBounds_toArray, List.set_cons_zero, List.set_cons_succ]
        refine wpAnyK_pure (i := 11) (oi := { dst := some 58, op := Op.indexAddr 23 (Operand.tmp 56) (Operand.tmp 57), type := 0, pos := "law.go:34", after := #[{ on := 9, ground := Ground.data }, { on := 10, ground := Ground.data }], guard := none }) (v := ?vb12) rfl (by kernel_rfl) (by kernel_rfl) (by kernel_rfl) (by kernel_rfl) (fun _ _ _ h => h) (Or.inl ⟨by rfl, ?hb12⟩) (fun _ => hHeld) ?rb12
        case hb12 => (intro wz _; go_simp <;> with_reducible rfl)
        try simp only [Act.put, List.setIfInBounds_toArray, List.set_cons_zero, List.set_cons_succ]
        refine wpAnyK_pure (i := 12) (oi := { dst := some 59, op := Op.fieldAddr 48 (Operand.tmp 58) 1, type := 0, pos := "law.go:34", after := #[{ on := 11, ground := Ground.data }], guard := none }) (v := ?vb13) rfl (by kernel_rfl) (by kernel_rfl) (by kernel_rfl) (by kernel_rfl) (fun _ _ _ h => h) (Or.inl ⟨by rfl, ?hb13⟩) (fun _ => hHeld) ?rb13
        case hb13 => (intro wz _; go_simp <;> with_reducible rfl)
        try simp only [Act.put, List.setIfInBounds_toArray, List.set_cons_zero, List.set_cons_succ]
        refine wpAnyK_take (i := 13) (oi := { dst := some 60, op := Op.load 3 (Operand.tmp 59), type := 3, pos := "law.go:34", after := #[{ on := 12, ground := Ground.data }], guard := none }) (v := ?vb14) rfl (by kernel_rfl) (by kernel_rfl) (by kernel_rfl) (by kernel_rfl) (by kernel_rfl) (fun _ _ _ h => h) (Or.inl ⟨by rfl, ?hb14⟩) hHeld ?rb14
        case hb14 => (intro wz hSw; (try dsimp only at hSw); go_simp <;> with_reducible rfl)
        try simp only [Act.put, List.setIfInBounds_toArray, List.set_cons_zero, List.set_cons_succ]
        refine wpAnyK_pure (i := 14) (oi := { dst := some 61, op := Op.fieldAddr 26 (Operand.tmp 1) 4, type := 0, pos := "law.go:34", after := #[], guard := none }) (v := ?vb15) rfl (by kernel_rfl) (by kernel_rfl) (by kernel_rfl) (by kernel_rfl) (fun _ _ _ h => h) (Or.inl ⟨by rfl, ?hb15⟩) (fun _ => hHeld) ?rb15
        case hb15 => (intro wz _; go_simp <;> with_reducible rfl)
        try simp only [Act.put, List.setIfInBounds_toArray, List.set_cons_zero, List.set_cons_succ]
        refine wpAnyK_take (i := 15) (oi := { dst := some 62, op := Op.load 23 (Operand.tmp 61), type := 23, pos := "law.go:34", after := #[{ on := 14, ground := Ground.data }], guard := none }) (v := ?vb16) rfl (by kernel_rfl) (by kernel_rfl) (by kernel_rfl) (by kernel_rfl) (by kernel_rfl) (fun _ _ _ h => h) (Or.inl ⟨by rfl, ?hb16⟩) hHeld ?rb16
        case hb16 => (intro wz hSw; (try dsimp only at hSw); go_simp <;> with_reducible rfl)
        try simp only [Act.put, List.setIfInBounds_toArray, List.set_cons_zero, List.set_cons_succ]
        refine wpAnyK_pure (i := 16) (oi := { dst := some 63, op := Op.move (Operand.tmp 4), type := 3, pos := "law.go:34", after := #[], guard := none }) (v := ?vb17) rfl (by kernel_rfl) (by kernel_rfl) (by kernel_rfl) (by kernel_rfl) (fun _ _ _ h => h) (Or.inl ⟨by rfl, ?hb17⟩) (fun _ => hHeld) ?rb17
        case hb17 => (intro wz _; go_simp <;> with_reducible rfl)
        try simp only [Act.put, List.setIfInBounds_toArray, List.set_cons_zero, List.set_cons_succ]
        refine wpAnyK_pure (i := 17) (oi := { dst := some 64, op := Op.indexAddr 23 (Operand.tmp 62) (Operand.tmp 63), type := 0, pos := "law.go:34", after := #[{ on := 15, ground := Ground.data }, { on := 16, ground := Ground.data }], guard := none }) (v := ?vb18) rfl (by kernel_rfl) (by kernel_rfl) (by kernel_rfl) (by kernel_rfl) (fun _ _ _ h => h) (Or.inl ⟨by rfl, ?hb18⟩) (fun _ => hHeld) ?rb18
        case hb18 => (intro wz _; go_simp <;> with_reducible rfl)
        try simp only [Act.put, List.setIfInBounds_toArray, List.set_cons_zero, List.set_cons_succ]
        refine wpAnyK_pure (i := 18) (oi := { dst := some 65, op := Op.fieldAddr 48 (Operand.tmp 64) 2, type := 0, pos := "law.go:34", after := #[{ on := 17, ground := Ground.data }], guard := none }) (v := ?vb19) rfl (by kernel_rfl) (by kernel_rfl) (by kernel_rfl) (by kernel_rfl) (fun _ _ _ h => h) (Or.inl ⟨by rfl, ?hb19⟩) (fun _ => hHeld) ?rb19
        case hb19 => (intro wz _; go_simp <;> with_reducible rfl)
        try simp only [Act.put, List.setIfInBounds_toArray, List.set_cons_zero, List.set_cons_succ]
        refine wpAnyK_take (i := 19) (oi := { dst := some 66, op := Op.load 3 (Operand.tmp 65), type := 3, pos := "law.go:34", after := #[{ on := 18, ground := Ground.data }], guard := none }) (v := ?vb20) rfl (by kernel_rfl) (by kernel_rfl) (by kernel_rfl) (by kernel_rfl) (by kernel_rfl) (fun _ _ _ h => h) (Or.inl ⟨by rfl, ?hb20⟩) hHeld ?rb20
        case hb20 => (intro wz hSw; (try dsimp only at hSw); go_simp <;> with_reducible rfl)
        try simp only [Act.put, List.setIfInBounds_toArray, List.set_cons_zero, List.set_cons_succ]
        refine wpAnyK_pure (i := 20) (oi := { dst := some 67, op := Op.build 49 #[(0, Operand.tmp 54), (1, Operand.tmp 60), (2, Operand.tmp 66)], type := 49, pos := "law.go:34", after := #[{ on := 7, ground := Ground.data }, { on := 13, ground := Ground.data }, { on := 19, ground := Ground.data }], guard := none }) (v := ?vb21) rfl (by kernel_rfl) (by kernel_rfl) (by kernel_rfl) (by kernel_rfl) (fun _ _ _ h => h) (Or.inl ⟨by rfl, ?hb21⟩) (fun _ => hHeld) ?rb21
        case hb21 => (intro wz _; go_simp <;> with_reducible rfl)
        try simp only [Act.put, List.setIfInBounds_toArray, List.set_cons_zero, List.set_cons_succ]
        refine wpAnyK_one (i := 21) (by kernel_rfl) (oneK (o := { dst := some 68, op := Op.buildSlice 30 1 #[(0, Operand.tmp 67)], type := 30, pos := "law.go:34", after := #[{ on := 20, ground := Ground.data }], guard := none }) rfl (fun K hK => ?_))
        go_simp
        (try go_wp2_with fail)
        refine hK.out _ _ ?sb22 (fun hHeld => ?tb22)
        case sb22 => (intro _; exact (KS2.out _ (Sm.below (⟨rfl, rfl, rfl, rfl⟩ : Sm _ (wr.alloc (.cells #[.int .i64 x.a, .int .i64 x.b, .int .i64 x.c] 49))) BA.out)).1)
        replace hHeld := hHeld (un_of (by kernel_rfl))
        clear hK K
        try simp only [Act.put, List.setIfInBounds_toArray, List.set_cons_zero, List.set_cons_succ]
        refine wpAnyK_one (i := 22) (by kernel_rfl) (oneK (o := { dst := some 69, op := Op.call { callee := Callee.builtin Builtin.append, args := #[Operand.tmp 48, Operand.tmp 68], argTypes := #[30, 30] }, type := 30, pos := "law.go:34", after := #[{ on := 1, ground := Ground.data }, { on := 21, ground := Ground.data }], guard := none }) rfl (fun K hK => ?_))
        refine step_rung rfl (.tmp 48) (.tmp 68) 30 rfl rfl rfl (RUN.out _ ⟨rfl, rfl, rfl, rfl⟩) ?_
        intro v2 w2 g2
        obtain ⟨a3, c3', hv3⟩ := owng_shape g2.own
        generalize (p.th.take (k + 1)).length = n3 at hv3
        subst hv3
        have G2 : Hid (Below y.heap.size y w2) := g2.bel
        have F2 : Hid (_ ∧ _) := FIN.out _ _ g2
        obtain ⟨⟨x0, x1, x2, x3, x4⟩, fz⟩ := KS2.out w2 g2.bel
        clear g2 RUN FIN
        refine hK.out _ _ ?sb23 (fun hHeld => ?tb23)
        case sb23 => (intro _; exact ⟨x0, x1, x2, x3, x4⟩)
        replace hHeld := hHeld (un_of (by kernel_rfl))
        clear hK K
        try simp only [Act.put, List.setIfInBounds_toArray, List.set_cons_zero, List.set_cons_succ]
        refine wpAnyK_pure (i := 23) (oi := { dst := some 70, op := Op.fieldAddr 33 (Operand.tmp 3) 4, type := 0, pos := "law.go:34", after := #[{ on := 0, ground := Ground.phase }, { on := 1, ground := Ground.phase }, { on := 2, ground := Ground.phase }, { on := 3, ground := Ground.phase }, { on := 4, ground := Ground.phase }, { on := 5, ground := Ground.phase }, { on := 6, ground := Ground.phase }, { on := 7, ground := Ground.phase }, { on := 8, ground := Ground.phase }, { on := 9, ground := Ground.phase }, { on := 10, ground := Ground.phase }, { on := 11, ground := Ground.phase }, { on := 12, ground := Ground.phase }, { on := 13, ground := Ground.phase }, { on := 14, ground := Ground.phase }, { on := 15, ground := Ground.phase }, { on := 16, ground := Ground.phase }, { on := 17, ground := Ground.phase }, { on := 18, ground := Ground.phase }, { on := 19, ground := Ground.phase }, { on := 20, ground := Ground.phase }, { on := 21, ground := Ground.phase }, { on := 22, ground := Ground.phase }], guard := none }) (v := ?vb24) rfl (by kernel_rfl) (by kernel_rfl) (by kernel_rfl) (by kernel_rfl) (fun _ _ _ h => h) (Or.inl ⟨by rfl, ?hb24⟩) (fun _ => hHeld) ?rb24
        case hb24 => (intro wz _; go_simp <;> with_reducible rfl)
        try simp only [Act.put, List.setIfInBounds_toArray, List.set_cons_zero, List.set_cons_succ]
        refine wpAnyK_one (i := 24) (by kernel_rfl) (oneK (o := { dst := none, op := Op.store 30 (Operand.tmp 70) (Operand.tmp 69), type := 0, pos := "law.go:34", after := #[{ on := 23, ground := Ground.data }, { on := 22, ground := Ground.data }, { on := 22, ground := Ground.chain }, { on := 0, ground := Ground.phase }, { on := 1, ground := Ground.phase }, { on := 2, ground := Ground.phase }, { on := 3, ground := Ground.phase }, { on := 4, ground := Ground.phase }, { on := 5, ground := Ground.phase }, { on := 6, ground := Ground.phase }, { on := 7, ground := Ground.phase }, { on := 8, ground := Ground.phase }, { on := 9, ground := Ground.phase }, { on := 10, ground := Ground.phase }, { on := 11, ground := Ground.phase }, { on := 12, ground := Ground.phase }, { on := 13, ground := Ground.phase }, { on := 14, ground := Ground.phase }, { on := 15, ground := Ground.phase }, { on := 16, ground := Ground.phase }, { on := 17, ground := Ground.phase }, { on := 18, ground := Ground.phase }, { on := 19, ground := Ground.phase }, { on := 20, ground := Ground.phase }, { on := 21, ground := Ground.phase }, { on := 22, ground := Ground.phase }], guard := none }) rfl (fun K hK => ?_))
        go_simp
        (try go_wp2_with fail)
        refine hK.out _ _ ?sb25 (fun hHeld => ?tb25)
        case sb25 => (intro hU; exact absurd hU (un_not (by kernel_rfl)))
        clear hHeld hK K
        try simp only [Act.put, List.setIfInBounds_toArray, List.set_cons_zero, List.set_cons_succ]
        refine wpAnyK_done (by kernel_rfl) ?_ _
        go_wp2
        go_roundw
        case rel => exact ⟨k + 1, _, _, by omega, ⟨F2.out.1, ⟨(by have q := F2.out.2.own; exact ⟨q.1, q.2⟩), (by have q := F2.out.2.bel; exact ⟨q.os, q.tape, q.output, q.size, q.block⟩)⟩⟩, by go_num⟩
        case measure => simp [intOf]; omega
      · have e2 : k = p.th.length := by omega
        subst e2
        rw [List.take_of_length_le (Nat.le_refl _)] at hm
        obtain ⟨a2, c2, rfl⟩ := owng_shape hm.out.2.own
        have ky0 := (hm.out.1.zb _ rfl).1
        have ky := ky0.keep (Fr.of_below hm.out.2.bel) ky0.lt (by simp)
        have gw := hm.out.1.step hm.out.2.bel
        have g1 := gw.set1 [.int .i64 p.cp, .int .u64 (p.on : Int), .int .u64 (p.ac : Int), .int .u64 (p.pw : Int), .slice a2 p.th.length c2, (.slice b5 p.qu.length m5), (.slice b6 p.ti.length m6), (.slice b7 p.ir.length m7), (.slice b8 p.wo.length m8), (.slice b9 p.ca.length m9), (.slice b10 p.ke.length m10), .bool p.bu, .bool p.up, .int .i64 p.cc, .int .i64 p.by']
        have ot : own3 wr 49 (.slice a2 p.th.length c2) p.th := ⟨_, hm.out.2.own⟩
        have ot2 := ot.keep1 (fr_row (new := [.int .i64 p.cp, .int .u64 (p.on : Int), .int .u64 (p.ac : Int), .int .u64 (p.pw : Int), .slice a2 p.th.length c2, (.slice b5 p.qu.length m5), (.slice b6 p.ti.length m6), (.slice b7 p.ir.length m7), (.slice b8 p.wo.length m8), (.slice b9 p.ca.length m9), (.slice b10 p.ke.length m10), .bool p.bu, .bool p.up, .int .i64 p.cc, .int .i64 p.by']) gw.k1) gw.k1 (by decide)
        have PF : Hid (PV (wr.setRow (w.heap.size + 1) ([.int .i64 p.cp, .int .u64 (p.on : Int), .int .u64 (p.ac : Int), .int .u64 (p.pw : Int), .slice a2 p.th.length c2, (.slice b5 p.qu.length m5), (.slice b6 p.ti.length m6), (.slice b7 p.ir.length m7), (.slice b8 p.wo.length m8), (.slice b9 p.ca.length m9), (.slice b10 p.ke.length m10), .bool p.bu, .bool p.up, .int .i64 p.cc, .int .i64 p.by']).toArray) p (.slice a2 p.th.length c2) (.slice b5 p.qu.length m5) (.slice b6 p.ti.length m6) (.slice b7 p.ir.length m7) (.slice b8 p.wo.length m8) (.slice b9 p.ca.length m9) (.slice b10 p.ke.length m10)) := ⟨ot2.row, (g1.rs (.slice b5 p.qu.length m5, p.qu) (by simp)).row, (g1.rs (.slice b6 p.ti.length m6, p.ti) (by simp)).row, (g1.rs (.slice b7 p.ir.length m7, p.ir) (by simp)).row, (g1.rs (.slice b8 p.wo.length m8, p.wo) (by simp)).row, (g1.rs (.slice b9 p.ca.length m9, p.ca) (by simp)).row, (g1.rs (.slice b10 p.ke.length m10, p.ke) (by simp)).row, HH.out.oth, HH.out.oqu, HH.out.oti, HH.out.oir, HH.out.owo, HH.out.oca, HH.out.oke, HH.out.on, HH.out.ac, HH.out.pw, HH.out.cp, HH.out.cc, HH.out.by'⟩
        have BF : Hid (Below w.heap.size w (wr.setRow (w.heap.size + 1) ([.int .i64 p.cp, .int .u64 (p.on : Int), .int .u64 (p.ac : Int), .int .u64 (p.pw : Int), .slice a2 p.th.length c2, (.slice b5 p.qu.length m5), (.slice b6 p.ti.length m6), (.slice b7 p.ir.length m7), (.slice b8 p.wo.length m8), (.slice b9 p.ca.length m9), (.slice b10 p.ke.length m10), .bool p.bu, .bool p.up, .int .i64 p.cc, .int .i64 p.by']).toArray)) := g1.bel
        have KF : Hid (Blk _ (w.heap.size + 1) [.int .i64 p.cp, .int .u64 (p.on : Int), .int .u64 (p.ac : Int), .int .u64 (p.pw : Int), .slice a2 p.th.length c2, (.slice b5 p.qu.length m5), (.slice b6 p.ti.length m6), (.slice b7 p.ir.length m7), (.slice b8 p.wo.length m8), (.slice b9 p.ca.length m9), (.slice b10 p.ke.length m10), .bool p.bu, .bool p.up, .int .i64 p.cc, .int .i64 p.by'] 33) := g1.k1
        have K1' : Hid (Blk wr (w.heap.size + 1) _ 33) := gw.k1
        have d4 := gw.k0.cell 4
        simp only [List.getElem?_cons_zero, List.getElem?_cons_succ] at d4
        have q0 := ky.cell 0
        have q1 := ky.cell 1
        have q2 := ky.cell 2
        have q3 := ky.cell 3
        have q4 := ky.cell 4
        have q5 := ky.cell 5
        have q6 := ky.cell 6
        have q7 := ky.cell 7
        have q8 := ky.cell 8
        have q9 := ky.cell 9
        have q10 := ky.cell 10
        have q11 := ky.cell 11
        have q12 := ky.cell 12
        have q13 := ky.cell 13
        have q14 := ky.cell 14
        simp only [List.getElem?_cons_zero, List.getElem?_cons_succ] at q0 q1 q2 q3 q4 q5 q6 q7 q8 q9 q10 q11 q12 q13 q14
        clear hm bw ky0 ky gw g1 ot ot2 G0
        go_wp2_with (guard_target =~ wpList _ _ _ (Oper.mk none (Op.store _ _ _) _ _ _ _ :: _) _ _; refine wpList_store_row rfl 33 (.tmp 2) (.tmp 71) rfl (w.heap.size + 1) _ rfl rfl 33 _ K1'.out (by rw [infoPi]; rfl) rfl (by kernel_rfl) ?_)
        exact bodyPost_ret (gv_ret KF.out rfl rfl) rfl ⟨⟨_, _, _, _, _, _, _, rfl, PF.out⟩, BF.out⟩
end Go.Proofs.YtfdmcbcomknebaaGreatDoor.Aud
