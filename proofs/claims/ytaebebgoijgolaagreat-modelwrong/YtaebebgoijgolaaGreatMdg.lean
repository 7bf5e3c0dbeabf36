/- A model's list of works: the only one goes, or there is none. -/
import Derived.Test.YtaebebgoijgolaaGreatRows
import Derived.Test.YtaebebgoijgolaaGreatMdf
import Derived.WalkKit
import Derived.ProofKit
import Derived.OpenShut
import Derived.BigQuiet
import Derived.Deep.RegionLaw
import Derived.Deep.RegionHeld3
import Derived.ArgAppend
import Derived.Laws.EntriesVeiled
namespace Go.Proofs.YtaebebgoijgolaaGreat
open Go.ChangeShapes Go.WideShapes Go.ChangeAt Go.RowKit
set_option linter.unusedVariables false
set_option linter.unusedSimpArgs false
set_option maxRecDepth 100000

/-- append as a step of a region that draws its order, its run given. -/
theorem step_append_run {P : Program} {ops : Array Oper} {o : Oper} {a : Act} {w : World} {K : Act → World → Prop} {Q : Exit → Act → World → Prop} {E : Prop}
    (hg : o.guard = none) (d x : Operand) (dT sT : TypeId) (hop : o.op = Op.call { callee := Callee.builtin Builtin.append, args := #[d, x], argTypes := #[dT, sT] })
    (v u : Value) (hd : a.eval d = v) (hx : a.eval x = u) {v' : Value} {w' : World} (hr : (Builtin.append_ #[dT, sT] o.type #[v, u]).run P w = .ok v' w') (hK : K (a.put o.dst v') w') :
    if Region.wanted o (yielded ops a.tmps) = true then Oper.wp P o a w K Q else E := by
  have hw : Region.wanted o (yielded ops a.tmps) = true := by simp [Region.wanted, hg]
  rw [if_pos hw]
  unfold Oper.wp
  simp [execOp, hop, resolve, invoke, builtin, hd, hx, hr, Result.andThen]
  exact hK

theorem run_clear_int {P : Program} (w : World) (t ty : TypeId) (ht : P.underlying t = some (.slice 3)) (hv : ∀ w, (zeroValue 3).run P w = .ok (.int .i64 0) w) (b o c : Nat)
    (hc : (w.cell? ⟨b, o, none⟩).isSome = true) (hf : w.frozen? ⟨b, o, none⟩ = false) :
    (Builtin.clear_ #[t] ty #[.slice (some ⟨b, o, none⟩) 1 c]).run P w = .ok (.tuple #[]) (w.setCell ⟨b, o, none⟩ (.int .i64 0)) := by
  have hzc : (Builtin.zeroCells (Value.int .i64 0).cells 1).toList = [.int .i64 0] := by kernel_rfl
  have hst := run_storeCells_cells (P := P) b o [.int .i64 0] 0 w (fun j hj => by obtain rfl : j = 0 := by simpa using hj
                                                                                  simpa using hc) (fun j hj => by obtain rfl : j = 0 := by simpa using hj
                                                                                                                  simpa using hf) (by intro v hv'; simp at hv'; subst hv'; rfl)
  simp only [Nat.add_zero] at hst
  simp [Builtin.clear_, run_underlying ht, hv, hzc, hst]
  rfl
theorem zero3 (w : World) : (zeroValue 3).run Tryz.prog w = .ok (.int .i64 0) w := by kernel_rfl

set_option maxHeartbeats 4000000 in
theorem delete_one (w : World) (g c : Nat) (cs : List Value) (h : Blk w g cs 3) (hc : 1 ≤ c) (hl : c ≤ maxLen) (hcl : cs.length = c) :
    Calls Tryz.prog 74 #[.slice (some ⟨g, 0, none⟩) 1 c, .int .i64 0, .int .i64 1] w fun e w' => e = .returned (.slice (some ⟨g, 0, none⟩) 0 c) ∧ w' = w.drew.setCell ⟨g, 0, none⟩ (.int .i64 0) := by
  obtain ⟨i0, hi0, hz⟩ := Option.map_eq_some_iff.1 Tryz.info3
  have hap : ∀ ty A, (Builtin.append_ #[27, 27] ty #[.slice (some ⟨g, 0, none⟩) 0 c, .slice (some A) 0 (c - 1)]).run Tryz.prog w.drew = .ok (.slice (some ⟨g, 0, none⟩) 0 c) w.drew := fun ty A => by
    have := run_append_room_cells (P := Tryz.prog) w.drew 27 ty 3 i0 Tryz.underlying27 hi0 g 0 0 c A 0 (c - 1) [] (by simp) (fun j u hj => by simp at hj) (by simp) (by omega) (fun j hj => by simp at hj) (fun j hj => by simp at hj)
    simpa [World.setCells] using this
  have hcr : ∀ ty d, (Builtin.clear_ #[27] ty #[.slice (some ⟨g, 0, none⟩) 1 d]).run Tryz.prog w.drew = .ok (.tuple #[]) (w.drew.setCell ⟨g, 0, none⟩ (.int .i64 0)) := fun ty d =>
    run_clear_int w.drew 27 ty Tryz.underlying27 zero3 g 0 d (by show (w.cell? ⟨g, 0, none⟩).isSome = true; rw [h.cell, List.getElem?_eq_getElem (by omega)]; rfl) (h.free 0)
  have z3 : (c : Int) ≤ 9223372036854775807 := by unfold maxLen at hl; omega
  have z4 : (1 : Int) ≤ (c : Int) := by omega
  have z5 : ¬ (c = 0) := by omega
  have HA : Hid _ := hap
  clear hap h hl hcl hz
  by_cases zc : c = 1
  · subst zc
    have AP : Hid (∀ ty, (Builtin.append_ #[27, 27] ty #[.slice (some ⟨g, 0, none⟩) 0 1, .slice (some ⟨g, 0, none⟩) 0 0]).run Tryz.prog w.drew = .ok (.slice (some ⟨g, 0, none⟩) 0 1) w.drew) := fun ty => HA.out ty ⟨g, 0, none⟩
    clear HA z3 z4 z5 hc
    go_enter Tryz.func74, Tryz.ntmps74
    go_wp2_with fail
    go_region_law (refine step_append_run rfl (.tmp 22) (.tmp 25) 27 27 rfl (.slice (some ⟨g, 0, none⟩) 0 1) (.slice (some ⟨g, 0, none⟩) 0 0) (by simp [Act.eval, Act.put]) (by simp [Act.eval, Act.put]) (AP.out _) ?_)
    go_wp2
    go_ret
    exact ⟨rfl, rfl⟩
  · have AP : Hid (∀ ty, (Builtin.append_ #[27, 27] ty #[.slice (some ⟨g, 0, none⟩) 0 c, .slice (some ⟨g, 1, none⟩) 0 (c - 1)]).run Tryz.prog w.drew = .ok (.slice (some ⟨g, 0, none⟩) 0 c) w.drew) := fun ty => HA.out ty ⟨g, 1, none⟩
    clear HA hc
    go_enter Tryz.func74, Tryz.ntmps74
    go_wp2_with fail
    go_region_law (refine step_append_run rfl (.tmp 22) (.tmp 25) 27 27 rfl (.slice (some ⟨g, 0, none⟩) 0 c) (.slice (some ⟨g, 1, none⟩) 0 (c - 1)) (by simp [Act.eval, Act.put]) (by simp [Act.eval, Act.put]) (AP.out _) ?_)
    go_wp2
    go_ret
    exact ⟨rfl, rfl⟩

set_option maxHeartbeats 1000000 in
theorem drop_none (x : Int) (w : World) (t : TypeId) (m i : Nat) (n : Int) (cs : List Value) (a : Option Addr) (c : Nat) (h : Blk w m cs t) (hi : cs[i]? = some (.slice a 0 c)) :
    Calls Tryz.prog 44 #[.agg (lc ⟨m, i, none⟩ n).toArray, .int .i64 x] w fun e w' => e = .returned (.bool false) ∧ Below w.heap.size w w' := by
  have hm := h.lt
  have W0 : Below w.heap.size w (w.alloc (.cells (lc ⟨m, i, none⟩ n).toArray 87)) := (Below.refl _ _).alloc (Nat.le_refl _) _
  have CP : Hid (∀ _ : Unit, _) := fun _ => place_nil x (w.alloc (.cells (lc ⟨m, i, none⟩ n).toArray 87)) ⟨m, i, none⟩ n a c (by simp; omega) (by
    rw [World.cell?_of_block (w := w) (Below.heap_alloc _ _ _ hm), h.cell]; exact hi)
  have FI : Hid (∀ v1, Below (w.alloc (.cells (lc ⟨m, i, none⟩ n).toArray 87)).heap.size (w.alloc (.cells (lc ⟨m, i, none⟩ n).toArray 87)) v1 → Below w.heap.size w v1) := fun v1 b => W0.trans (b.mono (by simp))
  unfold lc at *
  clear h hm hi W0
  go_enter Tryz.func44, Tryz.ntmps44
  go_wp2_with fail
  refine (CP.out ()).mono ?_
  rintro e v1 ⟨rfl, b1⟩
  have F := FI.out v1 b1
  go_wp2
  go_ret
  exact ⟨rfl, F⟩

set_option maxHeartbeats 4000000 in
theorem drop_one (x : Int) (w : World) (t : TypeId) (m i : Nat) (n : Int) (cs : List Value) (g c : Nat) (h : Blk w m cs t) (ht : t ≠ 3) (hi : cs[i]? = some (.slice (some ⟨g, 0, none⟩) 1 c)) (cur : List Value) (hg : Blk w g (.int .i64 x :: cur) 3) (hc : c = cur.length + 1) (hl : c ≤ maxLen) :
    Calls Tryz.prog 44 #[.agg (lc ⟨m, i, none⟩ n).toArray, .int .i64 x] w fun e w' => e = .returned (.bool true) ∧ Blk w' m (cs.set i (.slice (some ⟨g, 0, none⟩) 0 c)) t ∧ Fr w.heap.size [m, g] w w' := by
  have hm := h.lt
  have hgm : m ≠ g := h.ne hg ht
  have W0 : Below w.heap.size w (w.alloc (.cells (lc ⟨m, i, none⟩ n).toArray 87)) := (Below.refl _ _).alloc (Nat.le_refl _) _
  have L0 := box_list w ⟨m, i, none⟩ n
  have CP : Hid (∀ _ : Unit, _) := fun _ => place_one x (w.alloc (.cells (lc ⟨m, i, none⟩ n).toArray 87)) ⟨m, i, none⟩ n g c (by simp; omega) (by
    rw [World.cell?_of_block (w := w) (Below.heap_alloc _ _ _ hm), h.cell]; exact hi) ((hg.alloc _).cell 0)
  have KP : Hid (∀ v1, Below (w.alloc (.cells (lc ⟨m, i, none⟩ n).toArray 87)).heap.size (w.alloc (.cells (lc ⟨m, i, none⟩ n).toArray 87)) v1 → Below w.heap.size w v1 ∧ Blk v1 w.heap.size (lc ⟨m, i, none⟩ n) 87 ∧ v1.cell? ⟨m, i, none⟩ = some (.slice (some ⟨g, 0, none⟩) 1 c)) := fun v1 b => by
    have b2 := W0.trans (b.mono (by simp : w.heap.size ≤ _))
    have k2 : Blk v1 m cs t := (b2.block m hm).trans h
    exact ⟨b2, L0.below b, (k2.cell i).trans hi⟩
  have DE : Hid (∀ v1 V : World, Below w.heap.size w v1 → Blk v1 w.heap.size (lc ⟨m, i, none⟩ n) 87 → Sm V v1 → Calls Tryz.prog 74 #[.slice (some ⟨g, 0, none⟩) 1 c, .int .i64 0, .int .i64 (IntKind.i64.wrap 1)] V fun e w4 => e = .returned (.slice (some ⟨g, 0, none⟩) 0 c) ∧ w4.cell? ⟨w.heap.size, 0, none⟩ = some (.pointer (some ⟨m, i, none⟩)) ∧ w4.cell? ⟨m, i, none⟩ = some (.slice (some ⟨g, 0, none⟩) 1 c) ∧ w4.frozen? ⟨m, i, none⟩ = false ∧ Hid (Blk (w4.setCell ⟨m, i, none⟩ (.slice (some ⟨g, 0, none⟩) 0 c)) m (cs.set i (.slice (some ⟨g, 0, none⟩) 0 c)) t ∧ Fr w.heap.size [m, g] w (w4.setCell ⟨m, i, none⟩ (.slice (some ⟨g, 0, none⟩) 0 c)))) := fun v1 V b1 k1 hV => by
    have bV : Below w.heap.size w V := hV.below b1
    have gV : Blk V g (.int .i64 x :: cur) 3 := (bV.block g hg.lt).trans hg
    have mV : Blk V m cs t := (bV.block m hm).trans h
    rw [show IntKind.i64.wrap 1 = 1 by decide]
    refine (delete_one V g c _ gV (by omega) hl (by simp; omega)).mono ?_
    rintro e w4 ⟨rfl, rfl⟩
    have lV : Blk (V.drew.setCell ⟨g, 0, none⟩ (.int .i64 0)) w.heap.size (lc ⟨m, i, none⟩ n) 87 := Blk.other (w := V.drew) (k1.heap hV.1) (by have := hg.lt; show w.heap.size ≠ g; omega) _
    have m4 : Blk (V.drew.setCell ⟨g, 0, none⟩ (.int .i64 0)) m cs t := Blk.other (w := V.drew) mV hgm _
    exact ⟨rfl, lV.cell 0, (m4.cell i).trans hi, m4.free i, m4.set i _, ((((Fr.of_below bV).mono (Nat.le_refl _) (by simp)).drew).setCell (p := ⟨g, 0, none⟩) (Or.inr (by simp)) _).setCell (p := ⟨m, i, none⟩) (Or.inr (by simp)) _⟩
  unfold lc at CP KP ⊢
  clear h hm hi W0 L0 hg hc
  go_enter Tryz.func44, Tryz.ntmps44
  go_wp2_with fail
  refine (CP.out ()).mono ?_
  rintro e v1 ⟨rfl, b1⟩
  obtain ⟨b2, k2, j3⟩ := KP.out v1 b1
  have j0 : v1.cell? ⟨w.heap.size, 0, none⟩ = some (.pointer (some ⟨m, i, none⟩)) := k2.cell 0
  have DV : Hid (∀ V, Sm V v1 → _) := fun V hV => DE.out v1 V b2 k2 hV
  clear CP KP DE b1 b2 k2
  go_wp2_with fail
  go_region_with (first | (go_at_call 74; refine (DV.out _ ?_).mono ?_; (exact ⟨rfl, rfl, rfl, rfl⟩); rintro e w4 ⟨rfl, q0, q1, q2, FF⟩))
  all_goals (go_wp2; go_ret; exact ⟨rfl, FF.out⟩)

theorem size_li : (Tryz.prog.info? 87).map (·.size) = some 3 := by kernel_rfl
theorem works_ret {w : World} {z : Nat} {cs : List Value} {tmps : Array Value} (h : Blk w z cs 87) (hl : cs.length = 3) (h2 : tmps.getD 2 undef = .pointer (some ⟨z, 0, none⟩)) :
    (results Tryz.f45 tmps).run Tryz.prog w = .ok (.agg cs.toArray) w :=
  results_cell_row (p := 2) (ty := 87) rfl tmps w z 87 cs.toArray (0, 0) _ h2 h Tryz.underlying87 rfl (by rw [size_li]; simp [hl])
theorem works_any (w : World) (m : Nat) (hm : m < w.heap.size) :
    Calls Tryz.prog 45 #[.pointer (some ⟨m, 0, none⟩)] w fun e w' => e = .returned (.agg (lc ⟨m, 6, none⟩ 32).toArray) ∧ Below w.heap.size w w' := by
  have BE : Hid (Below w.heap.size w (w.alloc (.cells (lc ⟨m, 6, none⟩ 32).toArray 87))) := (Below.refl _ _).alloc (Nat.le_refl _) _
  have L0 : Hid (Blk (w.alloc (.cells (lc ⟨m, 6, none⟩ 32).toArray 87)) w.heap.size _ _) := box_list w ⟨m, 6, none⟩ 32
  unfold lc at *
  go_enter Tryz.func45, Tryz.ntmps45
  go_wp2
  exact bodyPost_ret (works_ret L0.out rfl rfl) rfl ⟨rfl, BE.out⟩
end Go.Proofs.YtaebebgoijgolaaGreat
