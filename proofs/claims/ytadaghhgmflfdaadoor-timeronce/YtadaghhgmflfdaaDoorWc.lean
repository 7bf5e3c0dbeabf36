/- What slices.Insert and slices.Delete do to a list of things of one's own: one put in, one taken out. -/
import Derived.Test.YtadaghhgmflfdaaDoorRows
import Derived.Test.YtadaghhgmflfdaaDoorWb
import Derived.WalkKit
import Derived.ProofKit
import Derived.OpenShut
import Derived.BigQuiet
import Derived.Deep.RegionLaw
import Derived.Laws.Externs
import Derived.Lib.JoinLaws
namespace Go.Proofs.YtadaghhgmflfdaaDoor
open Go.ChangeShapes Go.WideShapes Go.ChangeAt Go.RowKit
open Wm

theorem Tryd.infoTh : (Tryd.prog.info? 95).map (fun i => (i.zero, i.size, i.bytes)) = some (some (.agg #[.int .i64 0, .int .i64 0]), 2, 16) := by kernel_rfl
theorem sizeTh : (Tryd.prog.info? 95).map (·.size) = some 2 := by kernel_rfl
theorem zeroTh (w : World) : (zeroValue 95).run Tryd.prog w = .ok (.agg #[.int .i64 0, .int .i64 0]) w := by kernel_rfl

/-- copy as a step of a walk, its run given. -/
theorem wpList_copy_run {P : Program} (w : World) {ops : Array Oper} {rest : List Oper} {o : Oper} {a : Act} {Q : Exit → Act → World → Prop} (hgd : o.guard = none) (d s : Operand) (t t' : TypeId)
    (ho : o.op = .call { callee := .builtin .copy, args := #[d, s], argTypes := #[t, t'] }) (v u : Value) (hd : a.eval d = v) (hs : a.eval s = u) {v' : Value} {w' : World}
    (hr : (Builtin.copy_ #[t, t'] o.type #[v, u]).run P w = .ok v' w') (h : wpList P ops Q rest (a.put o.dst v') w') : wpList P ops Q (o :: rest) a w := by
  refine wpList_plain hgd fun K hK => ?_
  unfold Oper.wp execOp
  simp only [ho, resolve, invoke, builtin, Sem.run_bind, Sem.run_pure, Result.andThen_ok, List.map_toArray, List.map_cons, List.map_nil, hd, hs, hr]
  exact hK _ _ h
/-- .. and of a region that draws its order. -/
theorem step_copy_run {P : Program} {ops : Array Oper} {o : Oper} {a : Act} {w : World} {K : Act → World → Prop} {Q : Exit → Act → World → Prop} {E : Prop}
    (hg : o.guard = none) (d x : Operand) (dT sT : TypeId) (hop : o.op = Op.call { callee := Callee.builtin Builtin.copy, args := #[d, x], argTypes := #[dT, sT] })
    (v u : Value) (hd : a.eval d = v) (hx : a.eval x = u) {v' : Value} {w' : World} (hr : (Builtin.copy_ #[dT, sT] o.type #[v, u]).run P w = .ok v' w') (hK : K (a.put o.dst v') w') :
    if Region.wanted o (yielded ops a.tmps) = true then Oper.wp P o a w K Q else E := by
  have hw : Region.wanted o (yielded ops a.tmps) = true := by simp [Region.wanted, hg]
  rw [if_pos hw]
  unfold Oper.wp
  simp [execOp, hop, resolve, invoke, builtin, hd, hx, hr, Result.andThen]
  exact hK

set_option maxHeartbeats 4000000 in
set_option maxRecDepth 100000 in
theorem insert_room {w : World} {g cap i : Nat} {cur : List Value} {L : List It} {x : It} {vb c : Nat} {tv : TypeId} (hb : Blk w g cur 95) (hi : i < L.length) (hroom : L.length + 1 ≤ cap) (hcap : cap ≤ maxLen) (hcl : cur.length = cap * 2) (htk : cur.take (L.length * 2) = cls L)
    (hv : Blk w vb (cel x) tv) (hvg : vb ≠ g) :
    Calls Tryd.prog 64 #[.slice (some ⟨g, 0, none⟩) L.length cap, .int .i64 i, .slice (some ⟨vb, 0, none⟩) 1 c] w fun e w' =>
      e = .returned (.slice (some ⟨g, 0, none⟩) (L.length + 1) cap) ∧ w' = (w.drew.setCells g ((i + 1) * 2) (cls (L.drop i))).setCells g (i * 2) (cel x) := by
  have ho : Own 95 w (.slice (some ⟨g, 0, none⟩) L.length cap) L := own_mk hb rfl (by omega) hcap hcl htk
  have hsome : ∀ k, k < cap * 2 → (w.cell? ⟨g, k, none⟩).isSome = true := fun k hk => by rw [hb.cell, List.getElem?_eq_getElem (by omega)]; rfl
  have hdl : (cls (L.drop i)).length = (L.length - i) * 2 := by rw [cls_len, List.length_drop]
  have hov : ∀ lb cb, (callFunc 76 #[.slice (some ⟨vb, 0, none⟩) 1 c, .slice (some ⟨g, (i + 1) * 2, none⟩) lb cb]).run Tryd.prog w = .ok (.value (.bool false)) w := fun lb cb => by
    rw [run_callFunc_extern Tryd.func76 (by kernel_rfl) (by kernel_rfl) (by kernel_rfl) (e := Extern.SlicesOverlaps.overlaps #[87, 87] #[4]) (by kernel_rfl)]
    rw [Lib.run_overlaps_apart w 87 4 95 Tryd.underlying87 2 (fun w => by kernel_rfl) ⟨vb, 0, none⟩ ⟨g, (i + 1) * 2, none⟩ 1 c lb cb hvg tv 95 2 cur.length (by simp [World.shape?, show w.heap[vb]? = _ from hv, cel]) (by simp [World.shape?, show w.heap[g]? = _ from hb]) (by omega) (hv.free 0) (hv.free 2)]
    rfl
  have hcp1 : ∀ ty dc sc, (Builtin.copy_ #[87, 87] ty #[.slice (some ⟨g, (i + 1) * 2, none⟩) (L.length - i) dc, .slice (some ⟨g, i * 2, none⟩) (L.length + 1 - i) sc]).run Tryd.prog w.drew = .ok (goInt ((L.length - i : Nat) : Int)) (w.drew.setCells g ((i + 1) * 2) (cls (L.drop i))) := fun ty dc sc =>
    run_copy_k w.drew _ _ ty 95 2 g ((i + 1) * 2) (L.length - i) dc ⟨g, i * 2, none⟩ (L.length + 1 - i) sc (L.length - i) (cls (L.drop i)) Tryd.underlying87 sizeTh (by simp only [Nat.min_def]; split <;> omega) hdl
      (fun j v hj => by rw [Addr.add_lit]; exact ho.cells i j v hj)
      (fun j hj => hsome _ (by omega)) (fun j hj => hb.free _) (cls_one _)
  obtain ⟨W1, hW1⟩ : ∃ W1, W1 = w.drew.setCells g ((i + 1) * 2) (cls (L.drop i)) := ⟨_, rfl⟩
  have hb1 : Blk W1 g (cur.take ((i + 1) * 2) ++ cls (L.drop i) ++ cur.drop ((i + 1) * 2 + (cls (L.drop i)).length)) 95 := by
    rw [hW1]
    exact blk_setCells g _ _ _ cur w.drew hb (by rw [hdl]; omega)
  have hv1 : Blk W1 vb (cel x) tv := by
    rw [hW1]
    exact hv.keep (fr_setCells (B := w.heap.size) (S := [g]) g (Or.inr (by simp)) _ _ _ (Fr.refl _ _ w).drew) hv.lt (by simpa using hvg)
  have hcp2 : ∀ ty dc, (Builtin.copy_ #[87, 87] ty #[.slice (some ⟨g, i * 2, none⟩) (L.length + 1 - i) dc, .slice (some ⟨vb, 0, none⟩) 1 c]).run Tryd.prog W1 = .ok (goInt 1) (W1.setCells g (i * 2) (cel x)) := fun ty dc =>
    run_copy_k W1 _ _ ty 95 2 g (i * 2) (L.length + 1 - i) dc ⟨vb, 0, none⟩ 1 c 1 (cel x) Tryd.underlying87 sizeTh (by simp only [Nat.min_def]; split <;> omega) rfl
      (fun j v hj => by rw [Addr.add_lit, Nat.zero_add, hv1.cell]; exact hj)
      (fun j hj => by rw [hb1.cell, List.getElem?_eq_getElem (by rw [sp_len _ _ _ (by rw [hdl]; omega)]; simp [cel] at hj; omega)]; rfl)
      (fun j hj => hb1.free _) (fun v hv => by unfold cel at hv; simp at hv; rcases hv with rfl | rfl <;> rfl)
  rw [← hW1] at hcp1 ⊢
  have z1 : ¬ ((i : Int) = (L.length : Int)) := by omega
  have z2 : ((L.length : Int) + 1 ≤ (cap : Int)) := by omega
  have z3 : (cap : Int) ≤ 9223372036854775807 := by unfold maxLen at hcap; omega
  have z4 : ¬ (cap = i + 1) := by omega
  have z5 : ¬ (cap = i) := by omega
  have z6 : (i : Int) < (L.length : Int) := by omega
  have z7 : IntKind.i64.wrap ((i : Int) + 1) = (i : Int) + 1 := by rw [IntKind.wrap_i64]; omega
  have z8 : (0 : Int) ≤ (i : Int) + 1 := by omega
  have z9 : ((i : Int) + 1).toNat = i + 1 := by omega
  have z10 : (i : Int) ≤ (L.length : Int) + 1 := by omega
  have z11 : (i : Int) + 1 ≤ (L.length : Int) + 1 := by omega
  have HW : Hid (W1 = w.drew.setCells g ((i + 1) * 2) (cls (L.drop i))) := hW1
  generalize L.length = n at *
  clear hb hcl htk hv hvg ho hsome hdl hb1 hv1 hW1 hcap hi hroom
  go_enter Tryd.func64, Tryd.ntmps64
  go_wp2_with (simp only [hov])
  go_region_law (refine step_copy_run rfl _ _ 87 87 rfl _ _ (by simp [Act.eval, Act.put]) (by simp [Act.eval, Act.put]) (hcp1 _ _ _) ?_)
  go_wp2_with (at_builtin; refine wpList_copy_run _ rfl _ _ 87 87 rfl _ _ rfl rfl (hcp2 _ _) ?_)
  go_ret
  exact ⟨rfl, rfl⟩

theorem sm_refl (w : World) : Sm w w := ⟨rfl, rfl, rfl, rfl⟩
theorem sm_drew (w1 w : World) (h : Sm w1 w) : Sm w1.drew w := h
theorem sm_cells (g : Nat) : ∀ (vs : List Value) (o : Nat) (w1 w : World), Sm w1 w → Sm (w1.setCells g o vs) (w.setCells g o vs)
  | [], _, _, _, h => h
  | v :: r, o, w1, w, h => sm_cells g r (o + 1) _ _ ⟨by simp [World.setCell, h.1], h.2.1, h.2.2.1, h.2.2.2⟩

theorem zc_len (n : Nat) : (Builtin.zeroCells (Value.agg #[.int .i64 0, .int .i64 0]).cells n).size = n * 2 := size_zeroCells _ _

set_option maxHeartbeats 4000000 in
set_option maxRecDepth 100000 in
theorem insert_grow {w : World} {g cap i : Nat} {L : List It} {x : It} {vb c : Nat} {tv : TypeId} (ho : Own 95 w (.slice (some ⟨g, 0, none⟩) L.length cap) L) (hgl : g < w.heap.size) (hi : i < L.length) (hcap : L.length ≤ cap) (hroom : cap < L.length + 1) (hs : L.length ≤ 3000)
    (hv : Blk w vb (cel x) tv) :
    Calls Tryd.prog 64 #[.slice (some ⟨g, 0, none⟩) L.length cap, .int .i64 i, .slice (some ⟨vb, 0, none⟩) 1 c] w fun e w' =>
      ∃ (G : Nat) (R : List Value), e = .returned (.slice (some ⟨w.heap.size, 0, none⟩) (L.length + 1) G) ∧ L.length + 1 ≤ G ∧ G ≤ maxLen ∧ R.length = G * 2 ∧ R.take (i * 2) = cls (L.take i) ∧
        Sm w' (((w.alloc (.cells R.toArray 95)).setCells w.heap.size (i * 2) (cel x)).setCells w.heap.size ((i + 1) * 2) (cls (L.drop i))) := by
  obtain ⟨i0, hi0, hz0, hzs, hzb⟩ := info_parts Tryd.infoTh
  have hkk : (L.length : Int) + 1 - (i : Int) = ((L.length + 1 - i : Nat) : Int) := by omega
  have hik : i + (L.length + 1 - i) = L.length + 1 := by omega
  have hdl : (cls (L.drop i)).length = (L.length - i) * 2 := by rw [cls_len, List.length_drop]
  have hold : (Builtin.firstCells i0.size i (.slice (some ⟨g, 0, none⟩) i cap)).run Tryd.prog w.drew = .ok (cls (L.take i)).toArray w.drew := by
    rw [hzs]
    exact run_firstCells_some w.drew 2 i ⟨g, 0, none⟩ i cap (cls (L.take i)) (by rw [cls_len, List.length_take]; omega) (fun j v hj => by
      rw [Addr.add_lit, Nat.zero_add]
      have hl := (List.getElem?_eq_some_iff.1 hj).1
      rw [← cls_take, List.getElem?_take] at hj
      split at hj
      · have := ho.cells 0 j v (by simpa using hj)
        simpa using this
      · cases hj)
  have hrz : ∀ ty, (Builtin.append_ #[87, 3] ty #[.slice (some ⟨g, 0, none⟩) i cap, .int .i64 ((L.length : Int) + 1 - (i : Int))]).run Tryd.prog w =
      .ok (.slice (some ⟨w.heap.size, 0, none⟩) (L.length + 1) (grownCap w (L.length + 1) cap 95)) (w.drew.alloc (.cells ((cls (L.take i)).toArray ++ Builtin.zeroCells (Value.agg #[.int .i64 0, .int .i64 0]).cells (L.length + 1 - i) ++ Builtin.zeroCells (Value.agg #[.int .i64 0, .int .i64 0]).cells (grownCap w (L.length + 1) cap 95 - (L.length + 1))) 95)) := fun ty => by
    have h := Lib.run_append_grow_zeros w 87 3 ty 95 i0 _ .i64 .i64 Tryd.underlying87 Tryd.underlying3 hi0 hz0 (some ⟨g, 0, none⟩) i cap (cls (L.take i)) hold (L.length + 1 - i) (by omega) (by rw [hzs]; omega) (by omega) (by omega) (by rw [hzb]; omega) (by rw [hzb, hik]; exact growslice_fits hroom (by omega))
    rw [hik] at h
    rw [hkk]
    exact h
  obtain ⟨G, hG⟩ : ∃ G, G = grownCap w (L.length + 1) cap 95 := ⟨_, rfl⟩
  have hGn : L.length + 1 ≤ G := by rw [hG]; exact grownCap_ge w _ _ _
  have hGm : G ≤ maxLen := by rw [hG]; exact grownCap_le_maxLen w _ _ _ (by unfold maxLen; omega)
  obtain ⟨R, hR⟩ : ∃ R : List Value, R.toArray = (cls (L.take i)).toArray ++ Builtin.zeroCells (Value.agg #[.int .i64 0, .int .i64 0]).cells (L.length + 1 - i) ++ Builtin.zeroCells (Value.agg #[.int .i64 0, .int .i64 0]).cells (G - (L.length + 1)) := ⟨_, Array.toArray_toList⟩
  rw [← hG] at hrz
  rw [← hR] at hrz
  have hRl : R.length = G * 2 := by
    have := congrArg Array.size hR
    simp only [Array.size_append, zc_len, List.size_toArray, cls_len, List.length_take] at this
    omega
  have hRt : R.take (i * 2) = cls (L.take i) := by
    have e := congrArg Array.toList hR
    simp only [Array.toList_append, List.append_assoc] at e
    rw [e]
    refine List.take_left' ?_
    rw [cls_len, List.length_take]
    omega
  have hb1 : ∀ W : World, W.heap = (w.alloc (.cells R.toArray 95)).heap → Blk W w.heap.size R 95 ∧ Blk W vb (cel x) tv := fun W e => ⟨(Blk.new w R _).heap e, (hv.alloc _).heap e⟩
  have hcpA : ∀ (W : World), W.heap = (w.alloc (.cells R.toArray 95)).heap → ∀ ty dc, (Builtin.copy_ #[87, 87] ty #[.slice (some ⟨w.heap.size, i * 2, none⟩) (L.length + 1 - i) dc, .slice (some ⟨vb, 0, none⟩) 1 c]).run Tryd.prog W = .ok (goInt 1) (W.setCells w.heap.size (i * 2) (cel x)) := fun W e ty dc =>
    run_copy_k W _ _ ty 95 2 w.heap.size (i * 2) (L.length + 1 - i) dc ⟨vb, 0, none⟩ 1 c 1 (cel x) Tryd.underlying87 sizeTh (by simp only [Nat.min_def]; split <;> omega) rfl
      (fun j v hj => by rw [Addr.add_lit, Nat.zero_add, (hb1 W e).2.cell]; exact hj)
      (fun j hj => by rw [(hb1 W e).1.cell, List.getElem?_eq_getElem (by simp [cel] at hj; omega)]; rfl)
      (fun j hj => (hb1 W e).1.free _) (fun v hv => by unfold cel at hv; simp at hv; rcases hv with rfl | rfl <;> rfl)
  have hcpB : ∀ (W : World), W.heap = ((w.alloc (.cells R.toArray 95)).setCells w.heap.size (i * 2) (cel x)).heap → ∀ ty dc sc, (Builtin.copy_ #[87, 87] ty #[.slice (some ⟨w.heap.size, (i + 1) * 2, none⟩) (L.length - i) dc, .slice (some ⟨g, i * 2, none⟩) (L.length - i) sc]).run Tryd.prog W = .ok (goInt ((L.length - i : Nat) : Int)) (W.setCells w.heap.size ((i + 1) * 2) (cls (L.drop i))) := fun W e ty dc sc => by
    have B1 : Blk W w.heap.size _ 95 := (blk_setCells w.heap.size _ (cel x) (i * 2) R (w.alloc (.cells R.toArray 95)) (Blk.new w R _) (by simp [cel]; omega)).heap e
    have B2 : Own 95 W (.slice (some ⟨g, 0, none⟩) L.length cap) L := by
      refine Own.heap (ho.keep (fr_setCells (B := w.heap.size) (S := []) w.heap.size (Or.inl (Nat.le_refl _)) (cel x) (i * 2) _ ((Fr.refl w.heap.size [] w).alloc (Nat.le_refl _) _)) ?_) e
      intro g2 e2
      simp [Value.ownBlock] at e2
      exact ⟨by omega, by simp⟩
    exact run_copy_k W _ _ ty 95 2 w.heap.size ((i + 1) * 2) (L.length - i) dc ⟨g, i * 2, none⟩ (L.length - i) sc (L.length - i) (cls (L.drop i)) Tryd.underlying87 sizeTh (by simp) hdl
      (fun j v hj => by rw [Addr.add_lit]; exact B2.cells i j v hj)
      (fun j hj => by rw [B1.cell, List.getElem?_eq_getElem (by rw [sp_len _ _ _ (by simp [cel]; omega)]; omega)]; rfl)
      (fun j hj => B1.free _) (cls_one _)
  have hE : Hid (∀ W1 W2 : World, W1.heap = (w.alloc (.cells R.toArray 95)).heap → W2.heap = (W1.setCells w.heap.size (i * 2) (cel x)).heap → W2.heap = ((w.alloc (.cells R.toArray 95)).setCells w.heap.size (i * 2) (cel x)).heap) := fun W1 W2 e1 e2 => e2.trans (heap_setCells _ _ _ _ _ e1)
  have z1 : ¬ ((i : Int) = (L.length : Int)) := by omega
  have z2 : (cap : Int) < (L.length : Int) + 1 := by omega
  have z4 : ¬ (cap = i) := by omega
  have z5 : ¬ (G = i) := by omega
  have z51 : ¬ (G = i + 1) := by omega
  have z6 : (i : Int) < (L.length : Int) := by omega
  have z61 : (i : Int) ≤ (cap : Int) := by omega
  have z7 : IntKind.i64.wrap ((i : Int) + 1) = (i : Int) + 1 := by rw [IntKind.wrap_i64]; omega
  have z8 : (0 : Int) ≤ (i : Int) + 1 := by omega
  have z9 : ((i : Int) + 1).toNat = i + 1 := by omega
  have z10 : (i : Int) ≤ (L.length : Int) + 1 := by omega
  have z11 : (i : Int) + 1 ≤ (L.length : Int) + 1 := by omega
  have z12 : (L.length : Int) ≤ 3000 := by omega
  have z13 : i ≤ L.length := by omega
  have HK : Hid (L.length + 1 ≤ G ∧ G ≤ maxLen ∧ R.length = G * 2 ∧ R.take (i * 2) = cls (L.take i)) := ⟨hGn, hGm, hRl, hRt⟩
  generalize L.length = n at *
  clear hkk hik hold hR hG hRl hRt hv ho hb1 hdl hGn hGm hgl hi hcap hroom hs
  go_enter Tryd.func64, Tryd.ntmps64
  have hA := hcpA (w.alloc (.cells R.toArray 95)).drew rfl
  have hB : Hid (∀ ty dc sc, _) := hcpB ((w.alloc (.cells R.toArray 95)).drew.setCells w.heap.size (i * 2) (cel x)).drew (hE.out (w.alloc (.cells R.toArray 95)).drew _ rfl rfl)
  clear hcpA hcpB
  go_wp2_with (at_builtin; refine Lib.wpList_append_run _ rfl _ _ _ _ rfl _ _ rfl rfl _ _ (hrz _) ?_)
  go_region_law (refine step_copy_run rfl _ _ 87 87 rfl (.slice (some ⟨w.heap.size, (i + 1) * 2, none⟩) (n - i) (G - (i + 1))) (.slice (some ⟨g, i * 2, none⟩) (n - i) (cap - i)) (by simp [Act.eval, Act.put]) (by simp [Act.eval, Act.put]) (hB.out 3 (G - (i + 1)) (cap - i)) ?_)
  go_wp2
  go_ret
  exact ⟨G, R, rfl, HK.out.1, HK.out.2.1, HK.out.2.2.1, HK.out.2.2.2, sm_cells _ _ _ _ _ (sm_drew _ _ (sm_cells _ _ _ _ _ (sm_drew _ _ (sm_refl _))))⟩

/-- The blocks of a list. -/
def ob (v : Value) : List Nat := v.ownBlock.toList
theorem mem_ob {v : Value} {g : Nat} : g ∈ ob v ↔ v.ownBlock = some g := by
  unfold ob
  cases v.ownBlock with
  | none => simp
  | some b => simp [eq_comm]
theorem ob_some (g n cap : Nat) : ob (.slice (some ⟨g, 0, none⟩) n cap) = [g] := rfl

set_option maxHeartbeats 4000000 in
set_option maxRecDepth 100000 in
theorem insert_end {w : World} {v : Value} {L : List It} {x : It} {vb c : Nat} {tv : TypeId} (ho : Own 95 w v L) (hs : L.length ≤ 2900) (hv : Blk w vb (cel x) tv) :
    Calls Tryd.prog 64 #[v, .int .i64 (L.length : Nat), .slice (some ⟨vb, 0, none⟩) 1 c] w fun e w' =>
      ∃ v', e = .returned v' ∧ Own 95 w' v' (L ++ [x]) ∧ Fr w.heap.size (ob v) w w' ∧ ∀ g ∈ ob v', g ∈ ob v ∨ w.heap.size ≤ g := by
  obtain ⟨i0, hi0, hz0, hzs, hzb⟩ := info_parts Tryd.infoTh
  have hrun : ∀ ty, ∃ v' w', (Builtin.append_ #[87, 87] ty #[v, .slice (some ⟨vb, 0, none⟩) 1 c]).run Tryd.prog w = .ok v' w' ∧ (Own 95 w' v' (L ++ [x]) ∧ Fr w.heap.size (ob v) w w' ∧ ∀ g ∈ ob v', g ∈ ob v ∨ w.heap.size ≤ g) := fun ty => by
    obtain ⟨v', w', r, o', gr, bl⟩ := run_appg (P := Tryd.prog) w 87 ty 95 i0 _ 2 16 Tryd.underlying87 hi0 hz0 hzs hzb rfl (by decide) (by decide) ho ⟨vb, 0, none⟩ 1 c (cel x) rfl
      (fun j u hj => by rw [Addr.add_lit, Nat.zero_add, hv.cell]; exact hj) (fun v hv => by unfold cel at hv; simp at hv; rcases hv with rfl | rfl <;> rfl) (by omega)
    refine ⟨v', w', r, ?_, (Fr.refl _ _ _).grown gr (Nat.le_refl _) (fun k hk => Or.inr (mem_ob.2 hk)), fun g hg => ?_⟩
    · unfold Own
      rw [List.length_append, cls_app]
      exact o'
    · rcases bl g (mem_ob.1 hg) with h | h
      · exact Or.inl (mem_ob.2 h)
      · exact Or.inr h
  obtain ⟨v', w', r, K⟩ := hrun 0
  have hty : ∀ ty ty' : TypeId, (Builtin.append_ #[87, 87] ty #[v, .slice (some ⟨vb, 0, none⟩) 1 c]).run Tryd.prog w = (Builtin.append_ #[87, 87] ty' #[v, .slice (some ⟨vb, 0, none⟩) 1 c]).run Tryd.prog w := fun _ _ => rfl
  have hr : ∀ ty, (Builtin.append_ #[87, 87] ty #[v, .slice (some ⟨vb, 0, none⟩) 1 c]).run Tryd.prog w = .ok v' w' := fun ty => (hty ty 0).trans r
  have KK : Hid (Own 95 w' v' (L ++ [x]) ∧ Fr w.heap.size (ob v) w w' ∧ ∀ g ∈ ob v', g ∈ ob v ∨ w.heap.size ≤ g) := K
  obtain ⟨p', n', c', hv'⟩ : ∃ p n c, v' = .slice p n c := by
    obtain ⟨a, cap, e⟩ := K.1.shape
    exact ⟨a, _, cap, e⟩
  have z1 : (L.length : Int) ≤ 2900 := by omega
  rcases ho.cases with ⟨rfl, rfl⟩ | ⟨g, cap, cur, rfl, hb, h1, h2, h3, h4⟩
  · clear hrun hty K ho hv hs r
    subst hv'
    go_enter Tryd.func64, Tryd.ntmps64
    go_wp2_with (at_builtin; refine Lib.wpList_append_run _ rfl _ _ _ _ rfl _ _ rfl rfl _ _ (hr _) ?_)
    go_ret
    exact ⟨_, rfl, KK.out⟩
  · have z2 : L.length ≤ cap := h1
    generalize L.length = n at *
    clear hrun hty K ho hv hs r hb h1 h2 h3 h4
    subst hv'
    go_enter Tryd.func64, Tryd.ntmps64
    by_cases zc : cap = n
    · go_wp2_with (at_builtin; refine Lib.wpList_append_run _ rfl _ _ _ _ rfl _ _ rfl rfl _ _ (hr _) ?_)
      go_ret
      exact ⟨_, rfl, KK.out⟩
    · go_wp2_with (at_builtin; refine Lib.wpList_append_run _ rfl _ _ _ _ rfl _ _ rfl rfl _ _ (hr _) ?_)
      go_ret
      exact ⟨_, rfl, KK.out⟩

theorem ins_cells (L : List It) (x : It) (i : Nat) (hi : i ≤ L.length) {l : List Value} (h1 : ∀ k, k < i * 2 → l[k]? = (cls (L.take i))[k]?) (h2 : ∀ k, k < 2 → l[i * 2 + k]? = (cel x)[k]?) (h3 : ∀ k, k < (L.length - i) * 2 → l[(i + 1) * 2 + k]? = (cls (L.drop i))[k]?) :
    l.take ((L.take i ++ x :: L.drop i).length * 2) = cls (L.take i ++ x :: L.drop i) := by
  have e1 : (cls (L.take i)).length = i * 2 := by rw [cls_len, List.length_take]; omega
  have ec : cls (L.take i ++ x :: L.drop i) = cls (L.take i) ++ (cel x ++ cls (L.drop i)) := by rw [cls_app]; rfl
  have el : (L.take i ++ x :: L.drop i).length = L.length + 1 := by simp; omega
  rw [el]
  refine take_is (by rw [cls_len, el]) fun j hj => ?_
  rw [ec, List.getElem?_append, e1]
  by_cases c1 : j < i * 2
  · rw [if_pos c1, h1 j c1]
  · rw [if_neg c1, List.getElem?_append]
    by_cases c2 : j - i * 2 < (cel x).length
    · rw [if_pos c2, ← h2 (j - i * 2) (by simpa [cel] using c2)]
      congr 1
      omega
    · have c3 : ¬ j - i * 2 < 2 := by simpa [cel] using c2
      rw [if_neg c2, show (cel x).length = 2 from rfl, ← h3 (j - i * 2 - 2) (by omega)]
      congr 1
      omega

theorem insert_any {w : World} {v : Value} {L : List It} {x : It} {i vb c : Nat} {tv : TypeId} (ho : Own 95 w v L) (hs : L.length ≤ 2900) (hv : Blk w vb (cel x) tv) (hvg : vb ∉ ob v) (hi : i ≤ L.length) :
    Calls Tryd.prog 64 #[v, .int .i64 (i : Nat), .slice (some ⟨vb, 0, none⟩) 1 c] w fun e w' =>
      ∃ v', e = .returned v' ∧ Own 95 w' v' (L.take i ++ x :: L.drop i) ∧ Fr w.heap.size (ob v) w w' ∧ ∀ g ∈ ob v', g ∈ ob v ∨ w.heap.size ≤ g := by
  by_cases hn : i = L.length
  · subst hn
    rw [List.take_length, List.drop_length]
    exact insert_end ho hs hv
  have hlt : i < L.length := by omega
  have hdl : (cls (L.drop i)).length = (L.length - i) * 2 := by rw [cls_len, List.length_drop]
  rcases ho.cases with ⟨rfl, rfl⟩ | ⟨g, cap, cur, rfl, hb, h1, h2, h3, h4⟩
  · simp at hlt
  by_cases room : L.length + 1 ≤ cap
  · refine (insert_room (tv := tv) (c := c) hb hlt room h2 h3 h4 hv (by simpa [ob_some] using hvg)).mono ?_
    rintro e w' ⟨rfl, rfl⟩
    have f1 : (i + 1) * 2 + (cls (L.drop i)).length ≤ cur.length := by rw [hdl]; omega
    have b1 := blk_setCells g 95 (cls (L.drop i)) ((i + 1) * 2) cur w.drew hb f1
    have f2 : i * 2 + (cel x).length ≤ (cur.take ((i + 1) * 2) ++ cls (L.drop i) ++ cur.drop ((i + 1) * 2 + (cls (L.drop i)).length)).length := by rw [sp_len _ _ _ f1]; simp [cel]; omega
    have b2 := blk_setCells g 95 (cel x) (i * 2) _ _ b1 f2
    refine ⟨_, rfl, ?_, ?_, fun g' hg' => Or.inl hg'⟩
    · refine own_mk b2 (by simp; omega) (by simp; omega) h2 (by rw [sp_len _ _ _ f2, sp_len _ _ _ f1]; exact h3) (ins_cells L x i hi (fun k hk => ?_) (fun k hk => ?_) (fun k hk => ?_))
      · rw [sp_get _ _ _ f2, if_neg (by omega), sp_get _ _ _ f1, if_neg (by omega), ← cls_take, List.getElem?_take, if_pos hk, ← h4, List.getElem?_take, if_pos (by omega)]
      · rw [sp_get _ _ _ f2, if_pos (by simp [cel]; omega)]
        congr 1
        omega
      · rw [sp_get _ _ _ f2, if_neg (by simp [cel]; omega), sp_get _ _ _ f1, if_pos (by rw [hdl]; omega)]
        congr 1
        omega
    · rw [ob_some]
      exact fr_setCells g (Or.inr (by simp)) _ _ _ (fr_setCells g (Or.inr (by simp)) _ _ _ (Fr.refl _ _ w).drew)
  · refine (insert_grow (tv := tv) (c := c) ho hb.lt hlt h1 (by omega) (by omega) hv).mono ?_
    rintro e w' ⟨G, R, rfl, g1, g2, g3, g4, sm⟩
    have f1 : i * 2 + (cel x).length ≤ R.length := by simp [cel]; omega
    have b1 := blk_setCells w.heap.size 95 (cel x) (i * 2) R (w.alloc (.cells R.toArray 95)) (Blk.new w R _) f1
    have f2 : (i + 1) * 2 + (cls (L.drop i)).length ≤ (R.take (i * 2) ++ cel x ++ R.drop (i * 2 + (cel x).length)).length := by rw [sp_len _ _ _ f1, hdl]; omega
    have b2 := (blk_setCells w.heap.size 95 (cls (L.drop i)) ((i + 1) * 2) _ _ b1 f2).heap sm.1
    refine ⟨_, rfl, ?_, ?_, fun g' hg' => ?_⟩
    · refine own_mk b2 (by simp; omega) (by simp; omega) g2 (by rw [sp_len _ _ _ f2, sp_len _ _ _ f1]; exact g3) (ins_cells L x i hi (fun k hk => ?_) (fun k hk => ?_) (fun k hk => ?_))
      · rw [sp_get _ _ _ f2, if_neg (by omega), sp_get _ _ _ f1, if_neg (by omega), ← g4, List.getElem?_take, if_pos hk]
      · rw [sp_get _ _ _ f2, if_neg (by omega), sp_get _ _ _ f1, if_pos (by simp [cel]; omega)]
        congr 1
        omega
      · rw [sp_get _ _ _ f2, if_pos (by rw [hdl]; omega)]
        congr 1
        omega
    · have fr : Fr w.heap.size [] w (((w.alloc (.cells R.toArray 95)).setCells w.heap.size (i * 2) (cel x)).setCells w.heap.size ((i + 1) * 2) (cls (L.drop i))) := fr_setCells _ (Or.inl (Nat.le_refl _)) _ _ _ (fr_setCells _ (Or.inl (Nat.le_refl _)) _ _ _ ((Fr.refl _ _ w).alloc (Nat.le_refl _) _))
      exact Fr.mono ⟨sm.2.1.trans fr.os, sm.2.2.1.trans fr.tape, sm.2.2.2.trans fr.output, by rw [sm.1]; exact fr.size, fun k hk hs => by rw [sm.1]; exact fr.block k hk hs⟩ (Nat.le_refl _) (by simp)
    · rw [ob_some] at hg'
      simp at hg'
      exact Or.inr (by omega)
end Go.Proofs.YtadaghhgmflfdaaDoor
