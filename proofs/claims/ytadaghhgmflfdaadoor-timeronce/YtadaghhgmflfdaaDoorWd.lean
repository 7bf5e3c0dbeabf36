/- What slices.Delete does to a list of things of one's own: one is taken out. -/
import Derived.Test.YtadaghhgmflfdaaDoorRows
import Derived.Test.YtadaghhgmflfdaaDoorWc
import Derived.WalkKit
import Derived.ProofKit
import Derived.OpenShut
import Derived.BigQuiet
import Derived.Deep.RegionLaw
import Derived.ArgAppend
namespace Go.Proofs.YtadaghhgmflfdaaDoor
open Go.ChangeShapes Go.WideShapes Go.ChangeAt Go.RowKit
open Wm

/-- append as a step of a region that draws its order, its run given. -/
theorem step_append_run {P : Program} {ops : Array Oper} {o : Oper} {a : Act} {w : World} {K : Act → World → Prop} {Q : Exit → Act → World → Prop} {E : Prop}
    (hg : o.guard = none) (d x : Operand) (dT sT : TypeId) (hop : o.op = Op.call { callee := Callee.builtin Builtin.append, args := #[d, x], argTypes := #[dT, sT] })
    (v u : Value) (hd : a.eval d = v) (hx : a.eval x = u) {v' : Value} {w' : World} (hr : (Builtin.append_ #[dT, sT] o.type #[v, u]).run P w = .ok v' w') (hK : K (a.put o.dst v') w') :
    if Region.wanted o (yielded ops a.tmps) = true then Oper.wp P o a w K Q else E := by
  have hw : Region.wanted o (yielded ops a.tmps) = true := by simp [Region.wanted, hg]
  rw [if_pos hw]
  unfold Oper.wp
  simp [execOp, hop, resolve, invoke, builtin, hd, hx, hr, Result.andThen]
  exact hK

set_option maxHeartbeats 4000000 in
set_option maxRecDepth 100000 in
theorem delete_run {w : World} {g cap i m : Nat} {cur : List Value} {L : List It} (hb : Blk w g cur 95) (hl : L.length = i + 1 + m) (hroom : L.length ≤ cap) (hcap : cap ≤ maxLen) (hcl : cur.length = cap * 2) (htk : cur.take (L.length * 2) = cls L) :
    Calls Tryd.prog 65 #[.slice (some ⟨g, 0, none⟩) (i + 1 + m) cap, .int .i64 i, .int .i64 ((i : Int) + 1)] w fun e w' =>
      e = .returned (.slice (some ⟨g, 0, none⟩) (i + m) cap) ∧ w' = (w.drew.setCells g (i * 2) (cls (L.drop (i + 1)))).setCells g ((i + m) * 2) [.int .i64 0, .int .i64 0] := by
  obtain ⟨i0, hi0, hz0, hzs, hzb⟩ := info_parts Tryd.infoTh
  have ho : Own 95 w (.slice (some ⟨g, 0, none⟩) L.length cap) L := own_mk hb rfl (by omega) hcap hcl htk
  have hdl : (cls (L.drop (i + 1))).length = m * 2 := by rw [cls_len, List.length_drop]; omega
  have hsome : ∀ k, k < cap * 2 → (w.cell? ⟨g, k, none⟩).isSome = true := fun k hk => by rw [hb.cell, List.getElem?_eq_getElem (by omega)]; rfl
  have hap : ∀ ty A, (A = ⟨g, (i + 1) * 2, none⟩ ∨ m = 0) → (Builtin.append_ #[87, 87] ty #[.slice (some ⟨g, 0, none⟩) i cap, .slice (some A) m (cap - (i + 1))]).run Tryd.prog w.drew = .ok (.slice (some ⟨g, 0, none⟩) (i + m) cap) (w.drew.setCells g (i * 2) (cls (L.drop (i + 1)))) := fun ty A hA => by
    have := run_append_room_cells (P := Tryd.prog) w.drew 87 ty 95 i0 Tryd.underlying87 hi0 g 0 i cap A m (cap - (i + 1)) (cls (L.drop (i + 1))) (by rw [hzs]; exact hdl)
      (fun j u hj => by
        rcases hA with rfl | hA
        · rw [Addr.add_lit]
          exact ho.cells (i + 1) j u hj
        · have := (List.getElem?_eq_some_iff.1 hj).1
          omega)
      (cls_one _) (by omega) (fun j hj => by rw [hzs]; exact hsome _ (by omega)) (fun j hj => hb.free _)
    rw [hzs, Nat.zero_add] at this
    exact this
  obtain ⟨W1, hW1⟩ : ∃ W1, W1 = w.drew.setCells g (i * 2) (cls (L.drop (i + 1))) := ⟨_, rfl⟩
  have f1 : i * 2 + (cls (L.drop (i + 1))).length ≤ cur.length := by rw [hdl]; omega
  have b1 : Blk W1 g (cur.take (i * 2) ++ cls (L.drop (i + 1)) ++ cur.drop (i * 2 + (cls (L.drop (i + 1))).length)) 95 := by
    rw [hW1]
    exact blk_setCells g 95 (cls (L.drop (i + 1))) (i * 2) cur w.drew hb f1
  have hcr : ∀ ty c, (Builtin.clear_ #[87] ty #[.slice (some ⟨g, (i + m) * 2, none⟩) 1 c]).run Tryd.prog W1 = .ok (.tuple #[]) (W1.setCells g ((i + m) * 2) [.int .i64 0, .int .i64 0]) := fun ty c =>
    run_clear_one W1 87 95 ty Tryd.underlying87 zeroTh g ((i + m) * 2) c
      (fun j hj => by rw [b1.cell, List.getElem?_eq_getElem (by rw [sp_len _ _ _ f1]; omega)]; rfl) (fun j hj => b1.free _)
  rw [← hW1] at hap ⊢
  have z3 : (cap : Int) ≤ 9223372036854775807 := by unfold maxLen at hcap; omega
  have z4 : (i : Int) + 1 + (m : Int) ≤ (cap : Int) := by omega
  have z5 : ¬ (cap = i + m) := by omega
  have z6 : i + 1 + m - (i + m) = 1 := by omega
  have z7 : i + 1 + m - (i + 1) = m := by omega
  have z8 : ((i : Int) + 1).toNat = i + 1 := by omega
  have z9 : ((i : Int) + 1 + (m : Int)).toNat = i + 1 + m := by omega
  have z10 : (0 : Int) ≤ (i : Int) + 1 := by omega
  have z11 : (0 : Int) ≤ (i : Int) + 1 + (m : Int) := by omega
  have z12 : (i : Int) + 1 ≤ (i : Int) + 1 + (m : Int) := by omega
  have z13 : (i : Int) ≤ (cap : Int) := by omega
  have z14 : ((i : Int) + (m : Int)).toNat = i + m := by omega
  have z15 : (i : Int) + (m : Int) ≤ (i : Int) + 1 + (m : Int) := by omega
  have z16 : ¬ ((i : Int) = (i : Int) + 1) := by omega
  have HA : Hid _ := hap
  have zm : cap = i + 1 → m = 0 := fun h => by omega
  have HM : Hid _ := zm
  clear hb hcl htk ho hsome hdl b1 hW1 hcap hroom hap zm hl f1
  by_cases zc : cap = i + 1
  · obtain rfl := HM.out zc
    subst zc
    have AP : Hid (∀ ty, (Builtin.append_ #[87, 87] ty #[.slice (some ⟨g, 0, none⟩) i (i + 1), .slice (some ⟨g, 0, none⟩) 0 0]).run Tryd.prog w.drew = .ok (.slice (some ⟨g, 0, none⟩) i (i + 1)) W1) := fun ty => by
      have := HA.out ty ⟨g, 0, none⟩ (Or.inr rfl)
      simpa using this
    have y1 : (i : Int) ≤ (i : Int) + 1 := by omega
    have y2 : ¬ (i + 1 = i) := by omega
    have y3 : (i : Int) ≤ 9223372036854775806 := by omega
    have y4 : i + 1 - i = 1 := by omega
    simp only [Nat.add_zero] at hcr ⊢
    clear z3 z4 z5 z6 z7 z9 z11 z12 z13 z14 z15 HA HM
    go_enter Tryd.func65, Tryd.ntmps65
    go_wp2_with fail
    go_region_law (refine step_append_run rfl (.tmp 22) (.tmp 25) 87 87 rfl (.slice (some ⟨g, 0, none⟩) i (i + 1)) (.slice (some ⟨g, 0, none⟩) 0 0) (by simp [Act.eval, Act.put]) (by simp [Act.eval, Act.put]) (AP.out _) ?_)
    go_wp2
    go_ret
    exact ⟨rfl, rfl⟩
  · have ap : ∀ ty, (Builtin.append_ #[87, 87] ty #[.slice (some ⟨g, 0, none⟩) i cap, .slice (some ⟨g, (i + 1) * 2, none⟩) m (cap - (i + 1))]).run Tryd.prog w.drew = .ok (.slice (some ⟨g, 0, none⟩) (i + m) cap) W1 := fun ty => HA.out ty _ (Or.inl rfl)
    have AP : Hid _ := ap
    clear ap
    go_enter Tryd.func65, Tryd.ntmps65
    go_wp2_with fail
    go_region_law (refine step_append_run rfl (.tmp 22) (.tmp 25) 87 87 rfl (.slice (some ⟨g, 0, none⟩) i cap) (.slice (some ⟨g, (i + 1) * 2, none⟩) m (cap - (i + 1))) (by simp [Act.eval, Act.put]) (by simp [Act.eval, Act.put]) (AP.out _) ?_)
    go_wp2
    go_ret
    exact ⟨rfl, rfl⟩
end Go.Proofs.YtadaghhgmflfdaaDoor
