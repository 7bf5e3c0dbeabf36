/- What the document's queue by priorities answers: List, Top, Turn. -/
import Derived.Test.YtpmjojemcpgpiaaDoorXb
import Derived.Test.YtpmjojemcpgpiaaDoorFj
import Derived.WalkKit
import Derived.ProofKit
import Derived.OpenShut
import Derived.BigQuiet
namespace Go.Proofs.YtpmjojemcpgpiaaDoor
open Go.ChangeShapes Go.WideShapes Go.ChangeAt Go.RowKit
open Fm Qm

theorem lv_snoc (X : Its) (p : Nat) (j : Nat) (h : j < X.length) : lv (X.take (j + 1)) p = if (X.getD j (0, 0)).1 = (p : Int) then lv (X.take j) p ++ [(X.getD j (0, 0)).2] else lv (X.take j) p := by
  have e : X.take (j + 1) = X.take j ++ [X.getD j (0, 0)] := by
    rw [List.take_succ_eq_append_getElem h]
    simp [List.getD, h]
  rw [e]
  unfold lv
  rw [List.filter_append, List.map_append]
  by_cases c : (X.getD j (0, 0)).1 = (p : Int)
  · rw [if_pos c]
    have : ((X.getD j (0, 0)).1 == (p : Int)) = true := by simpa using c
    rw [List.filter_cons, this]
    rfl
  · rw [if_neg c]
    have : ((X.getD j (0, 0)).1 == (p : Int)) = false := by simpa using c
    rw [List.filter_cons, this]
    simp

set_option maxRecDepth 100000 in
set_option maxHeartbeats 2000000 in
theorem rplist_any {b m : Nat} {v : Value} {X : Its} (w : World) (h : RQ w b v m X) :
    Calls Tryd.prog 39 #[.pointer (some ⟨b, 0, none⟩)] w fun e w' => ∃ v', e = .returned v' ∧ Gt w w' v' (cat X) := by
  obtain ⟨i0, hi, hz0, hz1, hz2⟩ := info_parts Tryd.info3
  obtain ⟨a, cap, rfl⟩ := h.shape
  have HQ : Hid (RQ w b (.slice a X.length cap) m X) := h
  have hl : (X.length : Int) ≤ 1024 := by have := h.ok.le; have := h.m2; omega
  have LE : Hid (∀ k j, k ≤ 7 → j ≤ X.length → (gth X k ++ lv (X.take j) (7 - k)).length ≤ 2048) := fun k j hk hj => by
    have a1 := gth_le h.ok.rg (k := k) (by omega)
    have a2 := lv_le (X.take j) (7 - k)
    rw [List.length_take] at a2
    rw [List.length_append]
    omega
  obtain ⟨l, hl2⟩ : ∃ l, X.length = l := ⟨_, rfl⟩
  have HN : Hid (X.length = l) := hl2
  rw [hl2] at hl HQ LE
  have HC : Hid (∀ wr : World, Below w.heap.size w wr → wr.cell? ⟨b, 1, none⟩ = some (.slice a l cap)) := fun wr hb => by
    have := (h.below hb).sb.cell 1
    rw [hl2] at this
    exact this
  clear h hl2
  go_enter Tryd.func39, Tryd.ntmps39
  go_wp2
  go_loopw [3, 4] (fun v i wr => (∃ p k : Nat, p + k = 7 ∧ i = .int .i64 (p : Int) ∧ Gt w wr v (gth X k)) ∨ (i = .int .i64 (-1) ∧ Gt w wr v (gth X 8))) (fun _ i _ => (intOf i + 1).toNat)
  case atStart => exact Or.inl ⟨7, 0, rfl, rfl, gt_start w⟩
  case round =>
    rcases hrel with ⟨p, k, hpk, rfl, g⟩ | ⟨rfl, g⟩
    · have hp : (p : Int) ≤ 7 := by omega
      have PK : Hid (p + k = 7) := hpk
      have G0 : Gt w wr u3 (gth X k ++ lv (X.take 0) p) := by simpa [lv] using g
      clear g hpk
      go_wp2
      go_loopw [3, 5] (fun v i wq => ∃ j : Nat, (j : Int) ≤ l ∧ i = .int .i64 (j : Int) ∧ Gt w wq v (gth X k ++ lv (X.take j) p)) (fun _ i _ => l - (intOf i).toNat)
      case atStart => exact ⟨0, by omega, rfl, G0⟩
      case round =>
        obtain ⟨j, hj, rfl, g⟩ := hrel
        clear G0
        have k1 := HC.out _ g.bel
        by_cases c : (j : Int) < l
        · obtain ⟨gb, rfl, _, hcp, d0, d1⟩ := (HQ.out.below g.bel).at (k := j) (by have := HN.out; omega)
          have hs := lv_snoc X p j (by have := HN.out; omega)
          have hle := LE.out k j (by have := PK.out; omega) (by omega)
          rw [show 7 - k = p by have := PK.out; omega] at hle
          generalize (X.getD j (0, 0)).1 = x at *
          generalize (X.getD j (0, 0)).2 = y at *
          by_cases e : x = (p : Int)
          · have HS : Hid (gth X k ++ lv (X.take (j + 1)) p = (gth X k ++ lv (X.take j) p) ++ [y]) := by rw [hs, if_pos e, List.append_assoc]; exact rfl
            have hsz := g.bel.size
            generalize gth X k ++ lv (X.take j) p = G at *
            subst e
            clear hs
            go_wp2_with (at_builtin; refine wpList_append_own _ rfl _ _ 39 rfl w.heap.size 3 i0 (.int .i64 0) 1 8 Tryd.underlying39 hi hz0 hz1 hz2 rfl (by decide) _ _ _ rfl (g.own.alloc _) ⟨_, 0, none⟩ 1 1 [.int .i64 y] rfl rfl ?c1 ?c2 ?c3 ?c4 ?c5 ?_)
            case c1 =>
              intro j u hj
              match j, hj with
              | 0, hj => simp at hj; subst hj; simp [Addr.add]
            case c2 => intro u hu; simp at hu; subst hu; rfl
            case c3 => unfold maxLen; omega
            case c4 => omega
            case c5 => simp; omega
            intro v' w1 hown' hgrow _
            have G2 := gt_app g hown' hgrow
            rw [← HS.out] at G2
            clear hown' hgrow
            go_wp2
            go_roundw
            case rel => exact ⟨j + 1, by omega, by go_num, G2⟩
            case measure => simp [intOf]; omega
          · rw [if_neg e] at hs
            rw [← hs] at g
            have e2 : (x == (p : Int)) = false := by simpa using e
            clear hs e hle
            go_wp2
            go_roundw
            case rel => exact ⟨j + 1, by omega, by go_num, g⟩
            case measure => simp [intOf]; omega
        · have e : gth X k ++ lv (X.take j) p = gth X (k + 1) := by
            rw [List.take_of_length_le (by have := HN.out; omega)]
            show _ = gth X k ++ lv X (7 - k)
            rw [show 7 - k = p by have := PK.out; omega]
          rw [e] at g
          have E : Hid (∀ q : Int, q = (p : Int) - 1 → (∃ p k : Nat, p + k = 7 ∧ Value.int .i64 q = .int .i64 (p : Int) ∧ Gt w wr u3 (gth X k)) ∨ (Value.int .i64 q = .int .i64 (-1) ∧ Gt w wr u3 (gth X 8))) := fun q e => by
            by_cases c : p = 0
            · refine Or.inr ⟨by rw [e, c]; rfl, ?_⟩
              have := PK.out
              rw [show k + 1 = 8 by omega] at g
              exact g
            · exact Or.inl ⟨p - 1, k + 1, by have := PK.out; omega, by rw [e]; congr 1; omega, g⟩
          clear g e
          go_wp2
          go_roundw
          case rel => exact E.out _ (by go_num)
          case measure => simp [intOf]
    · go_wp2
      go_ret
      exact ⟨_, rfl, g⟩

theorem cat_one {m : Nat} {X : Its} (h : Ok m X) (hX : X ≠ []) : 0 < (cat X).length ∧ tpN X = (cat X).getD 0 0 ∧ tpN X ∈ ids X := by
  obtain ⟨k, g⟩ := gr_some h hX
  refine ⟨by rw [len_cat h.rg]; exact List.length_pos_iff.2 hX, ?_, (mem_ids X _).2 ⟨_, (mem_lv _ _ _).1 (tp_mem g)⟩⟩
  unfold tpN
  cases cat X <;> rfl

set_option maxRecDepth 100000 in
set_option maxHeartbeats 1000000 in
theorem rptop_any {b m : Nat} {v : Value} {X : Its} (w : World) (h : RQ w b v m X) :
    Calls Tryd.prog 50 #[.pointer (some ⟨b, 0, none⟩)] w fun e w' => e = .returned (.tuple #[.int .i64 (tpN X), .int .i64 (tpE X)]) ∧ Below w.heap.size w w' := by
  have C : Hid (∀ _ : Unit, _) := fun _ => rplist_any w h
  by_cases c : X = []
  · rw [show tpE X = 12 from if_pos c, show tpN X = 0 by subst c; rfl]
    rw [show cat X = [] by subst c; rfl] at C
    clear h c
    go_enter Tryd.func50, Tryd.ntmps50
    go_wp2_with fail
    refine (C.out ()).mono ?_
    rintro e w1 ⟨v', rfl, g⟩
    obtain ⟨a2, c2, rfl⟩ := own_shape g.own
    have hb : Hid (Below w.heap.size w w1) := g.bel
    clear g
    go_wp2
    go_ret2
    exact ⟨rfl, hb.out⟩
  · obtain ⟨h1, h2, _⟩ := cat_one h.ok c
    rw [show tpE X = 0 from if_neg c, h2]
    have h3 : (0 : Int) < (cat X).length := by omega
    obtain ⟨l, hl⟩ : ∃ l, (cat X).length = l := ⟨_, rfl⟩
    have HL : Hid ((cat X).length = l) := hl
    obtain ⟨x, hx⟩ : ∃ x, (cat X).getD 0 0 = x := ⟨_, rfl⟩
    have HX : Hid ((cat X).getD 0 0 = x) := hx
    rw [hl] at h3
    rw [hx]
    clear h c h1 h2 hl hx
    go_enter Tryd.func50, Tryd.ntmps50
    go_wp2_with fail
    refine (C.out ()).mono ?_
    rintro e w1 ⟨v', rfl, g⟩
    have own := g.own
    rw [HL.out] at own
    obtain ⟨a2, c2, rfl⟩ := own_shape own
    obtain ⟨g2, rfl, hc⟩ := own_cell own h3
    rw [HX.out] at hc
    have hb : Hid (Below w.heap.size w w1) := g.bel
    clear g own
    go_wp2
    go_ret2
    exact ⟨rfl, hb.out⟩

set_option maxRecDepth 100000 in
set_option maxHeartbeats 1000000 in
theorem rpturn_any {b m : Nat} {v : Value} {X : Its} (w : World) (h : RQ w b v m X) :
    Calls Tryd.prog 51 #[.pointer (some ⟨b, 0, none⟩)] w fun e w' => e = .returned (.int .i64 (tpE X)) ∧ ∃ v', RQ w' b v' m (tnX X) ∧ RC w w' b v v' := by
  have C : Hid (∀ _ : Unit, _) := fun _ => rptop_any w h
  have HQ : Hid (RQ w b v m X) := h
  by_cases c : X = []
  · rw [show tpE X = 12 from if_pos c] at C
    rw [show tpE X = 12 from if_pos c, show tnX X = X from if_pos c]
    generalize tpN X = x at *
    clear h c
    go_enter Tryd.func51, Tryd.ntmps51
    go_wp2_with fail
    refine (C.out ()).mono ?_
    rintro e w1 ⟨rfl, b1⟩
    go_wp2
    go_ret
    exact ⟨rfl, v, HQ.out.below b1, RC.from b1 (RC.refl _ _ _)⟩
  · rw [show tpE X = 0 from if_neg c] at C
    rw [show tpE X = 0 from if_neg c, show tnX X = bkX X (tpN X) from if_neg c]
    have D : Hid (∀ w1 : World, Below w.heap.size w w1 → _) := fun w1 b1 => rpback_any (tpN X) w1 (HQ.out.below b1)
    rw [show drE X (tpN X) = 0 from if_pos (cat_one h.ok c).2.2] at D
    generalize tpN X = x at *
    generalize bkX X x = X2 at *
    clear h c
    go_enter Tryd.func51, Tryd.ntmps51
    go_wp2_with fail
    refine (C.out ()).mono ?_
    rintro e w1 ⟨rfl, b1⟩
    have D1 : Hid (∀ _ : Unit, _) := fun _ => D.out w1 b1
    have B1 : Hid (Below w.heap.size w w1) := b1
    clear b1
    go_wp2_with fail
    refine (D1.out ()).mono ?_
    rintro e w2 ⟨rfl, v2, q2, r2⟩
    go_wp2
    go_ret
    exact ⟨rfl, v2, q2, RC.from B1.out r2⟩
end Go.Proofs.YtpmjojemcpgpiaaDoor
