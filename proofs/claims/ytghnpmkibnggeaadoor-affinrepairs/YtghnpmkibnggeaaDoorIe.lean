/- What the document's Repair (davitref12) answers and leaves, for every mask and every list of things. -/
import Derived.Test.YtghnpmkibnggeaaDoorRows
import Derived.Test.YtghnpmkibnggeaaDoorAb
import Derived.Test.YtghnpmkibnggeaaDoorId
import Derived.WalkKit
import Derived.ProofKit
import Derived.OpenShut
import Derived.BigQuiet
import Derived.Deep.RegionHeld3
namespace Go.Proofs.YtghnpmkibnggeaaDoor
open Go.ChangeShapes Go.WideShapes Go.ChangeAt Go.RowKit
open Mm

set_option maxRecDepth 100000 in
set_option maxHeartbeats 4000000 in
theorem rrepair_any (b : Nat) (Y : List It) (v : Value) (w : World) (hb : b < 18446744073709551616) (h : IRow w v Y) (hl : (Y.length : Int) ≤ 100) (hf : Fine Y) :
    Calls Tryd.prog 34 #[.int .u64 (b : Int), v] w fun e w' => ∃ v', e = .returned v' ∧ IG 79 w w' v' (mend b Y) := by
  obtain ⟨i0, hi0, hz0, hz1, hz2⟩ := info_parts Tryd.infoRi
  obtain ⟨a, cap, rfl⟩ := h.shape
  have HR : Hid (IRow w (.slice a Y.length cap) Y) := h
  have HF : Hid (Fine Y) := hf
  have HE : Hid (Y.take Y.length = Y) := List.take_of_length_le (Nat.le_refl _)
  obtain ⟨l, hl2⟩ : ∃ l, Y.length = l := ⟨_, rfl⟩
  have HN : Hid (Y.length = l) := hl2
  rw [hl2] at hl HR HE ⊢
  have HWR : Hid (∀ (x : It) (w1 : World), x.mask < 18446744073709551616 → _) := fun x w1 hm => rwrong_any b x w1 hb hm
  have HCH : Hid (∀ (x : It) (w1 : World), x.mask < 18446744073709551616 → _) := fun x w1 hx => rchoose_any x.mask b x.cpu w1 hx hb
  by_cases hb0 : b = 0
  · subst hb0
    rw [show mend 0 Y = [] from if_pos rfl]
    rcases Nat.eq_zero_or_pos l with hl0 | hl0
    · subst hl0
      clear h hf hb hl2
      go_enter Tryd.func34, Tryd.ntmps34
      go_wp2
      go_loopw [5, 6] (fun v i wr => v = .slice none 0 0 ∧ i = .int .i64 0 ∧ wr = w) (fun _ _ _ => 0)
      case atStart => exact ⟨rfl, rfl, rfl⟩
      case round =>
        obtain ⟨rfl, rfl, rfl⟩ := hrel
        go_wp2
        go_ret
        exact ⟨_, rfl, ig_start _ _⟩
    · have hl1 : (0 : Int) < l := by omega
      clear h hf hb hl2 hl0
      go_enter Tryd.func34, Tryd.ntmps34
      go_wp2
      go_loopw [5, 6] (fun v i wr => v = .slice none 0 0 ∧ i = .int .i64 0 ∧ wr = w) (fun _ _ _ => 0)
      case atStart => exact ⟨rfl, rfl, rfl⟩
      case round =>
        obtain ⟨rfl, rfl, rfl⟩ := hrel
        go_wp2
        go_ret
        exact ⟨_, rfl, ig_start _ _⟩
  · have HB0 : Hid (b ≠ 0) := hb0
    have hbn : ((b : Int) != 0) = true := by rw [bne_iff_ne]; omega
    clear h hf hb hl2 hb0
    go_enter Tryd.func34, Tryd.ntmps34
    go_wp2
    go_loopw [5, 6] (fun v i wr => ∃ (k : Nat) (G : List It), (k : Int) ≤ l ∧ IG 79 w wr v G ∧ Hid (G = mend b (Y.take k)) ∧ i = .int .i64 (k : Int)) (fun _ i _ => l - (intOf i).toNat)
    case atStart => exact ⟨0, [], by omega, ig_start _ w, by unfold Hid mend; simp, rfl⟩
    case round =>
      obtain ⟨k, G, hk, g, hG, rfl⟩ := hrel
      by_cases e : (k : Int) < l
      · have hkY : k < Y.length := by have := HN.out; omega
        obtain ⟨bb, off, rfl, hbl, c0, c1, c2, c3⟩ := irow_cell (HR.out.below g.bel) (k := k) hkY
        have fx := HF.out _ (get_mem Y hkY)
        have HM : Hid (wrg b (Y.getD k zi) = false → mend b (Y.take (k + 1)) = mend b (Y.take k)) := fun q => mend_miss Y hkY q
        have HH : Hid (wrg b (Y.getD k zi) = true → mend b (Y.take (k + 1)) = mend b (Y.take k) ++ [rpr b (Y.getD k zi)]) := fun q => mend_hit Y HB0.out hkY q
        have hgl : G.length ≤ 1000 := by rw [hG.out]; have := mend_len b (Y.take k); rw [List.length_take] at this; have := HN.out; omega
        have KC0 : Hid (∀ w2, Below w.heap.size w w2 → w2.cell? ⟨bb, off + k * 4, none⟩ = some (.int .i64 (Y.getD k zi).id) ∧ w2.cell? ⟨bb, off + k * 4 + 1, none⟩ = some (.int .u64 ((Y.getD k zi).mask : Int)) ∧ w2.cell? ⟨bb, off + k * 4 + 2, none⟩ = some (.int .i64 (Y.getD k zi).cpu) ∧ w2.cell? ⟨bb, off + k * 4 + 3, none⟩ = some (.bool (Y.getD k zi).forced)) := fun w2 b2 => by
          obtain ⟨b', off', e2, _, d⟩ := irow_cell (HR.out.below b2) (k := k) hkY
          simp only [Option.some.injEq, Addr.mk.injEq, and_true] at e2
          obtain ⟨rfl, rfl⟩ := e2
          exact d
        generalize Y.getD k zi = x at *
        have KC : Hid (∀ w2, Below w.heap.size w w2 → w2.cell? ⟨bb, off + k * 4, none⟩ = some (.int .i64 x.id) ∧ w2.cell? ⟨bb, off + k * 4 + 1, none⟩ = some (.int .u64 (x.mask : Int)) ∧ w2.cell? ⟨bb, off + k * 4 + 2, none⟩ = some (.int .i64 x.cpu) ∧ w2.cell? ⟨bb, off + k * 4 + 3, none⟩ = some (.bool x.forced)) := KC0
        have C1 : Hid (∀ _ : Unit, _) := fun _ => HWR.out x wr fx.1
        have HG : Hid (IG 79 w wr u5 G) := g
        have FX : Hid (x.mask < 18446744073709551616) := fx.1
        clear hbl fx hkY g KC0
        cases hw : wrg b x with
        | false =>
          rw [hw] at C1
          have s : Hid (G = mend b (Y.take (k + 1))) := by rw [HM.out hw]; exact hG
          clear hw hG HM HH
          go_wp2_with fail
          refine (C1.out ()).mono ?_
          rintro e u1 ⟨rfl, b1⟩
          have G1 : Hid (IG 79 w u1 u5 G) := HG.out.keep b1
          clear b1
          go_wp2
          go_roundw
          case rel => exact ⟨k + 1, G, by omega, G1.out, s, by go_num⟩
          case measure => simp [intOf]; omega
        | true =>
          rw [hw] at C1
          have s : Hid (G ++ [rpr b x] = mend b (Y.take (k + 1))) := by rw [HH.out hw, hG.out]; exact rfl
          clear hw hG HM HH
          go_wp2_with fail
          refine (C1.out ()).mono ?_
          rintro e u1 ⟨rfl, b1⟩
          have g1 := HG.out.keep b1
          obtain ⟨p0, p1, p2, p3⟩ := KC.out u1 g1.bel
          have G1 : Hid (IG 79 w u1 u5 G) := g1
          have C2 : Hid (∀ w1 : World, Sm w1 u1 → Calls Tryd.prog 26 #[.int .u64 (x.mask : Int), .int .u64 (b : Int), .int .i64 x.cpu] w1 fun e w' => e = .returned (.tuple #[.int .i64 (cN x.mask b x.cpu), .bool (cF x.mask b), .int .i64 (cE b)]) ∧ Below u1.heap.size u1 w') := fun w1 e1 => (HCH.out x w1 FX.out).mono fun _ w2 ⟨r1, r2⟩ => ⟨r1, by have := e1.from r2; rwa [e1.1] at this⟩
          rw [show cE b = 0 from if_neg HB0.out] at C2
          have RUN : Hid (∀ w3 w1 : World, Below u1.heap.size u1 w3 → Sm w1 (w3.alloc (.cells #[.int .i64 x.id, .int .u64 (x.mask : Int), .int .i64 (cN x.mask b x.cpu), .bool (cF x.mask b)] 79)) → ∃ v' w2, (Builtin.append_ #[67, 67] 67 #[u5, .slice (some ⟨w3.heap.size, 0, none⟩) 1 1]).run Tryd.prog w1 = .ok v' w2 ∧ IG 79 w w2 v' (G ++ [rpr b x])) := fun w3 w1 b3 e1 => ig_app 79 67 67 i0 _ Tryd.underlying67 hi0 hz0 hz1 hz2 rfl (rpr b x) G1.out b3 e1 hgl
          generalize rpr b x = y at *
          generalize cN x.mask b x.cpu = n1 at *
          generalize cF x.mask b = n2 at *
          clear b1 g1 c0 c1 c2 c3 C1 HG
          go_wp2_with fail
          go_region_held3 (fun w' => w'.cell? ⟨bb, off + k * 4 + 1, none⟩ = some (.int .u64 (x.mask : Int)) ∧ w'.cell? ⟨bb, off + k * 4 + 2, none⟩ = some (.int .i64 x.cpu)) (go_keep)
            ((go_at_call 26; refine (C2.out _ ?_).mono ?_; exact ⟨rfl, rfl, rfl, rfl⟩; rintro e u2 ⟨rfl, b2⟩; obtain ⟨q0, q1, q2, q3⟩ := KC.out u2 (G1.out.bel.trans (b2.mono G1.out.bel.size)); have B2 : Hid (Below u1.heap.size u1 u2) := b2; have GB : Hid (Below w.heap.size w u2) := G1.out.bel.trans (b2.mono G1.out.bel.size); clear b2))
          all_goals go_wp2_with fail
          have SZ : Hid (w.heap.size ≤ u2.heap.size) := GB.out.size
          refine wp_region_held_drew (S := fun w' => w'.cell? ⟨bb, off + k * 4, none⟩ = some (.int .i64 x.id) ∧ w'.cell? ⟨bb, off + k * 4 + 1, none⟩ = some (.int .u64 (x.mask : Int))) (by kernel_rfl) (by go_keep) (fun hHeld => ?_)
          refine wpAnyH_take (i := 0) (oi := { dst := some 42, op := Op.move (Operand.tmp 5), type := 67, pos := "ref.go:46", after := #[], guard := none }) (v := ?va0) rfl (by kernel_rfl) (by kernel_rfl) (by kernel_rfl) (fun _ _ _ h => h) (Or.inl ⟨by rfl, ?ha0⟩) (by assumption) ?ra0
          case ha0 => (intro wz hSw; (try dsimp only at hSw); go_simp <;> with_reducible rfl)
          try simp only [Act.put, List.setIfInBounds_toArray, List.set_cons_zero, List.set_cons_succ]
          refine wpAnyH_take (i := 1) (oi := { dst := some 43, op := Op.move (Operand.tmp 1), type := 67, pos := "ref.go:46", after := #[], guard := none }) (v := ?va1) rfl (by kernel_rfl) (by kernel_rfl) (by kernel_rfl) (fun _ _ _ h => h) (Or.inl ⟨by rfl, ?ha1⟩) (by assumption) ?ra1
          case ha1 => (intro wz hSw; (try dsimp only at hSw); go_simp <;> with_reducible rfl)
          try simp only [Act.put, List.setIfInBounds_toArray, List.set_cons_zero, List.set_cons_succ]
          refine wpAnyH_take (i := 2) (oi := { dst := some 44, op := Op.move (Operand.tmp 6), type := 3, pos := "ref.go:46", after := #[], guard := none }) (v := ?va2) rfl (by kernel_rfl) (by kernel_rfl) (by kernel_rfl) (fun _ _ _ h => h) (Or.inl ⟨by rfl, ?ha2⟩) (by assumption) ?ra2
          case ha2 => (intro wz hSw; (try dsimp only at hSw); go_simp <;> with_reducible rfl)
          try simp only [Act.put, List.setIfInBounds_toArray, List.set_cons_zero, List.set_cons_succ]
          refine wpAnyH_take (i := 3) (oi := { dst := some 45, op := Op.indexAddr 67 (Operand.tmp 43) (Operand.tmp 44), type := 0, pos := "ref.go:46", after := #[{ on := 1, ground := Ground.data }, { on := 2, ground := Ground.data }], guard := none }) (v := ?va3) rfl (by kernel_rfl) (by kernel_rfl) (by kernel_rfl) (fun _ _ _ h => h) (Or.inl ⟨by rfl, ?ha3⟩) (by assumption) ?ra3
          case ha3 => (intro wz hSw; (try dsimp only at hSw); go_simp <;> with_reducible rfl)
          try simp only [Act.put, List.setIfInBounds_toArray, List.set_cons_zero, List.set_cons_succ]
          refine wpAnyH_take (i := 4) (oi := { dst := some 46, op := Op.fieldAddr 79 (Operand.tmp 45) 0, type := 0, pos := "ref.go:46", after := #[{ on := 3, ground := Ground.data }], guard := none }) (v := ?va4) rfl (by kernel_rfl) (by kernel_rfl) (by kernel_rfl) (fun _ _ _ h => h) (Or.inl ⟨by rfl, ?ha4⟩) (by assumption) ?ra4
          case ha4 => (intro wz hSw; (try dsimp only at hSw); go_simp <;> with_reducible rfl)
          try simp only [Act.put, List.setIfInBounds_toArray, List.set_cons_zero, List.set_cons_succ]
          refine wpAnyH_take (i := 5) (oi := { dst := some 47, op := Op.load 3 (Operand.tmp 46), type := 3, pos := "ref.go:46", after := #[{ on := 4, ground := Ground.data }], guard := none }) (v := ?va5) rfl (by kernel_rfl) (by kernel_rfl) (by kernel_rfl) (fun _ _ _ h => h) (Or.inl ⟨by rfl, ?ha5⟩) (by assumption) ?ra5
          case ha5 => (intro wz hSw; (try dsimp only at hSw); go_simp <;> with_reducible rfl)
          try simp only [Act.put, List.setIfInBounds_toArray, List.set_cons_zero, List.set_cons_succ]
          refine wpAnyH_take (i := 6) (oi := { dst := some 48, op := Op.move (Operand.tmp 1), type := 67, pos := "ref.go:46", after := #[], guard := none }) (v := ?va6) rfl (by kernel_rfl) (by kernel_rfl) (by kernel_rfl) (fun _ _ _ h => h) (Or.inl ⟨by rfl, ?ha6⟩) (by assumption) ?ra6
          case ha6 => (intro wz hSw; (try dsimp only at hSw); go_simp <;> with_reducible rfl)
          try simp only [Act.put, List.setIfInBounds_toArray, List.set_cons_zero, List.set_cons_succ]
          refine wpAnyH_take (i := 7) (oi := { dst := some 49, op := Op.move (Operand.tmp 6), type := 3, pos := "ref.go:46", after := #[], guard := none }) (v := ?va7) rfl (by kernel_rfl) (by kernel_rfl) (by kernel_rfl) (fun _ _ _ h => h) (Or.inl ⟨by rfl, ?ha7⟩) (by assumption) ?ra7
          case ha7 => (intro wz hSw; (try dsimp only at hSw); go_simp <;> with_reducible rfl)
          try simp only [Act.put, List.setIfInBounds_toArray, List.set_cons_zero, List.set_cons_succ]
          refine wpAnyH_take (i := 8) (oi := { dst := some 50, op := Op.indexAddr 67 (Operand.tmp 48) (Operand.tmp 49), type := 0, pos := "ref.go:46", after := #[{ on := 6, ground := Ground.data }, { on := 7, ground := Ground.data }], guard := none }) (v := ?va8) rfl (by kernel_rfl) (by kernel_rfl) (by kernel_rfl) (fun _ _ _ h => h) (Or.inl ⟨by rfl, ?ha8⟩) (by assumption) ?ra8
          case ha8 => (intro wz hSw; (try dsimp only at hSw); go_simp <;> with_reducible rfl)
          try simp only [Act.put, List.setIfInBounds_toArray, List.set_cons_zero, List.set_cons_succ]
          refine wpAnyH_take (i := 9) (oi := { dst := some 51, op := Op.fieldAddr 79 (Operand.tmp 50) 1, type := 0, pos := "ref.go:46", after := #[{ on := 8, ground := Ground.data }], guard := none }) (v := ?va9) rfl (by kernel_rfl) (by kernel_rfl) (by kernel_rfl) (fun _ _ _ h => h) (Or.inl ⟨by rfl, ?ha9⟩) (by assumption) ?ra9
          case ha9 => (intro wz hSw; (try dsimp only at hSw); go_simp <;> with_reducible rfl)
          try simp only [Act.put, List.setIfInBounds_toArray, List.set_cons_zero, List.set_cons_succ]
          refine wpAnyH_take (i := 10) (oi := { dst := some 52, op := Op.load 32 (Operand.tmp 51), type := 32, pos := "ref.go:46", after := #[{ on := 9, ground := Ground.data }], guard := none }) (v := ?va10) rfl (by kernel_rfl) (by kernel_rfl) (by kernel_rfl) (fun _ _ _ h => h) (Or.inl ⟨by rfl, ?ha10⟩) (by assumption) ?ra10
          case ha10 => (intro wz hSw; (try dsimp only at hSw); go_simp <;> with_reducible rfl)
          try simp only [Act.put, List.setIfInBounds_toArray, List.set_cons_zero, List.set_cons_succ]
          refine wpAnyH_take (i := 11) (oi := { dst := some 53, op := Op.move (Operand.tmp 7), type := 3, pos := "ref.go:46", after := #[], guard := none }) (v := ?va11) rfl (by kernel_rfl) (by kernel_rfl) (by kernel_rfl) (fun _ _ _ h => h) (Or.inl ⟨by rfl, ?ha11⟩) (by assumption) ?ra11
          case ha11 => (intro wz hSw; (try dsimp only at hSw); go_simp <;> with_reducible rfl)
          try simp only [Act.put, List.setIfInBounds_toArray, List.set_cons_zero, List.set_cons_succ]
          refine wpAnyH_take (i := 12) (oi := { dst := some 54, op := Op.move (Operand.tmp 8), type := 4, pos := "ref.go:46", after := #[], guard := none }) (v := ?va12) rfl (by kernel_rfl) (by kernel_rfl) (by kernel_rfl) (fun _ _ _ h => h) (Or.inl ⟨by rfl, ?ha12⟩) (by assumption) ?ra12
          case ha12 => (intro wz hSw; (try dsimp only at hSw); go_simp <;> with_reducible rfl)
          try simp only [Act.put, List.setIfInBounds_toArray, List.set_cons_zero, List.set_cons_succ]
          refine wpAnyH_take (i := 13) (oi := { dst := some 55, op := Op.build 79 #[(0, Operand.tmp 47), (1, Operand.tmp 52), (2, Operand.tmp 53), (3, Operand.tmp 54)], type := 79, pos := "ref.go:46", after := #[{ on := 5, ground := Ground.data }, { on := 10, ground := Ground.data }, { on := 11, ground := Ground.data }, { on := 12, ground := Ground.data }], guard := none }) (v := ?va13) rfl (by kernel_rfl) (by kernel_rfl) (by kernel_rfl) (fun _ _ _ h => h) (Or.inl ⟨by rfl, ?ha13⟩) (by assumption) ?ra13
          case ha13 => (intro wz hSw; (try dsimp only at hSw); go_simp <;> with_reducible rfl)
          try simp only [Act.put, List.setIfInBounds_toArray, List.set_cons_zero, List.set_cons_succ]
          refine wpAnyH_ready (rs := [14]) (by kernel_rfl) (by simp) ?_
          refine AllReadyH.cons (o := { dst := some 56, op := Op.buildSlice 67 1 #[(0, Operand.tmp 55)], type := 67, pos := "ref.go:46", after := #[{ on := 13, ground := Ground.data }], guard := none }) rfl (fun K hK => ?_) AllReadyH.nil
          go_simp
          (try go_wp2_with fail)
          refine hK.out _ _ ?sa14 (fun hHeld => ?ta14)
          case sa14 => exact ⟨(KC.out _ (Sm.below (⟨rfl, rfl, rfl, rfl⟩ : Sm _ (u2.alloc (.cells #[.int .i64 x.id, .int .u64 (x.mask : Int), .int .i64 n1, .bool n2] 79))) (GB.out.alloc SZ.out _))).1, (KC.out _ (Sm.below (⟨rfl, rfl, rfl, rfl⟩ : Sm _ (u2.alloc (.cells #[.int .i64 x.id, .int .u64 (x.mask : Int), .int .i64 n1, .bool n2] 79))) (GB.out.alloc SZ.out _))).2.1⟩
          clear hK K
          try simp only [Act.put, List.setIfInBounds_toArray, List.set_cons_zero, List.set_cons_succ]
          refine wpAnyH_ready (rs := [15]) (by kernel_rfl) (by simp) ?_
          refine AllReadyH.cons (o := { dst := some 57, op := Op.call { callee := Callee.builtin Builtin.append, args := #[Operand.tmp 42, Operand.tmp 56], argTypes := #[67, 67] }, type := 67, pos := "ref.go:46", after := #[{ on := 0, ground := Ground.data }, { on := 14, ground := Ground.data }], guard := none }) rfl (fun K hK => ?_) AllReadyH.nil
          refine step_rung rfl (.tmp 42) (.tmp 56) 67 rfl rfl rfl (RUN.out u2 _ B2.out ⟨rfl, rfl, rfl, rfl⟩) ?_
          intro v2 w2 g2
          obtain ⟨a2, c2, rfl⟩ := owng_shape g2.own
          have G2 : Hid (IG 79 w w2 _ (G ++ [y])) := g2
          have K2 := KC.out w2 g2.bel
          clear g2
          refine hK.out _ _ ⟨K2.1, K2.2.1⟩ (fun hHeld => ?_)
          clear hK K
          try simp only [Act.put, List.setIfInBounds_toArray, List.set_cons_zero, List.set_cons_succ]
          refine wpAnyH_take (i := 16) (oi := { dst := some 5, op := Op.assign (Operand.tmp 57), type := 67, pos := "ref.go:46", after := #[{ on := 15, ground := Ground.data }, { on := 15, ground := Ground.chain }, { on := 0, ground := Ground.phase }, { on := 1, ground := Ground.phase }, { on := 2, ground := Ground.phase }, { on := 3, ground := Ground.phase }, { on := 4, ground := Ground.phase }, { on := 5, ground := Ground.phase }, { on := 6, ground := Ground.phase }, { on := 7, ground := Ground.phase }, { on := 8, ground := Ground.phase }, { on := 9, ground := Ground.phase }, { on := 10, ground := Ground.phase }, { on := 11, ground := Ground.phase }, { on := 12, ground := Ground.phase }, { on := 13, ground := Ground.phase }, { on := 14, ground := Ground.phase }, { on := 15, ground := Ground.phase }], guard := none }) (v := ?va16) rfl (by kernel_rfl) (by kernel_rfl) (by kernel_rfl) (fun _ _ _ h => h) (Or.inl ⟨by rfl, ?ha16⟩) (by assumption) ?ra16
          case ha16 => (intro wz hSw; (try dsimp only at hSw); go_simp <;> with_reducible rfl)
          try simp only [Act.put, List.setIfInBounds_toArray, List.set_cons_zero, List.set_cons_succ]
          refine wpAnyH_done (by kernel_rfl) ?_ _
          go_wp2
          go_roundw
          case rel => exact ⟨k + 1, _, by omega, ⟨(by have q := G2.out.own; (first | exact ⟨q.1, q.2⟩ | (rw [show Value.slice a2 (G ++ [y]).length c2 = .slice a2 (G.length + 1) c2 by simp] at q; exact ⟨q.1, q.2⟩))), (by have q := G2.out.bel; exact ⟨q.os, q.tape, q.output, q.size, q.block⟩)⟩, s, by go_num⟩
          case measure => simp [intOf]; omega
      · have e2 : G = mend b Y := by rw [hG.out, show k = l by omega, HE.out]
        subst e2
        obtain ⟨a2, c2, hv2⟩ := owng_shape g.own
        have HG : Hid (IG 79 w wr u5 (mend b Y)) := g
        rw [hv2] at HG
        have hd : decide ((k : Int) < l) = false := decide_eq_false e
        clear g hG
        go_wp2
        go_ret
        exact ⟨_, rfl, HG.out⟩
end Go.Proofs.YtghnpmkibnggeaaDoor
