/- What affin's Repair answers and leaves, for every mask and every list of things (where the table of the lowest bits reads as the program's text lays it). -/
import Derived.Test.YtghnpmkibnggeaaDoorRows
import Derived.Test.YtghnpmkibnggeaaDoorIb
import Derived.Test.YtghnpmkibnggeaaDoorIc
import Derived.WalkKit
import Derived.ProofKit
import Derived.OpenShut
import Derived.BigQuiet
namespace Go.Proofs.YtghnpmkibnggeaaDoor
open Go.ChangeShapes Go.WideShapes Go.ChangeAt Go.RowKit
open Mm

theorem IG.keep {t : TypeId} {w wr w1 : World} {v : Value} {Y : List It} (g : IG t w wr v Y) (f : Below wr.heap.size wr w1) : IG t w w1 v Y :=
  ⟨owng_keep g.own (Fr.of_below f) fun k q => ⟨owng_lt g.own q, by simp⟩, g.bel.trans (f.mono g.bel.size)⟩

/-- An append whose outcome is known. -/
theorem wpList_runq {P : Program} {w : World} {ops : Array Oper} {rest : List Oper} {o : Oper} {a : Act} {Q : Exit → Act → World → Prop} {v u : Value} {R : Value → World → Prop}
    (hg : o.guard = none) (s x : Operand) (t : TypeId) (hop : o.op = Op.call { callee := Callee.builtin Builtin.append, args := #[s, x], argTypes := #[t, t] }) (hs : a.eval s = v) (hx : a.eval x = u)
    (hrun : ∃ v' w', (Builtin.append_ #[t, t] o.type #[v, u]).run P w = .ok v' w' ∧ R v' w') (hK : ∀ v' w', R v' w' → wpList P ops Q rest (a.put o.dst v') w') : wpList P ops Q (o :: rest) a w := by
  obtain ⟨v', w', hr, h⟩ := hrun
  refine wpList_plain hg fun K hK' => ?_
  unfold Oper.wp
  simp [execOp, hop, resolve, invoke, builtin, hs, hx, hr, Result.andThen]
  exact hK' _ _ (hK v' w' h)

set_option maxRecDepth 100000 in
set_option maxHeartbeats 4000000 in
theorem repair_any (b : Nat) (Y : List It) (v : Value) (w : World) (hb : b < 18446744073709551616) (h : IRow w v Y) (hl : (Y.length : Int) ≤ 100) (hf : Fine Y) (ht : Tab w) (h0 : 0 < w.heap.size) :
    Calls Tryd.prog 31 #[.int .u64 (b : Int), v] w fun e w' => ∃ v', e = .returned v' ∧ IG 76 w w' v' (mend b Y) := by
  obtain ⟨i0, hi0, hz0, hz1, hz2⟩ := info_parts Tryd.infoAi
  obtain ⟨a, cap, rfl⟩ := h.shape
  have HR : Hid (IRow w (.slice a Y.length cap) Y) := h
  have HF : Hid (Fine Y) := hf
  have HB : Hid (b < 18446744073709551616) := hb
  have TB : Hid (∀ w1, Below w.heap.size w w1 → Tab w1) := fun w1 q => ht.keep h0 (by simp) (Fr.of_below q)
  have HE : Hid (Y.take Y.length = Y) := List.take_of_length_le (Nat.le_refl _)
  obtain ⟨l, hl2⟩ : ∃ l, Y.length = l := ⟨_, rfl⟩
  have HN : Hid (Y.length = l) := hl2
  rw [hl2] at hl HR HE ⊢
  have HWR : Hid (∀ (x : It) (w1 : World), x.mask < 18446744073709551616 → _) := fun x w1 hm => wrong_any b x w1 hb hm
  have HCH : Hid (∀ (x : It) (w1 : World), x.mask < 18446744073709551616 ∧ -9223372036854775808 ≤ x.cpu → Below w.heap.size w w1 → _) := fun x w1 hx q => choose_any x.mask b x.cpu w1 hx.1 hb hx.2 (TB.out w1 q)
  by_cases hb0 : b = 0
  · subst hb0
    rw [show mend 0 Y = [] from if_pos rfl]
    by_cases hl0 : l = 0
    · subst hl0
      clear h hf hb ht h0 hl2
      go_enter Tryd.func31, Tryd.ntmps31
      go_wp2
      go_loopw [5, 13] (fun v i wr => v = .slice none 0 0 ∧ i = .int .i64 0 ∧ wr = w) (fun _ _ _ => 0)
      case atStart => exact ⟨rfl, rfl, rfl⟩
      case round =>
        obtain ⟨rfl, rfl, rfl⟩ := hrel
        go_wp2
        go_ret
        exact ⟨_, rfl, ig_start _ _⟩
    · have hl1 : (0 : Int) < l := by omega
      clear h hf hb ht h0 hl2 hl0
      go_enter Tryd.func31, Tryd.ntmps31
      go_wp2
      go_loopw [5, 13] (fun v i wr => v = .slice none 0 0 ∧ i = .int .i64 0 ∧ wr = w) (fun _ _ _ => 0)
      case atStart => exact ⟨rfl, rfl, rfl⟩
      case round =>
        obtain ⟨rfl, rfl, rfl⟩ := hrel
        obtain ⟨bb, off, rfl, hbl, c0, c1, c2, c3⟩ := irow_cell HR.out (k := 0) (by have := HN.out; omega)
        obtain ⟨f1, f2⟩ := HF.out _ (get_mem Y (k := 0) (by have := HN.out; omega))
        rw [Nat.zero_mul, Nat.add_zero] at c0 c1 c2 c3
        generalize Y.getD 0 zi = x at *
        have C1 : Hid (∀ _ : Unit, _) := fun _ => HWR.out x (wr.alloc (.cells #[.int .i64 x.id, .int .u64 (x.mask : Int), .int .i64 x.cpu, .bool x.forced] 76)) f1
        rw [show wrg 0 x = true by unfold wrg; rw [tb_zero]; rfl] at C1
        have kb : Blk (wr.alloc (.cells #[.int .i64 x.id, .int .u64 (x.mask : Int), .int .i64 x.cpu, .bool x.forced] 76)) wr.heap.size (i4 x) 76 := Blk.new wr _ _
        have hal : Below wr.heap.size wr (wr.alloc (.cells #[.int .i64 x.id, .int .u64 (x.mask : Int), .int .i64 x.cpu, .bool x.forced] 76)) := (Below.refl _ _).alloc (Nat.le_refl _) _
        obtain ⟨wa, hwa⟩ : ∃ wa, wr.alloc (.cells #[.int .i64 x.id, .int .u64 (x.mask : Int), .int .i64 x.cpu, .bool x.forced] 76) = wa := ⟨_, rfl⟩
        have HWA : Hid (wr.alloc (.cells #[.int .i64 x.id, .int .u64 (x.mask : Int), .int .i64 x.cpu, .bool x.forced] 76) = wa) := hwa
        rw [hwa] at kb hal C1
        have HAL : Hid (Below wr.heap.size wr wa) := hal
        have KB : Hid (Blk wa wr.heap.size (i4 x) 76) := kb
        have FX : Hid (x.mask < 18446744073709551616 ∧ -9223372036854775808 ≤ x.cpu) := ⟨f1, f2⟩
        obtain ⟨z, hz⟩ : ∃ z, wr.heap.size = z := ⟨_, rfl⟩
        have HZ : Hid (wr.heap.size = z) := hz
        clear hbl f1 f2 kb hal hwa hz
        go_wp2_with fail
        rw [HWA.out]
        refine (C1.out ()).mono ?_
        rintro e u1 ⟨rfl, b1⟩
        have k1 := KB.out.keep (Fr.of_below b1) KB.out.lt (by simp)
        rw [HZ.out] at k1 ⊢
        have d1 : u1.cell? ⟨z, 1, none⟩ = some (.int .u64 (x.mask : Int)) := k1.cell 1
        have d2 : u1.cell? ⟨z, 2, none⟩ = some (.int .i64 x.cpu) := k1.cell 2
        have B1 : Hid (Below wr.heap.size wr u1) := HAL.out.trans (b1.mono HAL.out.size)
        have C2 : Hid (∀ _ : Unit, _) := fun _ => HCH.out x u1 FX.out B1.out
        rw [show cE 0 = 12 from rfl] at C2
        generalize cN x.mask 0 x.cpu = n1 at *
        generalize cF x.mask 0 = n2 at *
        clear b1 k1
        go_wp2_with fail
        refine (C2.out ()).mono ?_
        rintro e u2 ⟨rfl, rfl⟩
        go_wp2
        go_ret
        exact ⟨_, rfl, World.ownsRow_nil _ _ _ _, B1.out⟩
  · have HB0 : Hid (b ≠ 0) := hb0
    clear h hf hb ht h0 hl2 hb0
    go_enter Tryd.func31, Tryd.ntmps31
    go_wp2
    go_loopw [5, 13] (fun v i wr => ∃ (k : Nat) (G : List It), (k : Int) ≤ l ∧ IG 76 w wr v G ∧ Hid (G = mend b (Y.take k)) ∧ i = .int .i64 (k : Int)) (fun _ i _ => l - (intOf i).toNat)
    case atStart => exact ⟨0, [], by omega, ig_start _ w, by unfold Hid mend; simp, rfl⟩
    case round =>
      obtain ⟨k, G, hk, g, hG, rfl⟩ := hrel
      by_cases e : (k : Int) < l
      · have hkY : k < Y.length := by have := HN.out; omega
        obtain ⟨bb, off, rfl, hbl, c0, c1, c2, c3⟩ := irow_cell (HR.out.below g.bel) (k := k) hkY
        have fx := HF.out _ (get_mem Y hkY)
        have HM : Hid (wrg b (Y.getD k zi) = false → mend b (Y.take (k + 1)) = mend b (Y.take k)) := fun q => mend_miss Y hkY q
        have HH : Hid (wrg b (Y.getD k zi) = true → mend b (Y.take (k + 1)) = mend b (Y.take k) ++ [rpr b (Y.getD k zi)]) := fun q => mend_hit Y HB0.out hkY q
        have hgl : G.length ≤ 1000 := by rw [hG.out]; have := mend_len b (Y.take k); rw [List.length_take] at this; have := HN.out; omega
        generalize Y.getD k zi = x at *
        have C1 : Hid (∀ _ : Unit, _) := fun _ => HWR.out x (wr.alloc (.cells #[.int .i64 x.id, .int .u64 (x.mask : Int), .int .i64 x.cpu, .bool x.forced] 76)) fx.1
        have kb : Blk (wr.alloc (.cells #[.int .i64 x.id, .int .u64 (x.mask : Int), .int .i64 x.cpu, .bool x.forced] 76)) wr.heap.size (i4 x) 76 := Blk.new wr _ _
        have hal : Below wr.heap.size wr (wr.alloc (.cells #[.int .i64 x.id, .int .u64 (x.mask : Int), .int .i64 x.cpu, .bool x.forced] 76)) := (Below.refl _ _).alloc (Nat.le_refl _) _
        obtain ⟨wa, hwa⟩ : ∃ wa, wr.alloc (.cells #[.int .i64 x.id, .int .u64 (x.mask : Int), .int .i64 x.cpu, .bool x.forced] 76) = wa := ⟨_, rfl⟩
        have HWA : Hid (wr.alloc (.cells #[.int .i64 x.id, .int .u64 (x.mask : Int), .int .i64 x.cpu, .bool x.forced] 76) = wa) := hwa
        rw [hwa] at kb hal C1
        have HAL : Hid (Below wr.heap.size wr wa) := hal
        have KB : Hid (Blk wa wr.heap.size (i4 x) 76) := kb
        have FX : Hid (x.mask < 18446744073709551616 ∧ -9223372036854775808 ≤ x.cpu) := fx
        have HG : Hid (IG 76 w wr u5 G) := g
        obtain ⟨z, hz⟩ : ∃ z, wr.heap.size = z := ⟨_, rfl⟩
        have HZ : Hid (wr.heap.size = z) := hz
        clear hbl fx kb hal hwa hz hkY g
        cases hw : wrg b x with
        | false =>
          rw [hw] at C1
          have s : Hid (G = mend b (Y.take (k + 1))) := by rw [HM.out hw]; exact hG
          clear hw hG HM HH
          go_wp2_with fail
          rw [HWA.out]
          refine (C1.out ()).mono ?_
          rintro e u1 ⟨rfl, b1⟩
          have G1 : Hid (IG 76 w u1 u5 G) := HG.out.keep (HAL.out.trans (b1.mono HAL.out.size))
          clear b1
          go_wp2
          go_roundw
          case rel => exact ⟨k + 1, G, by omega, G1.out, s, by go_num⟩
          case measure => simp [intOf]; omega
        | true =>
          rw [hw] at C1
          have s : Hid (G ++ [rpr b x] = mend b (Y.take (k + 1))) := by rw [HH.out hw, hG.out]; exact rfl
          clear hw hG HM HH
          go_wp2_with fail
          rw [HWA.out]
          refine (C1.out ()).mono ?_
          rintro e u1 ⟨rfl, b1⟩
          have k1 := KB.out.keep (Fr.of_below b1) KB.out.lt (by simp)
          have B1 : Hid (Below wr.heap.size wr u1) := HAL.out.trans (b1.mono HAL.out.size)
          have C2 : Hid (∀ _ : Unit, _) := fun _ => HCH.out x u1 FX.out (HG.out.bel.trans (B1.out.mono HG.out.bel.size))
          rw [HZ.out] at k1 ⊢
          have d0 : u1.cell? ⟨z, 0, none⟩ = some (.int .i64 x.id) := k1.cell 0
          have d1 : u1.cell? ⟨z, 1, none⟩ = some (.int .u64 (x.mask : Int)) := k1.cell 1
          have d2 : u1.cell? ⟨z, 2, none⟩ = some (.int .i64 x.cpu) := k1.cell 2
          have d3 : u1.cell? ⟨z, 3, none⟩ = some (.bool x.forced) := k1.cell 3
          have f2 := k1.free 2
          have f3 := k1.free 3
          rw [show cE b = 0 from if_neg HB0.out] at C2
          have BS : Below wr.heap.size wr ((u1.setCell ⟨z, 2, none⟩ (.int .i64 (cN x.mask b x.cpu))).setCell ⟨z, 3, none⟩ (.bool (cF x.mask b))) := (((Fr.of_below B1.out).setCell (p := ⟨z, 2, none⟩) (Or.inl (Nat.le_of_eq HZ.out)) _).setCell (p := ⟨z, 3, none⟩) (Or.inl (Nat.le_of_eq HZ.out)) _).below (by simp)
          have RUN : Hid (∃ v' w2, (Builtin.append_ #[68, 68] 68 #[u5, .slice (some ⟨((u1.setCell ⟨z, 2, none⟩ (.int .i64 (cN x.mask b x.cpu))).setCell ⟨z, 3, none⟩ (.bool (cF x.mask b))).heap.size, 0, none⟩) 1 1]).run Tryd.prog (((u1.setCell ⟨z, 2, none⟩ (.int .i64 (cN x.mask b x.cpu))).setCell ⟨z, 3, none⟩ (.bool (cF x.mask b))).alloc (.cells #[.int .i64 x.id, .int .u64 (x.mask : Int), .int .i64 (cN x.mask b x.cpu), .bool (cF x.mask b)] 76)) = .ok v' w2 ∧ IG 76 w w2 v' (G ++ [rpr b x])) := ig_app 76 68 68 i0 _ Tryd.underlying68 hi0 hz0 hz1 hz2 rfl (rpr b x) HG.out BS ⟨rfl, rfl, rfl, rfl⟩ hgl
          generalize rpr b x = y at *
          generalize cN x.mask b x.cpu = n1 at *
          generalize cF x.mask b = n2 at *
          have hsz : ((u1.setCell ⟨z, 2, none⟩ (.int .i64 n1)).setCell ⟨z, 3, none⟩ (.bool n2)).heap.size = u1.heap.size := by simp [World.setCell]
          rw [hsz] at RUN
          clear b1 k1 BS hsz
          go_wp2_with fail
          refine (C2.out ()).mono ?_
          rintro e u2 ⟨rfl, rfl⟩
          go_wp2_with (at_builtin; refine wpList_runq rfl (.tmp 37) (.tmp 39) 68 rfl rfl rfl RUN.out ?_)
          intro v2 w2 g2
          obtain ⟨a2, c2, rfl⟩ := owng_shape g2.own
          have G2 : Hid (IG 76 w w2 _ (G ++ [y])) := g2
          clear g2
          go_wp2
          go_roundw
          case rel => exact ⟨k + 1, _, by omega, G2.out, s, by go_num⟩
          case measure => simp [intOf]; omega
      · have e2 : G = mend b Y := by rw [hG.out, show k = l by omega, HE.out]
        subst e2
        obtain ⟨a2, c2, hv2⟩ := owng_shape g.own
        have HG : Hid (IG 76 w wr u5 (mend b Y)) := g
        rw [hv2] at HG
        clear g hG
        go_wp2
        go_ret
        exact ⟨_, rfl, HG.out⟩
end Go.Proofs.YtghnpmkibnggeaaDoor
