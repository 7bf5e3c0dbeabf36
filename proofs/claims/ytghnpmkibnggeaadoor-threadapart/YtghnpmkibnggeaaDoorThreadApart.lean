/- Proved: for every list acts and every act more, davitlaw11.ThreadApart(acts, more) returns true: what is done to one thread changes no other one (80 acts at most, as the law itself says), and acts is left alone; no condition but that the listed table is as the program's text lays it, which the card ties. -/
import Derived.Test.YtghnpmkibnggeaaDoorRows
import Derived.Test.YtghnpmkibnggeaaDoorTie
import Derived.Test.YtghnpmkibnggeaaDoorCards
import Derived.Test.YtghnpmkibnggeaaDoorMu
import Derived.Test.YtghnpmkibnggeaaDoorFo
import Derived.Test.YtghnpmkibnggeaaDoorDh
import Derived.Test.YtghnpmkibnggeaaDoorDi
import Derived.Test.YtghnpmkibnggeaaDoorDg
import Derived.Test.YtghnpmkibnggeaaDoorFi
import Derived.WalkKit
import Derived.ProofKit
import Derived.OpenShut
import Derived.Stop.Joined
import Derived.ShutString
import Derived.ChangeOld
import Derived.Below
import Derived.Carry
import Derived.LaidMore
import Derived.SevenTiedAt
import Derived.Test.YtghnpmkibnggeaaDoorFt
import Derived.Deep.RegionHeldLaw
namespace Go.Proofs.YtghnpmkibnggeaaDoor.threadApart
open Go.ChangeShapes Go.WideShapes Go.ChangeAt Go.RowKit
open Mm Sl Tm
set_option linter.unusedVariables false
set_option linter.unusedSimpArgs false

set_option maxRecDepth 100000 in
set_option maxHeartbeats 4000000 in
theorem walk (a0 : Option Addr) (len0 cap0 : Nat) (X0 : Nat → Nat → Int) (X1 : Nat → Int) (w : World) (w0 : TRow w (.slice a0 len0 cap0) len0 [1, 1, 1, 2, 1, 0] X0) (z0 : ∀ i, i < len0 → ∀ j, j < [1, 1, 1, 2, 1, 0].length → kwf ([1, 1, 1, 2, 1, 0].getD j 1) (X0 i j)) (z1 : ∀ j, j < [1, 1, 1, 2, 1, 0].length → kwf ([1, 1, 1, 2, 1, 0].getD j 1) (X1 j)) (ht : Tab w) (hs : 0 < w.heap.size) :
    Calls Tryd.prog 4 #[.slice a0 len0 cap0, .agg #[.int .i64 (X1 0), .int .i64 (X1 1), .int .i64 (X1 2), .int .u64 (X1 3), .int .i64 (X1 4), .bool (X1 5 != 0)]] w fun e w' => e = .returned (.bool true) ∧ Below w.heap.size w w' := by
  have hw3 : (Lit.int .u64 (X1 3)).wf = true := z1 3 (by decide)
  have HW : Hid (∀ i, i < len0 → kwf 2 (X0 i 3)) := fun i hi => z0 i hi 3 (by decide)
  have HR : Hid (TRow w (.slice a0 len0 cap0) len0 [1, 1, 1, 2, 1, 0] X0) := w0
  generalize X1 0 = y0 at *
  generalize X1 1 = y1 at *
  generalize X1 2 = y2 at *
  generalize X1 3 = y3 at *
  generalize X1 4 = y4 at *
  generalize (X1 5 != 0) = y5 at *
  obtain ⟨y3, rfl⟩ := Int.eq_ofNat_of_zero_le (show 0 ≤ y3 from (bounds_u64 hw3).1)
  have HY3 : Hid (y3 < 18446744073709551616) := by have := (bounds_u64 hw3).2; unfold Hid; omega
  obtain ⟨i6, hi6, hz60, hz61, hz62⟩ := info_parts Tryd.infoPt
  have kb : Blk (w.alloc (.cells #[.int .i64 y0, .int .i64 y1, .int .i64 y2, .int .u64 (y3 : Int), .int .i64 y4, .bool y5] 34)) w.heap.size [.int .i64 y0, .int .i64 y1, .int .i64 y2, .int .u64 (y3 : Int), .int .i64 y4, .bool y5] 34 := Blk.new w _ _
  have hal : Below w.heap.size w (w.alloc (.cells #[.int .i64 y0, .int .i64 y1, .int .i64 y2, .int .u64 (y3 : Int), .int .i64 y4, .bool y5] 34)) := (Below.refl _ _).alloc (Nat.le_refl _) _
  have hsa : (w.alloc (.cells #[.int .i64 y0, .int .i64 y1, .int .i64 y2, .int .u64 (y3 : Int), .int .i64 y4, .bool y5] 34)).heap.size = w.heap.size + 1 := by simp
  obtain ⟨wa, hwa⟩ : ∃ wa, w.alloc (.cells #[.int .i64 y0, .int .i64 y1, .int .i64 y2, .int .u64 (y3 : Int), .int .i64 y4, .bool y5] 34) = wa := ⟨_, rfl⟩
  have HWA : Hid (w.alloc (.cells #[.int .i64 y0, .int .i64 y1, .int .i64 y2, .int .u64 (y3 : Int), .int .i64 y4, .bool y5] 34) = wa) := hwa
  rw [hwa] at kb hal hsa
  obtain ⟨z, hz⟩ : ∃ z, w.heap.size = z := ⟨_, rfl⟩
  have HZ : Hid (w.heap.size = z) := hz
  rw [hz] at kb hal hsa hs ⊢
  have HAL : Hid (Below z w wa) := hal
  obtain ⟨s, hss⟩ : ∃ s, wa.heap.size = s := ⟨_, rfl⟩
  have HS : Hid (wa.heap.size = s) := hss
  have HZS : Hid (s = z + 1 ∧ 0 < z) := ⟨by omega, hs⟩
  have HBW : Hid (∀ w2, Below s wa w2 → Below z w w2) := fun w2 b => hal.trans (b.mono (by omega))
  have TB : Hid (∀ w2, Below s wa w2 → Tab w2) := fun w2 b => ht.keep (B := z) hs (by simp) (Fr.of_below (hal.trans (b.mono (by omega))))
  have KN : Hid (∀ w1, Below s wa w1 → _) := fun w1 b => thknown_yes w1 (TB.out w1 b) (by have := b.size; omega)
  have KB : Hid (∀ w2, Below s wa w2 → w2.cell? ⟨z, 0, none⟩ = some (.int .i64 y0) ∧ w2.cell? ⟨z, 1, none⟩ = some (.int .i64 y1) ∧ w2.cell? ⟨z, 2, none⟩ = some (.int .i64 y2) ∧ w2.cell? ⟨z, 3, none⟩ = some (.int .u64 (y3 : Int)) ∧ w2.cell? ⟨z, 4, none⟩ = some (.int .i64 y4) ∧ w2.cell? ⟨z, 5, none⟩ = some (.bool y5)) := fun w2 b2 => by
    have k2 := kb.keep (Fr.of_below b2) (by omega) (by simp)
    exact ⟨k2.cell 0, k2.cell 1, k2.cell 2, k2.cell 3, k2.cell 4, k2.cell 5⟩
  have C : Hid (∀ _ : Unit, _) := fun _ => thnew_any 8 wa (by decide) (by decide)
  have D : Hid (∀ w1, _) := fun w1 => rdnew_any 8 w1 (by decide) (by decide)
  rw [hss] at C
  clear w0 z0 z1 hw3 ht hs kb hal hsa hwa hz hss
  go_enter Tryd.func4, Tryd.ntmps4
  go_wp2_with fail
  rw [HWA.out, HZ.out]
  refine (C.out ()).mono ?_
  rintro e u1 ⟨rfl, q1, f1, -⟩
  have Q1 : Hid (TT u1 s 8 (fun _ => false) (fun _ => zt)) := q1
  have B1 : Hid (Below s wa u1) := f1
  have D1 : Hid (∀ _ : Unit, _) := fun _ => D.out u1
  have hi1 : Hid (s + 3 ≤ u1.heap.size) := q1.hi
  clear q1 f1
  go_wp2_with fail
  refine (D1.out ()).mono ?_
  rintro e u2 ⟨rfl, r2, f2, -⟩
  have PP0 : Hid (TP wa u2 s u1.heap.size 8 (.slice none 0 0) (fun _ => false) (fun _ => zt)) := ⟨Q1.out.below f2, r2, B1.out.trans (f2.mono (by have := hi1.out; omega)), hi1.out, fun g e => by cases e⟩
  clear r2 f2
  generalize u1.heap.size = b at *
  clear Q1 B1 D1 hi1
  go_wp2
  go_loopw [9] (fun i wr => ∃ (k : Nat) (O : Nat → Bool) (X : Nat → Th) (v : Value), (k : Int) ≤ 80 ∧ (k : Int) ≤ len0 ∧ TP wa wr s b 8 v O X ∧ i = .int .i64 k) (fun i _ => 80 - (intOf i).toNat)
  case atStart => exact ⟨0, _, _, _, by omega, by omega, PP0.out, rfl⟩
  case round =>
    obtain ⟨k, O, X, v, hk, hk2, p, rfl⟩ := hrel
    clear PP0
    have tail : (¬ (k : Int) < len0 ∧ decide ((k : Int) < len0) = false) ∨ ((k : Int) < len0 ∧ ¬ (k : Int) < 80) ∨ ((k : Int) < len0 ∧ (k : Int) < 80) := by
      by_cases h : (k : Int) < len0
      · by_cases h2 : (k : Int) < 80
        · exact Or.inr (Or.inr ⟨h, h2⟩)
        · exact Or.inr (Or.inl ⟨h, h2⟩)
      · exact Or.inl ⟨h, decide_eq_false h⟩
    rw [← or_assoc] at tail
    rcases tail with tail | ⟨h, h2⟩
    · obtain ⟨wo, rfl⟩ : ∃ wo, wo = wr := ⟨_, rfl⟩
      have sz0 : 0 < wo.heap.size := by have := p.size; omega
      have L1 : Hid (∀ _ : Unit, _) := fun _ => thlist_any wo p.q (TB.out wo p.bel) sz0
      have P : Hid (TP wa wo s b 8 v O X) := p
      have hll : ((dn O).length : Int) ≤ 32 := by have := dn_le O; omega
      have hzs : Hid (∀ k ∈ s :: (s + 1) :: (s + 2) :: b :: v.ownBlock.toList, k < wo.heap.size) := fun k hk => by
        have := p.size
        have := p.r.sb.lt
        simp only [List.mem_cons] at hk
        rcases hk with rfl | rfl | rfl | rfl | hk
        · omega
        · omega
        · omega
        · omega
        · exact (p.r.ob (by simpa using hk)).2
      clear p sz0
      have both : Hid (True) := trivial
      rcases tail with ⟨h, hd⟩ | ⟨h, h2⟩
      · go_wp2_with fail
        refine (L1.out ()).mono ?_
        rintro e u3 ⟨l3, rfl, g3⟩
        have P3 : Hid (TP wa u3 s b 8 v O X) := P.out.keep g3.bel
        have ln : (li 32 O).length = (dn O).length := by rw [li_dn, List.length_map]
        obtain ⟨a3, c3, rfl⟩ := own_shape g3.own
        have OW : Hid (u3.ownsRow wo.heap.size 3 1 (.slice a3 (dn O).length c3) (dn O).length ((li 32 O).map (Value.int .i64))) := by have := g3.own; rw [ln] at this; exact this
        have SZ3 : Hid (wo.heap.size ≤ u3.heap.size) := g3.bel.size
        have LG : Hid (∀ k : Nat, (k : Int) < (dn O).length → (li 32 O).getD k 0 = (((dn O).getD k 0 : Nat) : Int) + 1 ∧ Sl.hs 32 O ((((dn O).getD k 0 : Nat) : Int) + 1) = true ∧ gtX O X ((((dn O).getD k 0 : Nat) : Int) + 1) = X ((dn O).getD k 0) ∧ (ths O X).take (k + 1) = (ths O X).take k ++ [X ((dn O).getD k 0)] ∧ (ths O X).getD k zt = X ((dn O).getD k 0)) := fun k hk => ⟨li_get O (by omega), (gt_kth O X (by omega)).1, (gt_kth O X (by omega)).2, ths_take O X (by omega), ths_get O X (by omega)⟩
        have TL : Hid (∀ k : Nat, ((ths O X).take k).length ≤ 32) := fun k => by rw [List.length_take, ths_len]; omega
        have TE : Hid ((ths O X).take (dn O).length = ths O X ∧ (ths O X).length = (dn O).length) := ⟨List.take_of_length_le (by rw [ths_len]; exact Nat.le_refl _), ths_len O X⟩
        rw [ln]
        clear g3 L1 ln P
        generalize (ths O X) = LT at *
        generalize hdn : (dn O).length = n at *
        go_wp2
        go_loopw [11, 12] (fun vw i wq => ∃ (k : Nat), (k : Int) ≤ n ∧ WG u3 wq vw (LT.take k) ∧ i = .int .i64 k) (fun _ i _ => n - (intOf i).toNat)
        case atStart => exact ⟨0, by omega, wg_start u3, rfl⟩
        case round =>
          obtain ⟨k3, hk3, wg, rfl⟩ := hrel
          by_cases h5 : (k3 : Int) < n
          · have ow5 := owns_keep (B := u3.heap.size) (S := []) OW.out (Fr.of_below wg.bel) (Nat.le_refl _) (by simp)
            obtain ⟨bb, rfl, hc⟩ := own_cell ow5 h5
            obtain ⟨lg1, lg2, lg3, lg4, -⟩ := LG.out k3 h5
            rw [lg1] at hc
            have G1 : Hid (∀ _ : Unit, _) := fun _ => thget_any ((((dn O).getD k3 0 : Nat) : Int) + 1) wr (P3.out.keep wg.bel).q
            rw [lg2, lg3, if_pos rfl] at G1
            have tl := TL.out k3
            obtain ⟨LK, hLK⟩ : ∃ LK, LT.take k3 = LK := ⟨_, rfl⟩
            rw [hLK] at tl wg lg4
            have sz5 := wg.bel.size
            have HWG : Hid (WG u3 wr _ LK) := wg
            have LG4 : Hid (LT.take (k3 + 1) = LK ++ [X ((dn O).getD k3 0)]) := lg4
            generalize X ((dn O).getD k3 0) = t at *
            generalize (((dn O).getD k3 0 : Nat) : Int) + 1 = nk at *
            unfold thv at G1
            clear lg1 lg2 lg3 lg4 ow5 wg hLK
            go_wp2_with fail
            refine (G1.out ()).mono ?_
            rintro e u4 ⟨rfl, f4⟩
            have OW4 : Hid (u4.ownsRow u3.heap.size 40 6 u11 LK.length (f6 LK)) := wg_own HWG.out f4
            have F4 : Hid (Below wr.heap.size wr u4) := f4
            have sz6 := f4.size
            clear f4
            go_wp2_with (at_builtin; refine wpList_append_own _ rfl _ _ 51 rfl u3.heap.size 40 i6 _ 6 40 Tryd.underlying51 hi6 hz60 hz61 hz62 rfl (by decide) _ _ _ rfl ((OW4.out.alloc _).alloc _) ⟨_, 0, none⟩ 1 1 (t6 t) rfl rfl ?c1 ?c2 ?c3 ?c4 ?c5 ?_)
            case c1 =>
              intro j u hj
              have q := (Blk.new (u4.alloc (.cells #[.int .i64 t.prio, .int .u64 (t.mask : Int), .int .i64 t.cpu, .bool t.forced, .bool t.sleeps, .int .i64 t.timer] 40)) (t6 t) 40).cell j
              rw [show (u4.alloc (.cells #[.int .i64 t.prio, .int .u64 (t.mask : Int), .int .i64 t.cpu, .bool t.forced, .bool t.sleeps, .int .i64 t.timer] 40)).heap.size = u4.heap.size + 1 by simp] at q
              rw [Addr.add_lit, Nat.zero_add]
              exact q.trans hj
            case c2 => intro u hu; simp only [t6, List.mem_cons, List.not_mem_nil, or_false] at hu; rcases hu with rfl | rfl | rfl | rfl | rfl | rfl <;> rfl
            case c3 => unfold maxLen; omega
            case c4 => omega
            case c5 => simp; omega
            intro v' w5 hown' hgrow _
            have G5 := wg_app HWG.out F4.out hown' hgrow
            rw [← LG4.out] at G5
            clear hown' hgrow
            go_wp2
            go_roundw
            case rel => exact ⟨k3 + 1, by omega, G5, by go_num⟩
            case measure => simp [intOf]; omega
          · obtain rfl : k3 = n := by omega
            rw [TE.out.1] at wg
            obtain ⟨wq, rfl⟩ : ∃ wq, wq = wr := ⟨_, rfl⟩
            obtain ⟨kc0, kc1, kc2, kc3, kc4, kc5⟩ := KB.out wq (P3.out.keep wg.bel).bel
            have DO : Hid (∀ _ : Unit, _) := fun _ => thdo2_any y0 y1 y2 y3 y4 y5 HY3.out wq (P3.out.keep wg.bel) TB.out
            have OW6 : Hid (∀ w6, Fr wq.heap.size (s :: (s + 1) :: (s + 2) :: b :: v.ownBlock.toList) wq w6 → w6.ownsRow wo.heap.size 3 1 (.slice a3 k3 c3) k3 ((li 32 O).map (Value.int .i64)) ∧ w6.ownsRow u3.heap.size 40 6 u11 LT.length (f6 LT)) := fun w6 f6' => by
              refine ⟨owns_keep (owns_keep (B := u3.heap.size) (S := []) OW.out (Fr.of_below wg.bel) (Nat.le_refl _) (by simp)) f6' (Nat.le_refl _) hzs.out, ?_⟩
              have ob : ∀ g, u11.ownBlock = some g → u3.heap.size ≤ g := fun g e => by
                rcases wg.own.2 with ⟨e1, _⟩ | ⟨g', cap, cur, e1, hb, _⟩
                · rw [e1] at e; cases e
                · rw [e1] at e
                  simp [Value.ownBlock] at e
                  omega
              exact owng_keep wg.own f6' fun g e => ⟨owng_lt wg.own e, fun q => by have := hzs.out g q; have := ob g e; have := SZ3.out; omega⟩
            obtain ⟨aw, cw, rfl⟩ := owng_shape wg.own
            clear wg
            go_wp2_with fail
            refine (DO.out ()).mono ?_
            rintro e u6 ⟨rfl, v6, O6, X6, p6, ap6, f6'⟩
            have P6 : Hid (TP wa u6 s b 8 v6 O6 X6) := p6
            have AP6 : Hid (Ap O X O6 X6 y1) := ap6
            obtain ⟨ol, ow⟩ := OW6.out u6 f6'
            have OL : Hid (u6.ownsRow wo.heap.size 3 1 (.slice a3 k3 c3) k3 ((li 32 O).map (Value.int .i64))) := ol
            have OWW : Hid (u6.ownsRow u3.heap.size 40 6 (.slice aw LT.length cw) LT.length (f6 LT)) := ow
            rw [TE.out.2]
            rw [TE.out.2] at OWW
            clear p6 ap6 f6' ol ow kc0 kc1 kc2 kc3 kc4 kc5 OW6 DO
            go_wp2
            go_loopw [15] (fun i wx => ∃ (k : Nat), (k : Int) ≤ k3 ∧ Below u6.heap.size u6 wx ∧ i = .int .i64 k) (fun i _ => k3 - (intOf i).toNat)
            case atStart => exact ⟨0, by omega, Below.refl _ _, rfl⟩
            case round =>
              obtain ⟨k7, hk7, b7, rfl⟩ := hrel
              have P7 := P6.out.keep b7
              by_cases h7 : (k7 : Int) < k3
              · obtain ⟨lg1, lg2, lg3, -, lg5⟩ := LG.out k7 h7
                have HAP : Hid ((((dn O).getD k7 0 : Nat) : Int) + 1 ≠ y1 → Sl.hs 32 O6 ((((dn O).getD k7 0 : Nat) : Int) + 1) = true ∧ X6 ((((dn O).getD k7 0 : Nat) : Int) + 1).toNat.pred = X ((dn O).getD k7 0)) := fun ne => by
                  obtain ⟨r1, r2⟩ := AP6.out _ lg2 ne
                  refine ⟨r1, ?_⟩
                  have e : ((((dn O).getD k7 0 : Nat) : Int) + 1).toNat - 1 = (dn O).getD k7 0 := by omega
                  rw [e] at r2
                  rw [← r2]
                  congr 1
                have ow7 := owns_keep (B := u6.heap.size) (S := []) OL.out (Fr.of_below b7) (Nat.le_refl _) (by simp)
                obtain ⟨bb, rfl, hc⟩ := own_cell ow7 h7
                rw [lg1] at hc
                have HC : Hid (∀ w8, Below wr.heap.size wr w8 → w8.cell? ⟨bb, k7, none⟩ = some (.int .i64 ((((dn O).getD k7 0 : Nat) : Int) + 1))) := fun w8 b8 => (b8.cell (p := ⟨bb, k7, none⟩) (World.block_lt_of_cell? wr ⟨bb, k7, none⟩ hc)).trans hc
                obtain ⟨gw, rfl, hgw, cw7⟩ := own6_at LT TE.out.2 (owng_keep (OWW.out) (Fr.of_below b7) fun g e => ⟨owng_lt OWW.out e, by simp⟩) (k := k7) (by omega)
                rw [lg5] at cw7
                obtain ⟨t, ht5⟩ : ∃ t, X ((dn O).getD k7 0) = t := ⟨_, rfl⟩
                rw [ht5] at cw7 HAP
                have HW7 : Hid (∀ w8, Below wr.heap.size wr w8 → w8.cell? ⟨gw, k7 * 6, none⟩ = some (.int .i64 t.prio) ∧ w8.cell? ⟨gw, k7 * 6 + 1, none⟩ = some (.int .u64 (t.mask : Int)) ∧ w8.cell? ⟨gw, k7 * 6 + 2, none⟩ = some (.int .i64 t.cpu) ∧ w8.cell? ⟨gw, k7 * 6 + 3, none⟩ = some (.bool t.forced) ∧ w8.cell? ⟨gw, k7 * 6 + 4, none⟩ = some (.bool t.sleeps) ∧ w8.cell? ⟨gw, k7 * 6 + 5, none⟩ = some (.int .i64 t.timer)) := fun w8 b8 => ⟨(b8.cell (p := ⟨gw, k7 * 6, none⟩) hgw).trans (cw7 0 (by omega)), (b8.cell (p := ⟨gw, k7 * 6 + 1, none⟩) hgw).trans (cw7 1 (by omega)), (b8.cell (p := ⟨gw, k7 * 6 + 2, none⟩) hgw).trans (cw7 2 (by omega)), (b8.cell (p := ⟨gw, k7 * 6 + 3, none⟩) hgw).trans (cw7 3 (by omega)), (b8.cell (p := ⟨gw, k7 * 6 + 4, none⟩) hgw).trans (cw7 4 (by omega)), (b8.cell (p := ⟨gw, k7 * 6 + 5, none⟩) hgw).trans (cw7 5 (by omega))⟩
                have HM : Hid (∀ w8, Below wr.heap.size wr w8 → w8.cell? ⟨z, 1, none⟩ = some (.int .i64 y1)) := fun w8 b8 => (KB.out w8 (P7.keep b8).bel).2.1
                have G7 : Hid (∀ _ : Unit, _) := fun _ => thget_any ((((dn O).getD k7 0 : Nat) : Int) + 1) wr P7.q
                obtain ⟨nk, hnk⟩ : ∃ nk, (((dn O).getD k7 0 : Nat) : Int) + 1 = nk := ⟨_, rfl⟩
                rw [hnk] at HAP HC hc G7
                by_cases hne : nk = y1
                · have e7 : (nk != y1) = false := by rw [hne]; simp
                  generalize gtX O6 X6 nk = t2 at *
                  generalize (if Sl.hs 32 O6 nk = true then (0 : Int) else 4) = ee at *
                  have OUT : Hid (∀ w8, Below wr.heap.size wr w8 → Below u6.heap.size u6 w8) := fun w8 b8 => b7.trans (b8.mono b7.size)
                  unfold thv at G7
                  clear lg1 lg2 lg3 lg5 ow7 cw7 P7 HAP hne hnk ht5
                  go_wp2_with fail
                  refine (G7.out ()).mono ?_
                  rintro e u8 ⟨rfl, f8⟩
                  have b9 : Below wr.heap.size wr (u8.alloc (.cells #[.int .i64 t2.prio, .int .u64 (t2.mask : Int), .int .i64 t2.cpu, .bool t2.forced, .bool t2.sleeps, .int .i64 t2.timer] 40)) := f8.alloc f8.size _
                  obtain ⟨u9, hu9⟩ : ∃ u9, u8.alloc (.cells #[.int .i64 t2.prio, .int .u64 (t2.mask : Int), .int .i64 t2.cpu, .bool t2.forced, .bool t2.sleeps, .int .i64 t2.timer] 40) = u9 := ⟨_, rfl⟩
                  have HU9 : Hid (u8.alloc (.cells #[.int .i64 t2.prio, .int .u64 (t2.mask : Int), .int .i64 t2.cpu, .bool t2.forced, .bool t2.sleeps, .int .i64 t2.timer] 40) = u9) := hu9
                  rw [hu9] at b9
                  have c9 := HC.out u9 b9
                  have m9 := HM.out u9 b9
                  have OUT9 : Hid (Below u6.heap.size u6 u9) := OUT.out u9 b9
                  clear f8 b9 hu9 hc
                  go_wp2_with fail
                  rw [HU9.out]
                  refine wp_region_held_drew (S := fun w' => w'.cell? ⟨bb, k7, none⟩ = some (.int .i64 nk) ∧ w'.cell? ⟨z, 1, none⟩ = some (.int .i64 y1)) (by kernel_rfl) (by go_keep) (fun hHeld => ?_)
                  refine wpAnyH_take (i := 0) (oi := { dst := some 86, op := Op.move (Operand.tmp 10), type := 36, pos := "law.go:107", after := #[], guard := none }) (v := ?va0) rfl (by kernel_rfl) (by kernel_rfl) (by kernel_rfl) (fun _ _ _ h => h) (Or.inl ⟨by rfl, ?ha0⟩) (by assumption) ?ra0
                  case ha0 => (intro wz hSw; (try dsimp only at hSw); go_simp <;> with_reducible rfl)
                  try simp only [Act.put, List.setIfInBounds_toArray, List.set_cons_zero, List.set_cons_succ]
                  refine wpAnyH_take (i := 1) (oi := { dst := some 87, op := Op.move (Operand.tmp 15), type := 3, pos := "law.go:107", after := #[], guard := none }) (v := ?va1) rfl (by kernel_rfl) (by kernel_rfl) (by kernel_rfl) (fun _ _ _ h => h) (Or.inl ⟨by rfl, ?ha1⟩) (by assumption) ?ra1
                  case ha1 => (intro wz hSw; (try dsimp only at hSw); go_simp <;> with_reducible rfl)
                  try simp only [Act.put, List.setIfInBounds_toArray, List.set_cons_zero, List.set_cons_succ]
                  refine wpAnyH_take (i := 2) (oi := { dst := some 88, op := Op.indexAddr 36 (Operand.tmp 86) (Operand.tmp 87), type := 0, pos := "law.go:107", after := #[{ on := 0, ground := Ground.data }, { on := 1, ground := Ground.data }], guard := none }) (v := ?va2) rfl (by kernel_rfl) (by kernel_rfl) (by kernel_rfl) (fun _ _ _ h => h) (Or.inl ⟨by rfl, ?ha2⟩) (by assumption) ?ra2
                  case ha2 => (intro wz hSw; (try dsimp only at hSw); go_simp <;> with_reducible rfl)
                  try simp only [Act.put, List.setIfInBounds_toArray, List.set_cons_zero, List.set_cons_succ]
                  refine wpAnyH_take (i := 3) (oi := { dst := some 89, op := Op.load 3 (Operand.tmp 88), type := 3, pos := "law.go:107", after := #[{ on := 2, ground := Ground.data }], guard := none }) (v := ?va3) rfl (by kernel_rfl) (by kernel_rfl) (by kernel_rfl) (fun _ _ _ h => h) (Or.inl ⟨by rfl, ?ha3⟩) (by assumption) ?ra3
                  case ha3 => (intro wz hSw; (try dsimp only at hSw); go_simp <;> with_reducible rfl)
                  try simp only [Act.put, List.setIfInBounds_toArray, List.set_cons_zero, List.set_cons_succ]
                  refine wpAnyH_take (i := 4) (oi := { dst := some 90, op := Op.fieldAddr 34 (Operand.tmp 3) 1, type := 0, pos := "law.go:107", after := #[], guard := none }) (v := ?va4) rfl (by kernel_rfl) (by kernel_rfl) (by kernel_rfl) (fun _ _ _ h => h) (Or.inl ⟨by rfl, ?ha4⟩) (by assumption) ?ra4
                  case ha4 => (intro wz hSw; (try dsimp only at hSw); go_simp <;> with_reducible rfl)
                  try simp only [Act.put, List.setIfInBounds_toArray, List.set_cons_zero, List.set_cons_succ]
                  refine wpAnyH_take (i := 5) (oi := { dst := some 91, op := Op.load 3 (Operand.tmp 90), type := 3, pos := "law.go:107", after := #[{ on := 4, ground := Ground.data }], guard := none }) (v := ?va5) rfl (by kernel_rfl) (by kernel_rfl) (by kernel_rfl) (fun _ _ _ h => h) (Or.inl ⟨by rfl, ?ha5⟩) (by assumption) ?ra5
                  case ha5 => (intro wz hSw; (try dsimp only at hSw); go_simp <;> with_reducible rfl)
                  try simp only [Act.put, List.setIfInBounds_toArray, List.set_cons_zero, List.set_cons_succ]
                  refine wpAnyH_take (i := 6) (oi := { dst := some 92, op := Op.binOp BinOp.neq 3 (Operand.tmp 89) (Operand.tmp 91) 3, type := 4, pos := "law.go:107", after := #[{ on := 3, ground := Ground.data }, { on := 5, ground := Ground.data }], guard := none }) (v := ?va6) rfl (by kernel_rfl) (by kernel_rfl) (by kernel_rfl) (fun _ _ _ h => h) (Or.inl ⟨by rfl, ?ha6⟩) (by assumption) ?ra6
                  case ha6 => (intro wz hSw; (try dsimp only at hSw); go_simp <;> with_reducible rfl)
                  try simp only [Act.put, List.setIfInBounds_toArray, List.set_cons_zero, List.set_cons_succ]
                  refine wpAnyH_take (i := 7) (oi := { dst := some 93, op := Op.move (Operand.tmp 92), type := 4, pos := "law.go:107", after := #[{ on := 6, ground := Ground.data }], guard := none }) (v := ?va7) rfl (by kernel_rfl) (by kernel_rfl) (by kernel_rfl) (fun _ _ _ h => h) (Or.inl ⟨by rfl, ?ha7⟩) (by assumption) ?ra7
                  case ha7 => (intro wz hSw; (try dsimp only at hSw); go_simp <;> with_reducible rfl)
                  try simp only [Act.put, List.setIfInBounds_toArray, List.set_cons_zero, List.set_cons_succ]
                  refine wpAnyH_take (i := 8) (oi := { dst := some 94, op := Op.move (Operand.tmp 17), type := 24, pos := "law.go:107", after := #[{ on := 7, ground := Ground.guard }], guard := some (7, true) }) (v := undef) rfl (by kernel_rfl) (by kernel_rfl) (by kernel_rfl) (fun _ _ _ h => h) (Or.inr ⟨by rfl, rfl⟩) (by assumption) ?_
                  try simp only [Act.put, List.setIfInBounds_toArray, List.set_cons_zero, List.set_cons_succ]
                  refine wpAnyH_take (i := 9) (oi := { dst := some 95, op := Op.binOp BinOp.neq 24 (Operand.tmp 94) (Operand.const (Value.int IntKind.i64 0)) 24, type := 4, pos := "law.go:107", after := #[{ on := 8, ground := Ground.data }, { on := 7, ground := Ground.guard }], guard := some (7, true) }) (v := undef) rfl (by kernel_rfl) (by kernel_rfl) (by kernel_rfl) (fun _ _ _ h => h) (Or.inr ⟨by rfl, rfl⟩) (by assumption) ?_
                  try simp only [Act.put, List.setIfInBounds_toArray, List.set_cons_zero, List.set_cons_succ]
                  refine wpAnyH_take (i := 10) (oi := { dst := some 96, op := Op.move (Operand.tmp 95), type := 4, pos := "law.go:107", after := #[{ on := 9, ground := Ground.data }, { on := 7, ground := Ground.chain }, { on := 7, ground := Ground.guard }], guard := some (7, true) }) (v := undef) rfl (by kernel_rfl) (by kernel_rfl) (by kernel_rfl) (fun _ _ _ h => h) (Or.inr ⟨by rfl, rfl⟩) (by assumption) ?_
                  try simp only [Act.put, List.setIfInBounds_toArray, List.set_cons_zero, List.set_cons_succ]
                  refine wpAnyH_take (i := 11) (oi := { dst := some 97, op := Op.load 40 (Operand.tmp 16), type := 40, pos := "law.go:107", after := #[{ on := 10, ground := Ground.guard }], guard := some (10, false) }) (v := undef) rfl (by kernel_rfl) (by kernel_rfl) (by kernel_rfl) (fun _ _ _ h => h) (Or.inr ⟨by rfl, rfl⟩) (by assumption) ?_
                  try simp only [Act.put, List.setIfInBounds_toArray, List.set_cons_zero, List.set_cons_succ]
                  refine wpAnyH_take (i := 12) (oi := { dst := some 98, op := Op.move (Operand.tmp 11), type := 51, pos := "law.go:107", after := #[{ on := 10, ground := Ground.guard }], guard := some (10, false) }) (v := undef) rfl (by kernel_rfl) (by kernel_rfl) (by kernel_rfl) (fun _ _ _ h => h) (Or.inr ⟨by rfl, rfl⟩) (by assumption) ?_
                  try simp only [Act.put, List.setIfInBounds_toArray, List.set_cons_zero, List.set_cons_succ]
                  refine wpAnyH_take (i := 13) (oi := { dst := some 99, op := Op.move (Operand.tmp 15), type := 3, pos := "law.go:107", after := #[{ on := 10, ground := Ground.guard }], guard := some (10, false) }) (v := undef) rfl (by kernel_rfl) (by kernel_rfl) (by kernel_rfl) (fun _ _ _ h => h) (Or.inr ⟨by rfl, rfl⟩) (by assumption) ?_
                  try simp only [Act.put, List.setIfInBounds_toArray, List.set_cons_zero, List.set_cons_succ]
                  refine wpAnyH_take (i := 14) (oi := { dst := some 100, op := Op.indexAddr 51 (Operand.tmp 98) (Operand.tmp 99), type := 0, pos := "law.go:107", after := #[{ on := 12, ground := Ground.data }, { on := 13, ground := Ground.data }, { on := 10, ground := Ground.guard }], guard := some (10, false) }) (v := undef) rfl (by kernel_rfl) (by kernel_rfl) (by kernel_rfl) (fun _ _ _ h => h) (Or.inr ⟨by rfl, rfl⟩) (by assumption) ?_
                  try simp only [Act.put, List.setIfInBounds_toArray, List.set_cons_zero, List.set_cons_succ]
                  refine wpAnyH_take (i := 15) (oi := { dst := some 101, op := Op.load 40 (Operand.tmp 100), type := 40, pos := "law.go:107", after := #[{ on := 14, ground := Ground.data }, { on := 10, ground := Ground.guard }], guard := some (10, false) }) (v := undef) rfl (by kernel_rfl) (by kernel_rfl) (by kernel_rfl) (fun _ _ _ h => h) (Or.inr ⟨by rfl, rfl⟩) (by assumption) ?_
                  try simp only [Act.put, List.setIfInBounds_toArray, List.set_cons_zero, List.set_cons_succ]
                  refine wpAnyH_take (i := 16) (oi := { dst := some 102, op := Op.binOp BinOp.neq 40 (Operand.tmp 97) (Operand.tmp 101) 40, type := 4, pos := "law.go:107", after := #[{ on := 11, ground := Ground.data }, { on := 15, ground := Ground.data }, { on := 10, ground := Ground.guard }], guard := some (10, false) }) (v := undef) rfl (by kernel_rfl) (by kernel_rfl) (by kernel_rfl) (fun _ _ _ h => h) (Or.inr ⟨by rfl, rfl⟩) (by assumption) ?_
                  try simp only [Act.put, List.setIfInBounds_toArray, List.set_cons_zero, List.set_cons_succ]
                  refine wpAnyH_take (i := 17) (oi := { dst := some 103, op := Op.pick (Operand.tmp 96) (Operand.const (Value.bool true)) (Operand.tmp 102), type := 4, pos := "law.go:107", after := #[{ on := 10, ground := Ground.data }, { on := 16, ground := Ground.data }, { on := 7, ground := Ground.guard }], guard := some (7, true) }) (v := undef) rfl (by kernel_rfl) (by kernel_rfl) (by kernel_rfl) (fun _ _ _ h => h) (Or.inr ⟨by rfl, rfl⟩) (by assumption) ?_
                  try simp only [Act.put, List.setIfInBounds_toArray, List.set_cons_zero, List.set_cons_succ]
                  refine wpAnyH_take (i := 18) (oi := { dst := some 104, op := Op.pick (Operand.tmp 93) (Operand.tmp 103) (Operand.const (Value.bool false)), type := 4, pos := "law.go:107", after := #[{ on := 7, ground := Ground.data }, { on := 17, ground := Ground.data }], guard := none }) (v := ?va18) rfl (by kernel_rfl) (by kernel_rfl) (by kernel_rfl) (fun _ _ _ h => h) (Or.inl ⟨by rfl, ?ha18⟩) (by assumption) ?ra18
                  case ha18 => (intro wz hSw; (try dsimp only at hSw); go_simp <;> with_reducible rfl)
                  try simp only [Act.put, List.setIfInBounds_toArray, List.set_cons_zero, List.set_cons_succ]
                  refine wpAnyH_done (by kernel_rfl) ?_ _
                  go_wp2
                  go_roundw
                  case rel => exact ⟨k7 + 1, by omega, by have q := OUT9.out; exact ⟨q.os, q.tape, q.output, q.size, q.block⟩, by go_num⟩
                  case measure => simp [intOf]; omega
                · have e7 : (nk != y1) = true := by simpa using hne
                  obtain ⟨r1, r2⟩ := HAP.out hne
                  have gx : gtX O6 X6 nk = t := by
                    unfold gtX
                    rw [if_pos r1, ← r2]
                    congr 1
                  rw [gx, r1, if_pos rfl] at G7
                  have OUT : Hid (∀ w8, Below wr.heap.size wr w8 → Below u6.heap.size u6 w8) := fun w8 b8 => b7.trans (b8.mono b7.size)
                  unfold thv at G7
                  clear lg1 lg2 lg3 lg5 ow7 cw7 P7 HAP hne hnk ht5 r1 r2 gx
                  go_wp2_with fail
                  refine (G7.out ()).mono ?_
                  rintro e u8 ⟨rfl, f8⟩
                  have b9 : Below wr.heap.size wr (u8.alloc (.cells #[.int .i64 t.prio, .int .u64 (t.mask : Int), .int .i64 t.cpu, .bool t.forced, .bool t.sleeps, .int .i64 t.timer] 40)) := f8.alloc f8.size _
                  have k9 : Blk (u8.alloc (.cells #[.int .i64 t.prio, .int .u64 (t.mask : Int), .int .i64 t.cpu, .bool t.forced, .bool t.sleeps, .int .i64 t.timer] 40)) u8.heap.size [.int .i64 t.prio, .int .u64 (t.mask : Int), .int .i64 t.cpu, .bool t.forced, .bool t.sleeps, .int .i64 t.timer] 40 := Blk.new u8 _ _
                  obtain ⟨u9, hu9⟩ : ∃ u9, u8.alloc (.cells #[.int .i64 t.prio, .int .u64 (t.mask : Int), .int .i64 t.cpu, .bool t.forced, .bool t.sleeps, .int .i64 t.timer] 40) = u9 := ⟨_, rfl⟩
                  have HU9 : Hid (u8.alloc (.cells #[.int .i64 t.prio, .int .u64 (t.mask : Int), .int .i64 t.cpu, .bool t.forced, .bool t.sleeps, .int .i64 t.timer] 40) = u9) := hu9
                  rw [hu9] at b9 k9
                  obtain ⟨z9, hz9⟩ : ∃ z9, u8.heap.size = z9 := ⟨_, rfl⟩
                  have HZ9 : Hid (u8.heap.size = z9) := hz9
                  rw [hz9] at k9
                  have c9 := HC.out u9 b9
                  have m9 := HM.out u9 b9
                  obtain ⟨gw0, gw1, gw2, gw3, gw4, gw5⟩ := HW7.out u9 b9
                  obtain ⟨zc0, zc1, zc2, zc3, zc4, zc5⟩ : u9.cell? ⟨z9, 0, none⟩ = some (.int .i64 t.prio) ∧ u9.cell? ⟨z9, 1, none⟩ = some (.int .u64 (t.mask : Int)) ∧ u9.cell? ⟨z9, 2, none⟩ = some (.int .i64 t.cpu) ∧ u9.cell? ⟨z9, 3, none⟩ = some (.bool t.forced) ∧ u9.cell? ⟨z9, 4, none⟩ = some (.bool t.sleeps) ∧ u9.cell? ⟨z9, 5, none⟩ = some (.int .i64 t.timer) := ⟨k9.cell 0, k9.cell 1, k9.cell 2, k9.cell 3, k9.cell 4, k9.cell 5⟩
                  have OUT9 : Hid (Below u6.heap.size u6 u9) := OUT.out u9 b9
                  clear f8 b9 hu9 hc k9 hz9
                  go_wp2_with fail
                  rw [HU9.out, HZ9.out]
                  refine wp_region_held_drew (S := fun w' => w'.cell? ⟨bb, k7, none⟩ = some (.int .i64 nk) ∧ w'.cell? ⟨z, 1, none⟩ = some (.int .i64 y1) ∧ (w'.cell? ⟨z9, 0, none⟩ = some (.int .i64 t.prio) ∧ w'.cell? ⟨z9, 1, none⟩ = some (.int .u64 (t.mask : Int)) ∧ w'.cell? ⟨z9, 2, none⟩ = some (.int .i64 t.cpu) ∧ w'.cell? ⟨z9, 3, none⟩ = some (.bool t.forced) ∧ w'.cell? ⟨z9, 4, none⟩ = some (.bool t.sleeps) ∧ w'.cell? ⟨z9, 5, none⟩ = some (.int .i64 t.timer)) ∧ w'.cell? ⟨gw, k7 * 6, none⟩ = some (.int .i64 t.prio) ∧ w'.cell? ⟨gw, k7 * 6 + 1, none⟩ = some (.int .u64 (t.mask : Int)) ∧ w'.cell? ⟨gw, k7 * 6 + 2, none⟩ = some (.int .i64 t.cpu) ∧ w'.cell? ⟨gw, k7 * 6 + 3, none⟩ = some (.bool t.forced) ∧ w'.cell? ⟨gw, k7 * 6 + 4, none⟩ = some (.bool t.sleeps) ∧ w'.cell? ⟨gw, k7 * 6 + 5, none⟩ = some (.int .i64 t.timer)) (by kernel_rfl) (by go_keep) (fun hHeld => ?_)
                  refine wpAnyH_take (i := 0) (oi := { dst := some 86, op := Op.move (Operand.tmp 10), type := 36, pos := "law.go:107", after := #[], guard := none }) (v := ?vb0) rfl (by kernel_rfl) (by kernel_rfl) (by kernel_rfl) (fun _ _ _ h => h) (Or.inl ⟨by rfl, ?hb0⟩) (by assumption) ?rb0
                  case hb0 => (intro wz hSw; (try dsimp only at hSw); go_simp <;> with_reducible rfl)
                  try simp only [Act.put, List.setIfInBounds_toArray, List.set_cons_zero, List.set_cons_succ]
                  refine wpAnyH_take (i := 1) (oi := { dst := some 87, op := Op.move (Operand.tmp 15), type := 3, pos := "law.go:107", after := #[], guard := none }) (v := ?vb1) rfl (by kernel_rfl) (by kernel_rfl) (by kernel_rfl) (fun _ _ _ h => h) (Or.inl ⟨by rfl, ?hb1⟩) (by assumption) ?rb1
                  case hb1 => (intro wz hSw; (try dsimp only at hSw); go_simp <;> with_reducible rfl)
                  try simp only [Act.put, List.setIfInBounds_toArray, List.set_cons_zero, List.set_cons_succ]
                  refine wpAnyH_take (i := 2) (oi := { dst := some 88, op := Op.indexAddr 36 (Operand.tmp 86) (Operand.tmp 87), type := 0, pos := "law.go:107", after := #[{ on := 0, ground := Ground.data }, { on := 1, ground := Ground.data }], guard := none }) (v := ?vb2) rfl (by kernel_rfl) (by kernel_rfl) (by kernel_rfl) (fun _ _ _ h => h) (Or.inl ⟨by rfl, ?hb2⟩) (by assumption) ?rb2
                  case hb2 => (intro wz hSw; (try dsimp only at hSw); go_simp <;> with_reducible rfl)
                  try simp only [Act.put, List.setIfInBounds_toArray, List.set_cons_zero, List.set_cons_succ]
                  refine wpAnyH_take (i := 3) (oi := { dst := some 89, op := Op.load 3 (Operand.tmp 88), type := 3, pos := "law.go:107", after := #[{ on := 2, ground := Ground.data }], guard := none }) (v := ?vb3) rfl (by kernel_rfl) (by kernel_rfl) (by kernel_rfl) (fun _ _ _ h => h) (Or.inl ⟨by rfl, ?hb3⟩) (by assumption) ?rb3
                  case hb3 => (intro wz hSw; (try dsimp only at hSw); go_simp <;> with_reducible rfl)
                  try simp only [Act.put, List.setIfInBounds_toArray, List.set_cons_zero, List.set_cons_succ]
                  refine wpAnyH_take (i := 4) (oi := { dst := some 90, op := Op.fieldAddr 34 (Operand.tmp 3) 1, type := 0, pos := "law.go:107", after := #[], guard := none }) (v := ?vb4) rfl (by kernel_rfl) (by kernel_rfl) (by kernel_rfl) (fun _ _ _ h => h) (Or.inl ⟨by rfl, ?hb4⟩) (by assumption) ?rb4
                  case hb4 => (intro wz hSw; (try dsimp only at hSw); go_simp <;> with_reducible rfl)
                  try simp only [Act.put, List.setIfInBounds_toArray, List.set_cons_zero, List.set_cons_succ]
                  refine wpAnyH_take (i := 5) (oi := { dst := some 91, op := Op.load 3 (Operand.tmp 90), type := 3, pos := "law.go:107", after := #[{ on := 4, ground := Ground.data }], guard := none }) (v := ?vb5) rfl (by kernel_rfl) (by kernel_rfl) (by kernel_rfl) (fun _ _ _ h => h) (Or.inl ⟨by rfl, ?hb5⟩) (by assumption) ?rb5
                  case hb5 => (intro wz hSw; (try dsimp only at hSw); go_simp <;> with_reducible rfl)
                  try simp only [Act.put, List.setIfInBounds_toArray, List.set_cons_zero, List.set_cons_succ]
                  refine wpAnyH_take (i := 6) (oi := { dst := some 92, op := Op.binOp BinOp.neq 3 (Operand.tmp 89) (Operand.tmp 91) 3, type := 4, pos := "law.go:107", after := #[{ on := 3, ground := Ground.data }, { on := 5, ground := Ground.data }], guard := none }) (v := ?vb6) rfl (by kernel_rfl) (by kernel_rfl) (by kernel_rfl) (fun _ _ _ h => h) (Or.inl ⟨by rfl, ?hb6⟩) (by assumption) ?rb6
                  case hb6 => (intro wz hSw; (try dsimp only at hSw); go_simp <;> with_reducible rfl)
                  try simp only [Act.put, List.setIfInBounds_toArray, List.set_cons_zero, List.set_cons_succ]
                  refine wpAnyH_take (i := 7) (oi := { dst := some 93, op := Op.move (Operand.tmp 92), type := 4, pos := "law.go:107", after := #[{ on := 6, ground := Ground.data }], guard := none }) (v := ?vb7) rfl (by kernel_rfl) (by kernel_rfl) (by kernel_rfl) (fun _ _ _ h => h) (Or.inl ⟨by rfl, ?hb7⟩) (by assumption) ?rb7
                  case hb7 => (intro wz hSw; (try dsimp only at hSw); go_simp <;> with_reducible rfl)
                  try simp only [Act.put, List.setIfInBounds_toArray, List.set_cons_zero, List.set_cons_succ]
                  refine wpAnyH_take (i := 8) (oi := { dst := some 94, op := Op.move (Operand.tmp 17), type := 24, pos := "law.go:107", after := #[{ on := 7, ground := Ground.guard }], guard := some (7, true) }) (v := ?vb8) rfl (by kernel_rfl) (by kernel_rfl) (by kernel_rfl) (fun _ _ _ h => h) (Or.inl ⟨by rfl, ?hb8⟩) (by assumption) ?rb8
                  case hb8 => (intro wz hSw; (try dsimp only at hSw); go_simp <;> with_reducible rfl)
                  try simp only [Act.put, List.setIfInBounds_toArray, List.set_cons_zero, List.set_cons_succ]
                  refine wpAnyH_take (i := 9) (oi := { dst := some 95, op := Op.binOp BinOp.neq 24 (Operand.tmp 94) (Operand.const (Value.int IntKind.i64 0)) 24, type := 4, pos := "law.go:107", after := #[{ on := 8, ground := Ground.data }, { on := 7, ground := Ground.guard }], guard := some (7, true) }) (v := ?vb9) rfl (by kernel_rfl) (by kernel_rfl) (by kernel_rfl) (fun _ _ _ h => h) (Or.inl ⟨by rfl, ?hb9⟩) (by assumption) ?rb9
                  case hb9 => (intro wz hSw; (try dsimp only at hSw); go_simp <;> with_reducible rfl)
                  try simp only [Act.put, List.setIfInBounds_toArray, List.set_cons_zero, List.set_cons_succ]
                  refine wpAnyH_take (i := 10) (oi := { dst := some 96, op := Op.move (Operand.tmp 95), type := 4, pos := "law.go:107", after := #[{ on := 9, ground := Ground.data }, { on := 7, ground := Ground.chain }, { on := 7, ground := Ground.guard }], guard := some (7, true) }) (v := ?vb10) rfl (by kernel_rfl) (by kernel_rfl) (by kernel_rfl) (fun _ _ _ h => h) (Or.inl ⟨by rfl, ?hb10⟩) (by assumption) ?rb10
                  case hb10 => (intro wz hSw; (try dsimp only at hSw); go_simp <;> with_reducible rfl)
                  try simp only [Act.put, List.setIfInBounds_toArray, List.set_cons_zero, List.set_cons_succ]
                  refine wpAnyH_take (i := 11) (oi := { dst := some 97, op := Op.load 40 (Operand.tmp 16), type := 40, pos := "law.go:107", after := #[{ on := 10, ground := Ground.guard }], guard := some (10, false) }) (v := ?vb11) rfl (by kernel_rfl) (by kernel_rfl) (by kernel_rfl) (fun _ _ _ h => h) (Or.inl ⟨by rfl, ?hb11⟩) (by assumption) ?rb11
                  case hb11 => (intro wz hSw; (try dsimp only at hSw); go_simp <;> with_reducible rfl)
                  try simp only [Act.put, List.setIfInBounds_toArray, List.set_cons_zero, List.set_cons_succ]
                  refine wpAnyH_take (i := 12) (oi := { dst := some 98, op := Op.move (Operand.tmp 11), type := 51, pos := "law.go:107", after := #[{ on := 10, ground := Ground.guard }], guard := some (10, false) }) (v := ?vb12) rfl (by kernel_rfl) (by kernel_rfl) (by kernel_rfl) (fun _ _ _ h => h) (Or.inl ⟨by rfl, ?hb12⟩) (by assumption) ?rb12
                  case hb12 => (intro wz hSw; (try dsimp only at hSw); go_simp <;> with_reducible rfl)
                  try simp only [Act.put, List.setIfInBounds_toArray, List.set_cons_zero, List.set_cons_succ]
                  refine wpAnyH_take (i := 13) (oi := { dst := some 99, op := Op.move (Operand.tmp 15), type := 3, pos := "law.go:107", after := #[{ on := 10, ground := Ground.guard }], guard := some (10, false) }) (v := ?vb13) rfl (by kernel_rfl) (by kernel_rfl) (by kernel_rfl) (fun _ _ _ h => h) (Or.inl ⟨by rfl, ?hb13⟩) (by assumption) ?rb13
                  case hb13 => (intro wz hSw; (try dsimp only at hSw); go_simp <;> with_reducible rfl)
                  try simp only [Act.put, List.setIfInBounds_toArray, List.set_cons_zero, List.set_cons_succ]
                  refine wpAnyH_take (i := 14) (oi := { dst := some 100, op := Op.indexAddr 51 (Operand.tmp 98) (Operand.tmp 99), type := 0, pos := "law.go:107", after := #[{ on := 12, ground := Ground.data }, { on := 13, ground := Ground.data }, { on := 10, ground := Ground.guard }], guard := some (10, false) }) (v := ?vb14) rfl (by kernel_rfl) (by kernel_rfl) (by kernel_rfl) (fun _ _ _ h => h) (Or.inl ⟨by rfl, ?hb14⟩) (by assumption) ?rb14
                  case hb14 => (intro wz hSw; (try dsimp only at hSw); go_simp <;> with_reducible rfl)
                  try simp only [Act.put, List.setIfInBounds_toArray, List.set_cons_zero, List.set_cons_succ]
                  refine wpAnyH_take (i := 15) (oi := { dst := some 101, op := Op.load 40 (Operand.tmp 100), type := 40, pos := "law.go:107", after := #[{ on := 14, ground := Ground.data }, { on := 10, ground := Ground.guard }], guard := some (10, false) }) (v := ?vb15) rfl (by kernel_rfl) (by kernel_rfl) (by kernel_rfl) (fun _ _ _ h => h) (Or.inl ⟨by rfl, ?hb15⟩) (by assumption) ?rb15
                  case hb15 => (intro wz hSw; (try dsimp only at hSw); go_simp <;> with_reducible rfl)
                  try simp only [Act.put, List.setIfInBounds_toArray, List.set_cons_zero, List.set_cons_succ]
                  refine wpAnyH_take (i := 16) (oi := { dst := some 102, op := Op.binOp BinOp.neq 40 (Operand.tmp 97) (Operand.tmp 101) 40, type := 4, pos := "law.go:107", after := #[{ on := 11, ground := Ground.data }, { on := 15, ground := Ground.data }, { on := 10, ground := Ground.guard }], guard := some (10, false) }) (v := ?vb16) rfl (by kernel_rfl) (by kernel_rfl) (by kernel_rfl) (fun _ _ _ h => h) (Or.inl ⟨by rfl, ?hb16⟩) (by assumption) ?rb16
                  case hb16 => (intro wz hSw; (try dsimp only at hSw); go_simp <;> with_reducible rfl)
                  try simp only [Act.put, List.setIfInBounds_toArray, List.set_cons_zero, List.set_cons_succ]
                  refine wpAnyH_take (i := 17) (oi := { dst := some 103, op := Op.pick (Operand.tmp 96) (Operand.const (Value.bool true)) (Operand.tmp 102), type := 4, pos := "law.go:107", after := #[{ on := 10, ground := Ground.data }, { on := 16, ground := Ground.data }, { on := 7, ground := Ground.guard }], guard := some (7, true) }) (v := ?vb17) rfl (by kernel_rfl) (by kernel_rfl) (by kernel_rfl) (fun _ _ _ h => h) (Or.inl ⟨by rfl, ?hb17⟩) (by assumption) ?rb17
                  case hb17 => (intro wz hSw; (try dsimp only at hSw); go_simp <;> with_reducible rfl)
                  try simp only [Act.put, List.setIfInBounds_toArray, List.set_cons_zero, List.set_cons_succ]
                  refine wpAnyH_take (i := 18) (oi := { dst := some 104, op := Op.pick (Operand.tmp 93) (Operand.tmp 103) (Operand.const (Value.bool false)), type := 4, pos := "law.go:107", after := #[{ on := 7, ground := Ground.data }, { on := 17, ground := Ground.data }], guard := none }) (v := ?vb18) rfl (by kernel_rfl) (by kernel_rfl) (by kernel_rfl) (fun _ _ _ h => h) (Or.inl ⟨by rfl, ?hb18⟩) (by assumption) ?rb18
                  case hb18 => (intro wz hSw; (try dsimp only at hSw); go_simp <;> with_reducible rfl)
                  try simp only [Act.put, List.setIfInBounds_toArray, List.set_cons_zero, List.set_cons_succ]
                  refine wpAnyH_done (by kernel_rfl) ?_ _
                  go_wp2
                  go_roundw
                  case rel => exact ⟨k7 + 1, by omega, by have q := OUT9.out; exact ⟨q.os, q.tape, q.output, q.size, q.block⟩, by go_num⟩
                  case measure => simp [intOf]; omega
              · have bl := P7.bel
                have KN7 : Hid (∀ _ : Unit, _) := fun _ => KN.out wr bl
                have BL : Hid (Below z w wr) := HBW.out wr bl
                have z7 : z ≤ wr.heap.size := by have := P7.size; have := HZS.out.1; omega
                clear P7 bl b7
                go_wp2_with fail
                refine (KN7.out ()).mono ?_
                rintro e w9 ⟨rfl, f9⟩
                go_wp2
                go_ret
                exact ⟨rfl, BL.out.trans (f9.mono z7)⟩
      · go_wp2_with fail
        refine (L1.out ()).mono ?_
        rintro e u3 ⟨l3, rfl, g3⟩
        have P3 : Hid (TP wa u3 s b 8 v O X) := P.out.keep g3.bel
        have ln : (li 32 O).length = (dn O).length := by rw [li_dn, List.length_map]
        obtain ⟨a3, c3, rfl⟩ := own_shape g3.own
        have OW : Hid (u3.ownsRow wo.heap.size 3 1 (.slice a3 (dn O).length c3) (dn O).length ((li 32 O).map (Value.int .i64))) := by have := g3.own; rw [ln] at this; exact this
        have SZ3 : Hid (wo.heap.size ≤ u3.heap.size) := g3.bel.size
        have LG : Hid (∀ k : Nat, (k : Int) < (dn O).length → (li 32 O).getD k 0 = (((dn O).getD k 0 : Nat) : Int) + 1 ∧ Sl.hs 32 O ((((dn O).getD k 0 : Nat) : Int) + 1) = true ∧ gtX O X ((((dn O).getD k 0 : Nat) : Int) + 1) = X ((dn O).getD k 0) ∧ (ths O X).take (k + 1) = (ths O X).take k ++ [X ((dn O).getD k 0)] ∧ (ths O X).getD k zt = X ((dn O).getD k 0)) := fun k hk => ⟨li_get O (by omega), (gt_kth O X (by omega)).1, (gt_kth O X (by omega)).2, ths_take O X (by omega), ths_get O X (by omega)⟩
        have TL : Hid (∀ k : Nat, ((ths O X).take k).length ≤ 32) := fun k => by rw [List.length_take, ths_len]; omega
        have TE : Hid ((ths O X).take (dn O).length = ths O X ∧ (ths O X).length = (dn O).length) := ⟨List.take_of_length_le (by rw [ths_len]; exact Nat.le_refl _), ths_len O X⟩
        rw [ln]
        clear g3 L1 ln P
        generalize (ths O X) = LT at *
        generalize hdn : (dn O).length = n at *
        go_wp2
        go_loopw [11, 12] (fun vw i wq => ∃ (k : Nat), (k : Int) ≤ n ∧ WG u3 wq vw (LT.take k) ∧ i = .int .i64 k) (fun _ i _ => n - (intOf i).toNat)
        case atStart => exact ⟨0, by omega, wg_start u3, rfl⟩
        case round =>
          obtain ⟨k3, hk3, wg, rfl⟩ := hrel
          by_cases h5 : (k3 : Int) < n
          · have ow5 := owns_keep (B := u3.heap.size) (S := []) OW.out (Fr.of_below wg.bel) (Nat.le_refl _) (by simp)
            obtain ⟨bb, rfl, hc⟩ := own_cell ow5 h5
            obtain ⟨lg1, lg2, lg3, lg4, -⟩ := LG.out k3 h5
            rw [lg1] at hc
            have G1 : Hid (∀ _ : Unit, _) := fun _ => thget_any ((((dn O).getD k3 0 : Nat) : Int) + 1) wr (P3.out.keep wg.bel).q
            rw [lg2, lg3, if_pos rfl] at G1
            have tl := TL.out k3
            obtain ⟨LK, hLK⟩ : ∃ LK, LT.take k3 = LK := ⟨_, rfl⟩
            rw [hLK] at tl wg lg4
            have sz5 := wg.bel.size
            have HWG : Hid (WG u3 wr _ LK) := wg
            have LG4 : Hid (LT.take (k3 + 1) = LK ++ [X ((dn O).getD k3 0)]) := lg4
            generalize X ((dn O).getD k3 0) = t at *
            generalize (((dn O).getD k3 0 : Nat) : Int) + 1 = nk at *
            unfold thv at G1
            clear lg1 lg2 lg3 lg4 ow5 wg hLK
            go_wp2_with fail
            refine (G1.out ()).mono ?_
            rintro e u4 ⟨rfl, f4⟩
            have OW4 : Hid (u4.ownsRow u3.heap.size 40 6 u11 LK.length (f6 LK)) := wg_own HWG.out f4
            have F4 : Hid (Below wr.heap.size wr u4) := f4
            have sz6 := f4.size
            clear f4
            go_wp2_with (at_builtin; refine wpList_append_own _ rfl _ _ 51 rfl u3.heap.size 40 i6 _ 6 40 Tryd.underlying51 hi6 hz60 hz61 hz62 rfl (by decide) _ _ _ rfl ((OW4.out.alloc _).alloc _) ⟨_, 0, none⟩ 1 1 (t6 t) rfl rfl ?c1 ?c2 ?c3 ?c4 ?c5 ?_)
            case c1 =>
              intro j u hj
              have q := (Blk.new (u4.alloc (.cells #[.int .i64 t.prio, .int .u64 (t.mask : Int), .int .i64 t.cpu, .bool t.forced, .bool t.sleeps, .int .i64 t.timer] 40)) (t6 t) 40).cell j
              rw [show (u4.alloc (.cells #[.int .i64 t.prio, .int .u64 (t.mask : Int), .int .i64 t.cpu, .bool t.forced, .bool t.sleeps, .int .i64 t.timer] 40)).heap.size = u4.heap.size + 1 by simp] at q
              rw [Addr.add_lit, Nat.zero_add]
              exact q.trans hj
            case c2 => intro u hu; simp only [t6, List.mem_cons, List.not_mem_nil, or_false] at hu; rcases hu with rfl | rfl | rfl | rfl | rfl | rfl <;> rfl
            case c3 => unfold maxLen; omega
            case c4 => omega
            case c5 => simp; omega
            intro v' w5 hown' hgrow _
            have G5 := wg_app HWG.out F4.out hown' hgrow
            rw [← LG4.out] at G5
            clear hown' hgrow
            go_wp2
            go_roundw
            case rel => exact ⟨k3 + 1, by omega, G5, by go_num⟩
            case measure => simp [intOf]; omega
          · obtain rfl : k3 = n := by omega
            rw [TE.out.1] at wg
            obtain ⟨wq, rfl⟩ : ∃ wq, wq = wr := ⟨_, rfl⟩
            obtain ⟨kc0, kc1, kc2, kc3, kc4, kc5⟩ := KB.out wq (P3.out.keep wg.bel).bel
            have DO : Hid (∀ _ : Unit, _) := fun _ => thdo2_any y0 y1 y2 y3 y4 y5 HY3.out wq (P3.out.keep wg.bel) TB.out
            have OW6 : Hid (∀ w6, Fr wq.heap.size (s :: (s + 1) :: (s + 2) :: b :: v.ownBlock.toList) wq w6 → w6.ownsRow wo.heap.size 3 1 (.slice a3 k3 c3) k3 ((li 32 O).map (Value.int .i64)) ∧ w6.ownsRow u3.heap.size 40 6 u11 LT.length (f6 LT)) := fun w6 f6' => by
              refine ⟨owns_keep (owns_keep (B := u3.heap.size) (S := []) OW.out (Fr.of_below wg.bel) (Nat.le_refl _) (by simp)) f6' (Nat.le_refl _) hzs.out, ?_⟩
              have ob : ∀ g, u11.ownBlock = some g → u3.heap.size ≤ g := fun g e => by
                rcases wg.own.2 with ⟨e1, _⟩ | ⟨g', cap, cur, e1, hb, _⟩
                · rw [e1] at e; cases e
                · rw [e1] at e
                  simp [Value.ownBlock] at e
                  omega
              exact owng_keep wg.own f6' fun g e => ⟨owng_lt wg.own e, fun q => by have := hzs.out g q; have := ob g e; have := SZ3.out; omega⟩
            obtain ⟨aw, cw, rfl⟩ := owng_shape wg.own
            clear wg
            go_wp2_with fail
            refine (DO.out ()).mono ?_
            rintro e u6 ⟨rfl, v6, O6, X6, p6, ap6, f6'⟩
            have P6 : Hid (TP wa u6 s b 8 v6 O6 X6) := p6
            have AP6 : Hid (Ap O X O6 X6 y1) := ap6
            obtain ⟨ol, ow⟩ := OW6.out u6 f6'
            have OL : Hid (u6.ownsRow wo.heap.size 3 1 (.slice a3 k3 c3) k3 ((li 32 O).map (Value.int .i64))) := ol
            have OWW : Hid (u6.ownsRow u3.heap.size 40 6 (.slice aw LT.length cw) LT.length (f6 LT)) := ow
            rw [TE.out.2]
            rw [TE.out.2] at OWW
            clear p6 ap6 f6' ol ow kc0 kc1 kc2 kc3 kc4 kc5 OW6 DO
            go_wp2
            go_loopw [15] (fun i wx => ∃ (k : Nat), (k : Int) ≤ k3 ∧ Below u6.heap.size u6 wx ∧ i = .int .i64 k) (fun i _ => k3 - (intOf i).toNat)
            case atStart => exact ⟨0, by omega, Below.refl _ _, rfl⟩
            case round =>
              obtain ⟨k7, hk7, b7, rfl⟩ := hrel
              have P7 := P6.out.keep b7
              by_cases h7 : (k7 : Int) < k3
              · obtain ⟨lg1, lg2, lg3, -, lg5⟩ := LG.out k7 h7
                have HAP : Hid ((((dn O).getD k7 0 : Nat) : Int) + 1 ≠ y1 → Sl.hs 32 O6 ((((dn O).getD k7 0 : Nat) : Int) + 1) = true ∧ X6 ((((dn O).getD k7 0 : Nat) : Int) + 1).toNat.pred = X ((dn O).getD k7 0)) := fun ne => by
                  obtain ⟨r1, r2⟩ := AP6.out _ lg2 ne
                  refine ⟨r1, ?_⟩
                  have e : ((((dn O).getD k7 0 : Nat) : Int) + 1).toNat - 1 = (dn O).getD k7 0 := by omega
                  rw [e] at r2
                  rw [← r2]
                  congr 1
                have ow7 := owns_keep (B := u6.heap.size) (S := []) OL.out (Fr.of_below b7) (Nat.le_refl _) (by simp)
                obtain ⟨bb, rfl, hc⟩ := own_cell ow7 h7
                rw [lg1] at hc
                have HC : Hid (∀ w8, Below wr.heap.size wr w8 → w8.cell? ⟨bb, k7, none⟩ = some (.int .i64 ((((dn O).getD k7 0 : Nat) : Int) + 1))) := fun w8 b8 => (b8.cell (p := ⟨bb, k7, none⟩) (World.block_lt_of_cell? wr ⟨bb, k7, none⟩ hc)).trans hc
                obtain ⟨gw, rfl, hgw, cw7⟩ := own6_at LT TE.out.2 (owng_keep (OWW.out) (Fr.of_below b7) fun g e => ⟨owng_lt OWW.out e, by simp⟩) (k := k7) (by omega)
                rw [lg5] at cw7
                obtain ⟨t, ht5⟩ : ∃ t, X ((dn O).getD k7 0) = t := ⟨_, rfl⟩
                rw [ht5] at cw7 HAP
                have HW7 : Hid (∀ w8, Below wr.heap.size wr w8 → w8.cell? ⟨gw, k7 * 6, none⟩ = some (.int .i64 t.prio) ∧ w8.cell? ⟨gw, k7 * 6 + 1, none⟩ = some (.int .u64 (t.mask : Int)) ∧ w8.cell? ⟨gw, k7 * 6 + 2, none⟩ = some (.int .i64 t.cpu) ∧ w8.cell? ⟨gw, k7 * 6 + 3, none⟩ = some (.bool t.forced) ∧ w8.cell? ⟨gw, k7 * 6 + 4, none⟩ = some (.bool t.sleeps) ∧ w8.cell? ⟨gw, k7 * 6 + 5, none⟩ = some (.int .i64 t.timer)) := fun w8 b8 => ⟨(b8.cell (p := ⟨gw, k7 * 6, none⟩) hgw).trans (cw7 0 (by omega)), (b8.cell (p := ⟨gw, k7 * 6 + 1, none⟩) hgw).trans (cw7 1 (by omega)), (b8.cell (p := ⟨gw, k7 * 6 + 2, none⟩) hgw).trans (cw7 2 (by omega)), (b8.cell (p := ⟨gw, k7 * 6 + 3, none⟩) hgw).trans (cw7 3 (by omega)), (b8.cell (p := ⟨gw, k7 * 6 + 4, none⟩) hgw).trans (cw7 4 (by omega)), (b8.cell (p := ⟨gw, k7 * 6 + 5, none⟩) hgw).trans (cw7 5 (by omega))⟩
                have HM : Hid (∀ w8, Below wr.heap.size wr w8 → w8.cell? ⟨z, 1, none⟩ = some (.int .i64 y1)) := fun w8 b8 => (KB.out w8 (P7.keep b8).bel).2.1
                have G7 : Hid (∀ _ : Unit, _) := fun _ => thget_any ((((dn O).getD k7 0 : Nat) : Int) + 1) wr P7.q
                obtain ⟨nk, hnk⟩ : ∃ nk, (((dn O).getD k7 0 : Nat) : Int) + 1 = nk := ⟨_, rfl⟩
                rw [hnk] at HAP HC hc G7
                by_cases hne : nk = y1
                · have e7 : (nk != y1) = false := by rw [hne]; simp
                  generalize gtX O6 X6 nk = t2 at *
                  generalize (if Sl.hs 32 O6 nk = true then (0 : Int) else 4) = ee at *
                  have OUT : Hid (∀ w8, Below wr.heap.size wr w8 → Below u6.heap.size u6 w8) := fun w8 b8 => b7.trans (b8.mono b7.size)
                  unfold thv at G7
                  clear lg1 lg2 lg3 lg5 ow7 cw7 P7 HAP hne hnk ht5
                  go_wp2_with fail
                  refine (G7.out ()).mono ?_
                  rintro e u8 ⟨rfl, f8⟩
                  have b9 : Below wr.heap.size wr (u8.alloc (.cells #[.int .i64 t2.prio, .int .u64 (t2.mask : Int), .int .i64 t2.cpu, .bool t2.forced, .bool t2.sleeps, .int .i64 t2.timer] 40)) := f8.alloc f8.size _
                  obtain ⟨u9, hu9⟩ : ∃ u9, u8.alloc (.cells #[.int .i64 t2.prio, .int .u64 (t2.mask : Int), .int .i64 t2.cpu, .bool t2.forced, .bool t2.sleeps, .int .i64 t2.timer] 40) = u9 := ⟨_, rfl⟩
                  have HU9 : Hid (u8.alloc (.cells #[.int .i64 t2.prio, .int .u64 (t2.mask : Int), .int .i64 t2.cpu, .bool t2.forced, .bool t2.sleeps, .int .i64 t2.timer] 40) = u9) := hu9
                  rw [hu9] at b9
                  have c9 := HC.out u9 b9
                  have m9 := HM.out u9 b9
                  have OUT9 : Hid (Below u6.heap.size u6 u9) := OUT.out u9 b9
                  clear f8 b9 hu9 hc
                  go_wp2_with fail
                  rw [HU9.out]
                  refine wp_region_held_drew (S := fun w' => w'.cell? ⟨bb, k7, none⟩ = some (.int .i64 nk) ∧ w'.cell? ⟨z, 1, none⟩ = some (.int .i64 y1)) (by kernel_rfl) (by go_keep) (fun hHeld => ?_)
                  refine wpAnyH_take (i := 0) (oi := { dst := some 86, op := Op.move (Operand.tmp 10), type := 36, pos := "law.go:107", after := #[], guard := none }) (v := ?vc0) rfl (by kernel_rfl) (by kernel_rfl) (by kernel_rfl) (fun _ _ _ h => h) (Or.inl ⟨by rfl, ?hc0⟩) (by assumption) ?rc0
                  case hc0 => (intro wz hSw; (try dsimp only at hSw); go_simp <;> with_reducible rfl)
                  try simp only [Act.put, List.setIfInBounds_toArray, List.set_cons_zero, List.set_cons_succ]
                  refine wpAnyH_take (i := 1) (oi := { dst := some 87, op := Op.move (Operand.tmp 15), type := 3, pos := "law.go:107", after := #[], guard := none }) (v := ?vc1) rfl (by kernel_rfl) (by kernel_rfl) (by kernel_rfl) (fun _ _ _ h => h) (Or.inl ⟨by rfl, ?hc1⟩) (by assumption) ?rc1
                  case hc1 => (intro wz hSw; (try dsimp only at hSw); go_simp <;> with_reducible rfl)
                  try simp only [Act.put, List.setIfInBounds_toArray, List.set_cons_zero, List.set_cons_succ]
                  refine wpAnyH_take (i := 2) (oi := { dst := some 88, op := Op.indexAddr 36 (Operand.tmp 86) (Operand.tmp 87), type := 0, pos := "law.go:107", after := #[{ on := 0, ground := Ground.data }, { on := 1, ground := Ground.data }], guard := none }) (v := ?vc2) rfl (by kernel_rfl) (by kernel_rfl) (by kernel_rfl) (fun _ _ _ h => h) (Or.inl ⟨by rfl, ?hc2⟩) (by assumption) ?rc2
                  case hc2 => (intro wz hSw; (try dsimp only at hSw); go_simp <;> with_reducible rfl)
                  try simp only [Act.put, List.setIfInBounds_toArray, List.set_cons_zero, List.set_cons_succ]
                  refine wpAnyH_take (i := 3) (oi := { dst := some 89, op := Op.load 3 (Operand.tmp 88), type := 3, pos := "law.go:107", after := #[{ on := 2, ground := Ground.data }], guard := none }) (v := ?vc3) rfl (by kernel_rfl) (by kernel_rfl) (by kernel_rfl) (fun _ _ _ h => h) (Or.inl ⟨by rfl, ?hc3⟩) (by assumption) ?rc3
                  case hc3 => (intro wz hSw; (try dsimp only at hSw); go_simp <;> with_reducible rfl)
                  try simp only [Act.put, List.setIfInBounds_toArray, List.set_cons_zero, List.set_cons_succ]
                  refine wpAnyH_take (i := 4) (oi := { dst := some 90, op := Op.fieldAddr 34 (Operand.tmp 3) 1, type := 0, pos := "law.go:107", after := #[], guard := none }) (v := ?vc4) rfl (by kernel_rfl) (by kernel_rfl) (by kernel_rfl) (fun _ _ _ h => h) (Or.inl ⟨by rfl, ?hc4⟩) (by assumption) ?rc4
                  case hc4 => (intro wz hSw; (try dsimp only at hSw); go_simp <;> with_reducible rfl)
                  try simp only [Act.put, List.setIfInBounds_toArray, List.set_cons_zero, List.set_cons_succ]
                  refine wpAnyH_take (i := 5) (oi := { dst := some 91, op := Op.load 3 (Operand.tmp 90), type := 3, pos := "law.go:107", after := #[{ on := 4, ground := Ground.data }], guard := none }) (v := ?vc5) rfl (by kernel_rfl) (by kernel_rfl) (by kernel_rfl) (fun _ _ _ h => h) (Or.inl ⟨by rfl, ?hc5⟩) (by assumption) ?rc5
                  case hc5 => (intro wz hSw; (try dsimp only at hSw); go_simp <;> with_reducible rfl)
                  try simp only [Act.put, List.setIfInBounds_toArray, List.set_cons_zero, List.set_cons_succ]
                  refine wpAnyH_take (i := 6) (oi := { dst := some 92, op := Op.binOp BinOp.neq 3 (Operand.tmp 89) (Operand.tmp 91) 3, type := 4, pos := "law.go:107", after := #[{ on := 3, ground := Ground.data }, { on := 5, ground := Ground.data }], guard := none }) (v := ?vc6) rfl (by kernel_rfl) (by kernel_rfl) (by kernel_rfl) (fun _ _ _ h => h) (Or.inl ⟨by rfl, ?hc6⟩) (by assumption) ?rc6
                  case hc6 => (intro wz hSw; (try dsimp only at hSw); go_simp <;> with_reducible rfl)
                  try simp only [Act.put, List.setIfInBounds_toArray, List.set_cons_zero, List.set_cons_succ]
                  refine wpAnyH_take (i := 7) (oi := { dst := some 93, op := Op.move (Operand.tmp 92), type := 4, pos := "law.go:107", after := #[{ on := 6, ground := Ground.data }], guard := none }) (v := ?vc7) rfl (by kernel_rfl) (by kernel_rfl) (by kernel_rfl) (fun _ _ _ h => h) (Or.inl ⟨by rfl, ?hc7⟩) (by assumption) ?rc7
                  case hc7 => (intro wz hSw; (try dsimp only at hSw); go_simp <;> with_reducible rfl)
                  try simp only [Act.put, List.setIfInBounds_toArray, List.set_cons_zero, List.set_cons_succ]
                  refine wpAnyH_take (i := 8) (oi := { dst := some 94, op := Op.move (Operand.tmp 17), type := 24, pos := "law.go:107", after := #[{ on := 7, ground := Ground.guard }], guard := some (7, true) }) (v := undef) rfl (by kernel_rfl) (by kernel_rfl) (by kernel_rfl) (fun _ _ _ h => h) (Or.inr ⟨by rfl, rfl⟩) (by assumption) ?_
                  try simp only [Act.put, List.setIfInBounds_toArray, List.set_cons_zero, List.set_cons_succ]
                  refine wpAnyH_take (i := 9) (oi := { dst := some 95, op := Op.binOp BinOp.neq 24 (Operand.tmp 94) (Operand.const (Value.int IntKind.i64 0)) 24, type := 4, pos := "law.go:107", after := #[{ on := 8, ground := Ground.data }, { on := 7, ground := Ground.guard }], guard := some (7, true) }) (v := undef) rfl (by kernel_rfl) (by kernel_rfl) (by kernel_rfl) (fun _ _ _ h => h) (Or.inr ⟨by rfl, rfl⟩) (by assumption) ?_
                  try simp only [Act.put, List.setIfInBounds_toArray, List.set_cons_zero, List.set_cons_succ]
                  refine wpAnyH_take (i := 10) (oi := { dst := some 96, op := Op.move (Operand.tmp 95), type := 4, pos := "law.go:107", after := #[{ on := 9, ground := Ground.data }, { on := 7, ground := Ground.chain }, { on := 7, ground := Ground.guard }], guard := some (7, true) }) (v := undef) rfl (by kernel_rfl) (by kernel_rfl) (by kernel_rfl) (fun _ _ _ h => h) (Or.inr ⟨by rfl, rfl⟩) (by assumption) ?_
                  try simp only [Act.put, List.setIfInBounds_toArray, List.set_cons_zero, List.set_cons_succ]
                  refine wpAnyH_take (i := 11) (oi := { dst := some 97, op := Op.load 40 (Operand.tmp 16), type := 40, pos := "law.go:107", after := #[{ on := 10, ground := Ground.guard }], guard := some (10, false) }) (v := undef) rfl (by kernel_rfl) (by kernel_rfl) (by kernel_rfl) (fun _ _ _ h => h) (Or.inr ⟨by rfl, rfl⟩) (by assumption) ?_
                  try simp only [Act.put, List.setIfInBounds_toArray, List.set_cons_zero, List.set_cons_succ]
                  refine wpAnyH_take (i := 12) (oi := { dst := some 98, op := Op.move (Operand.tmp 11), type := 51, pos := "law.go:107", after := #[{ on := 10, ground := Ground.guard }], guard := some (10, false) }) (v := undef) rfl (by kernel_rfl) (by kernel_rfl) (by kernel_rfl) (fun _ _ _ h => h) (Or.inr ⟨by rfl, rfl⟩) (by assumption) ?_
                  try simp only [Act.put, List.setIfInBounds_toArray, List.set_cons_zero, List.set_cons_succ]
                  refine wpAnyH_take (i := 13) (oi := { dst := some 99, op := Op.move (Operand.tmp 15), type := 3, pos := "law.go:107", after := #[{ on := 10, ground := Ground.guard }], guard := some (10, false) }) (v := undef) rfl (by kernel_rfl) (by kernel_rfl) (by kernel_rfl) (fun _ _ _ h => h) (Or.inr ⟨by rfl, rfl⟩) (by assumption) ?_
                  try simp only [Act.put, List.setIfInBounds_toArray, List.set_cons_zero, List.set_cons_succ]
                  refine wpAnyH_take (i := 14) (oi := { dst := some 100, op := Op.indexAddr 51 (Operand.tmp 98) (Operand.tmp 99), type := 0, pos := "law.go:107", after := #[{ on := 12, ground := Ground.data }, { on := 13, ground := Ground.data }, { on := 10, ground := Ground.guard }], guard := some (10, false) }) (v := undef) rfl (by kernel_rfl) (by kernel_rfl) (by kernel_rfl) (fun _ _ _ h => h) (Or.inr ⟨by rfl, rfl⟩) (by assumption) ?_
                  try simp only [Act.put, List.setIfInBounds_toArray, List.set_cons_zero, List.set_cons_succ]
                  refine wpAnyH_take (i := 15) (oi := { dst := some 101, op := Op.load 40 (Operand.tmp 100), type := 40, pos := "law.go:107", after := #[{ on := 14, ground := Ground.data }, { on := 10, ground := Ground.guard }], guard := some (10, false) }) (v := undef) rfl (by kernel_rfl) (by kernel_rfl) (by kernel_rfl) (fun _ _ _ h => h) (Or.inr ⟨by rfl, rfl⟩) (by assumption) ?_
                  try simp only [Act.put, List.setIfInBounds_toArray, List.set_cons_zero, List.set_cons_succ]
                  refine wpAnyH_take (i := 16) (oi := { dst := some 102, op := Op.binOp BinOp.neq 40 (Operand.tmp 97) (Operand.tmp 101) 40, type := 4, pos := "law.go:107", after := #[{ on := 11, ground := Ground.data }, { on := 15, ground := Ground.data }, { on := 10, ground := Ground.guard }], guard := some (10, false) }) (v := undef) rfl (by kernel_rfl) (by kernel_rfl) (by kernel_rfl) (fun _ _ _ h => h) (Or.inr ⟨by rfl, rfl⟩) (by assumption) ?_
                  try simp only [Act.put, List.setIfInBounds_toArray, List.set_cons_zero, List.set_cons_succ]
                  refine wpAnyH_take (i := 17) (oi := { dst := some 103, op := Op.pick (Operand.tmp 96) (Operand.const (Value.bool true)) (Operand.tmp 102), type := 4, pos := "law.go:107", after := #[{ on := 10, ground := Ground.data }, { on := 16, ground := Ground.data }, { on := 7, ground := Ground.guard }], guard := some (7, true) }) (v := undef) rfl (by kernel_rfl) (by kernel_rfl) (by kernel_rfl) (fun _ _ _ h => h) (Or.inr ⟨by rfl, rfl⟩) (by assumption) ?_
                  try simp only [Act.put, List.setIfInBounds_toArray, List.set_cons_zero, List.set_cons_succ]
                  refine wpAnyH_take (i := 18) (oi := { dst := some 104, op := Op.pick (Operand.tmp 93) (Operand.tmp 103) (Operand.const (Value.bool false)), type := 4, pos := "law.go:107", after := #[{ on := 7, ground := Ground.data }, { on := 17, ground := Ground.data }], guard := none }) (v := ?vc18) rfl (by kernel_rfl) (by kernel_rfl) (by kernel_rfl) (fun _ _ _ h => h) (Or.inl ⟨by rfl, ?hc18⟩) (by assumption) ?rc18
                  case hc18 => (intro wz hSw; (try dsimp only at hSw); go_simp <;> with_reducible rfl)
                  try simp only [Act.put, List.setIfInBounds_toArray, List.set_cons_zero, List.set_cons_succ]
                  refine wpAnyH_done (by kernel_rfl) ?_ _
                  go_wp2
                  go_roundw
                  case rel => exact ⟨k7 + 1, by omega, by have q := OUT9.out; exact ⟨q.os, q.tape, q.output, q.size, q.block⟩, by go_num⟩
                  case measure => simp [intOf]; omega
                · have e7 : (nk != y1) = true := by simpa using hne
                  obtain ⟨r1, r2⟩ := HAP.out hne
                  have gx : gtX O6 X6 nk = t := by
                    unfold gtX
                    rw [if_pos r1, ← r2]
                    congr 1
                  rw [gx, r1, if_pos rfl] at G7
                  have OUT : Hid (∀ w8, Below wr.heap.size wr w8 → Below u6.heap.size u6 w8) := fun w8 b8 => b7.trans (b8.mono b7.size)
                  unfold thv at G7
                  clear lg1 lg2 lg3 lg5 ow7 cw7 P7 HAP hne hnk ht5 r1 r2 gx
                  go_wp2_with fail
                  refine (G7.out ()).mono ?_
                  rintro e u8 ⟨rfl, f8⟩
                  have b9 : Below wr.heap.size wr (u8.alloc (.cells #[.int .i64 t.prio, .int .u64 (t.mask : Int), .int .i64 t.cpu, .bool t.forced, .bool t.sleeps, .int .i64 t.timer] 40)) := f8.alloc f8.size _
                  have k9 : Blk (u8.alloc (.cells #[.int .i64 t.prio, .int .u64 (t.mask : Int), .int .i64 t.cpu, .bool t.forced, .bool t.sleeps, .int .i64 t.timer] 40)) u8.heap.size [.int .i64 t.prio, .int .u64 (t.mask : Int), .int .i64 t.cpu, .bool t.forced, .bool t.sleeps, .int .i64 t.timer] 40 := Blk.new u8 _ _
                  obtain ⟨u9, hu9⟩ : ∃ u9, u8.alloc (.cells #[.int .i64 t.prio, .int .u64 (t.mask : Int), .int .i64 t.cpu, .bool t.forced, .bool t.sleeps, .int .i64 t.timer] 40) = u9 := ⟨_, rfl⟩
                  have HU9 : Hid (u8.alloc (.cells #[.int .i64 t.prio, .int .u64 (t.mask : Int), .int .i64 t.cpu, .bool t.forced, .bool t.sleeps, .int .i64 t.timer] 40) = u9) := hu9
                  rw [hu9] at b9 k9
                  obtain ⟨z9, hz9⟩ : ∃ z9, u8.heap.size = z9 := ⟨_, rfl⟩
                  have HZ9 : Hid (u8.heap.size = z9) := hz9
                  rw [hz9] at k9
                  have c9 := HC.out u9 b9
                  have m9 := HM.out u9 b9
                  obtain ⟨gw0, gw1, gw2, gw3, gw4, gw5⟩ := HW7.out u9 b9
                  obtain ⟨zc0, zc1, zc2, zc3, zc4, zc5⟩ : u9.cell? ⟨z9, 0, none⟩ = some (.int .i64 t.prio) ∧ u9.cell? ⟨z9, 1, none⟩ = some (.int .u64 (t.mask : Int)) ∧ u9.cell? ⟨z9, 2, none⟩ = some (.int .i64 t.cpu) ∧ u9.cell? ⟨z9, 3, none⟩ = some (.bool t.forced) ∧ u9.cell? ⟨z9, 4, none⟩ = some (.bool t.sleeps) ∧ u9.cell? ⟨z9, 5, none⟩ = some (.int .i64 t.timer) := ⟨k9.cell 0, k9.cell 1, k9.cell 2, k9.cell 3, k9.cell 4, k9.cell 5⟩
                  have OUT9 : Hid (Below u6.heap.size u6 u9) := OUT.out u9 b9
                  clear f8 b9 hu9 hc k9 hz9
                  go_wp2_with fail
                  rw [HU9.out, HZ9.out]
                  refine wp_region_held_drew (S := fun w' => w'.cell? ⟨bb, k7, none⟩ = some (.int .i64 nk) ∧ w'.cell? ⟨z, 1, none⟩ = some (.int .i64 y1) ∧ (w'.cell? ⟨z9, 0, none⟩ = some (.int .i64 t.prio) ∧ w'.cell? ⟨z9, 1, none⟩ = some (.int .u64 (t.mask : Int)) ∧ w'.cell? ⟨z9, 2, none⟩ = some (.int .i64 t.cpu) ∧ w'.cell? ⟨z9, 3, none⟩ = some (.bool t.forced) ∧ w'.cell? ⟨z9, 4, none⟩ = some (.bool t.sleeps) ∧ w'.cell? ⟨z9, 5, none⟩ = some (.int .i64 t.timer)) ∧ w'.cell? ⟨gw, k7 * 6, none⟩ = some (.int .i64 t.prio) ∧ w'.cell? ⟨gw, k7 * 6 + 1, none⟩ = some (.int .u64 (t.mask : Int)) ∧ w'.cell? ⟨gw, k7 * 6 + 2, none⟩ = some (.int .i64 t.cpu) ∧ w'.cell? ⟨gw, k7 * 6 + 3, none⟩ = some (.bool t.forced) ∧ w'.cell? ⟨gw, k7 * 6 + 4, none⟩ = some (.bool t.sleeps) ∧ w'.cell? ⟨gw, k7 * 6 + 5, none⟩ = some (.int .i64 t.timer)) (by kernel_rfl) (by go_keep) (fun hHeld => ?_)
                  refine wpAnyH_take (i := 0) (oi := { dst := some 86, op := Op.move (Operand.tmp 10), type := 36, pos := "law.go:107", after := #[], guard := none }) (v := ?vd0) rfl (by kernel_rfl) (by kernel_rfl) (by kernel_rfl) (fun _ _ _ h => h) (Or.inl ⟨by rfl, ?hd0⟩) (by assumption) ?rd0
                  case hd0 => (intro wz hSw; (try dsimp only at hSw); go_simp <;> with_reducible rfl)
                  try simp only [Act.put, List.setIfInBounds_toArray, List.set_cons_zero, List.set_cons_succ]
                  refine wpAnyH_take (i := 1) (oi := { dst := some 87, op := Op.move (Operand.tmp 15), type := 3, pos := "law.go:107", after := #[], guard := none }) (v := ?vd1) rfl (by kernel_rfl) (by kernel_rfl) (by kernel_rfl) (fun _ _ _ h => h) (Or.inl ⟨by rfl, ?hd1⟩) (by assumption) ?rd1
                  case hd1 => (intro wz hSw; (try dsimp only at hSw); go_simp <;> with_reducible rfl)
                  try simp only [Act.put, List.setIfInBounds_toArray, List.set_cons_zero, List.set_cons_succ]
                  refine wpAnyH_take (i := 2) (oi := { dst := some 88, op := Op.indexAddr 36 (Operand.tmp 86) (Operand.tmp 87), type := 0, pos := "law.go:107", after := #[{ on := 0, ground := Ground.data }, { on := 1, ground := Ground.data }], guard := none }) (v := ?vd2) rfl (by kernel_rfl) (by kernel_rfl) (by kernel_rfl) (fun _ _ _ h => h) (Or.inl ⟨by rfl, ?hd2⟩) (by assumption) ?rd2
                  case hd2 => (intro wz hSw; (try dsimp only at hSw); go_simp <;> with_reducible rfl)
                  try simp only [Act.put, List.setIfInBounds_toArray, List.set_cons_zero, List.set_cons_succ]
                  refine wpAnyH_take (i := 3) (oi := { dst := some 89, op := Op.load 3 (Operand.tmp 88), type := 3, pos := "law.go:107", after := #[{ on := 2, ground := Ground.data }], guard := none }) (v := ?vd3) rfl (by kernel_rfl) (by kernel_rfl) (by kernel_rfl) (fun _ _ _ h => h) (Or.inl ⟨by rfl, ?hd3⟩) (by assumption) ?rd3
                  case hd3 => (intro wz hSw; (try dsimp only at hSw); go_simp <;> with_reducible rfl)
                  try simp only [Act.put, List.setIfInBounds_toArray, List.set_cons_zero, List.set_cons_succ]
                  refine wpAnyH_take (i := 4) (oi := { dst := some 90, op := Op.fieldAddr 34 (Operand.tmp 3) 1, type := 0, pos := "law.go:107", after := #[], guard := none }) (v := ?vd4) rfl (by kernel_rfl) (by kernel_rfl) (by kernel_rfl) (fun _ _ _ h => h) (Or.inl ⟨by rfl, ?hd4⟩) (by assumption) ?rd4
                  case hd4 => (intro wz hSw; (try dsimp only at hSw); go_simp <;> with_reducible rfl)
                  try simp only [Act.put, List.setIfInBounds_toArray, List.set_cons_zero, List.set_cons_succ]
                  refine wpAnyH_take (i := 5) (oi := { dst := some 91, op := Op.load 3 (Operand.tmp 90), type := 3, pos := "law.go:107", after := #[{ on := 4, ground := Ground.data }], guard := none }) (v := ?vd5) rfl (by kernel_rfl) (by kernel_rfl) (by kernel_rfl) (fun _ _ _ h => h) (Or.inl ⟨by rfl, ?hd5⟩) (by assumption) ?rd5
                  case hd5 => (intro wz hSw; (try dsimp only at hSw); go_simp <;> with_reducible rfl)
                  try simp only [Act.put, List.setIfInBounds_toArray, List.set_cons_zero, List.set_cons_succ]
                  refine wpAnyH_take (i := 6) (oi := { dst := some 92, op := Op.binOp BinOp.neq 3 (Operand.tmp 89) (Operand.tmp 91) 3, type := 4, pos := "law.go:107", after := #[{ on := 3, ground := Ground.data }, { on := 5, ground := Ground.data }], guard := none }) (v := ?vd6) rfl (by kernel_rfl) (by kernel_rfl) (by kernel_rfl) (fun _ _ _ h => h) (Or.inl ⟨by rfl, ?hd6⟩) (by assumption) ?rd6
                  case hd6 => (intro wz hSw; (try dsimp only at hSw); go_simp <;> with_reducible rfl)
                  try simp only [Act.put, List.setIfInBounds_toArray, List.set_cons_zero, List.set_cons_succ]
                  refine wpAnyH_take (i := 7) (oi := { dst := some 93, op := Op.move (Operand.tmp 92), type := 4, pos := "law.go:107", after := #[{ on := 6, ground := Ground.data }], guard := none }) (v := ?vd7) rfl (by kernel_rfl) (by kernel_rfl) (by kernel_rfl) (fun _ _ _ h => h) (Or.inl ⟨by rfl, ?hd7⟩) (by assumption) ?rd7
                  case hd7 => (intro wz hSw; (try dsimp only at hSw); go_simp <;> with_reducible rfl)
                  try simp only [Act.put, List.setIfInBounds_toArray, List.set_cons_zero, List.set_cons_succ]
                  refine wpAnyH_take (i := 8) (oi := { dst := some 94, op := Op.move (Operand.tmp 17), type := 24, pos := "law.go:107", after := #[{ on := 7, ground := Ground.guard }], guard := some (7, true) }) (v := ?vd8) rfl (by kernel_rfl) (by kernel_rfl) (by kernel_rfl) (fun _ _ _ h => h) (Or.inl ⟨by rfl, ?hd8⟩) (by assumption) ?rd8
                  case hd8 => (intro wz hSw; (try dsimp only at hSw); go_simp <;> with_reducible rfl)
                  try simp only [Act.put, List.setIfInBounds_toArray, List.set_cons_zero, List.set_cons_succ]
                  refine wpAnyH_take (i := 9) (oi := { dst := some 95, op := Op.binOp BinOp.neq 24 (Operand.tmp 94) (Operand.const (Value.int IntKind.i64 0)) 24, type := 4, pos := "law.go:107", after := #[{ on := 8, ground := Ground.data }, { on := 7, ground := Ground.guard }], guard := some (7, true) }) (v := ?vd9) rfl (by kernel_rfl) (by kernel_rfl) (by kernel_rfl) (fun _ _ _ h => h) (Or.inl ⟨by rfl, ?hd9⟩) (by assumption) ?rd9
                  case hd9 => (intro wz hSw; (try dsimp only at hSw); go_simp <;> with_reducible rfl)
                  try simp only [Act.put, List.setIfInBounds_toArray, List.set_cons_zero, List.set_cons_succ]
                  refine wpAnyH_take (i := 10) (oi := { dst := some 96, op := Op.move (Operand.tmp 95), type := 4, pos := "law.go:107", after := #[{ on := 9, ground := Ground.data }, { on := 7, ground := Ground.chain }, { on := 7, ground := Ground.guard }], guard := some (7, true) }) (v := ?vd10) rfl (by kernel_rfl) (by kernel_rfl) (by kernel_rfl) (fun _ _ _ h => h) (Or.inl ⟨by rfl, ?hd10⟩) (by assumption) ?rd10
                  case hd10 => (intro wz hSw; (try dsimp only at hSw); go_simp <;> with_reducible rfl)
                  try simp only [Act.put, List.setIfInBounds_toArray, List.set_cons_zero, List.set_cons_succ]
                  refine wpAnyH_take (i := 11) (oi := { dst := some 97, op := Op.load 40 (Operand.tmp 16), type := 40, pos := "law.go:107", after := #[{ on := 10, ground := Ground.guard }], guard := some (10, false) }) (v := ?vd11) rfl (by kernel_rfl) (by kernel_rfl) (by kernel_rfl) (fun _ _ _ h => h) (Or.inl ⟨by rfl, ?hd11⟩) (by assumption) ?rd11
                  case hd11 => (intro wz hSw; (try dsimp only at hSw); go_simp <;> with_reducible rfl)
                  try simp only [Act.put, List.setIfInBounds_toArray, List.set_cons_zero, List.set_cons_succ]
                  refine wpAnyH_take (i := 12) (oi := { dst := some 98, op := Op.move (Operand.tmp 11), type := 51, pos := "law.go:107", after := #[{ on := 10, ground := Ground.guard }], guard := some (10, false) }) (v := ?vd12) rfl (by kernel_rfl) (by kernel_rfl) (by kernel_rfl) (fun _ _ _ h => h) (Or.inl ⟨by rfl, ?hd12⟩) (by assumption) ?rd12
                  case hd12 => (intro wz hSw; (try dsimp only at hSw); go_simp <;> with_reducible rfl)
                  try simp only [Act.put, List.setIfInBounds_toArray, List.set_cons_zero, List.set_cons_succ]
                  refine wpAnyH_take (i := 13) (oi := { dst := some 99, op := Op.move (Operand.tmp 15), type := 3, pos := "law.go:107", after := #[{ on := 10, ground := Ground.guard }], guard := some (10, false) }) (v := ?vd13) rfl (by kernel_rfl) (by kernel_rfl) (by kernel_rfl) (fun _ _ _ h => h) (Or.inl ⟨by rfl, ?hd13⟩) (by assumption) ?rd13
                  case hd13 => (intro wz hSw; (try dsimp only at hSw); go_simp <;> with_reducible rfl)
                  try simp only [Act.put, List.setIfInBounds_toArray, List.set_cons_zero, List.set_cons_succ]
                  refine wpAnyH_take (i := 14) (oi := { dst := some 100, op := Op.indexAddr 51 (Operand.tmp 98) (Operand.tmp 99), type := 0, pos := "law.go:107", after := #[{ on := 12, ground := Ground.data }, { on := 13, ground := Ground.data }, { on := 10, ground := Ground.guard }], guard := some (10, false) }) (v := ?vd14) rfl (by kernel_rfl) (by kernel_rfl) (by kernel_rfl) (fun _ _ _ h => h) (Or.inl ⟨by rfl, ?hd14⟩) (by assumption) ?rd14
                  case hd14 => (intro wz hSw; (try dsimp only at hSw); go_simp <;> with_reducible rfl)
                  try simp only [Act.put, List.setIfInBounds_toArray, List.set_cons_zero, List.set_cons_succ]
                  refine wpAnyH_take (i := 15) (oi := { dst := some 101, op := Op.load 40 (Operand.tmp 100), type := 40, pos := "law.go:107", after := #[{ on := 14, ground := Ground.data }, { on := 10, ground := Ground.guard }], guard := some (10, false) }) (v := ?vd15) rfl (by kernel_rfl) (by kernel_rfl) (by kernel_rfl) (fun _ _ _ h => h) (Or.inl ⟨by rfl, ?hd15⟩) (by assumption) ?rd15
                  case hd15 => (intro wz hSw; (try dsimp only at hSw); go_simp <;> with_reducible rfl)
                  try simp only [Act.put, List.setIfInBounds_toArray, List.set_cons_zero, List.set_cons_succ]
                  refine wpAnyH_take (i := 16) (oi := { dst := some 102, op := Op.binOp BinOp.neq 40 (Operand.tmp 97) (Operand.tmp 101) 40, type := 4, pos := "law.go:107", after := #[{ on := 11, ground := Ground.data }, { on := 15, ground := Ground.data }, { on := 10, ground := Ground.guard }], guard := some (10, false) }) (v := ?vd16) rfl (by kernel_rfl) (by kernel_rfl) (by kernel_rfl) (fun _ _ _ h => h) (Or.inl ⟨by rfl, ?hd16⟩) (by assumption) ?rd16
                  case hd16 => (intro wz hSw; (try dsimp only at hSw); go_simp <;> with_reducible rfl)
                  try simp only [Act.put, List.setIfInBounds_toArray, List.set_cons_zero, List.set_cons_succ]
                  refine wpAnyH_take (i := 17) (oi := { dst := some 103, op := Op.pick (Operand.tmp 96) (Operand.const (Value.bool true)) (Operand.tmp 102), type := 4, pos := "law.go:107", after := #[{ on := 10, ground := Ground.data }, { on := 16, ground := Ground.data }, { on := 7, ground := Ground.guard }], guard := some (7, true) }) (v := ?vd17) rfl (by kernel_rfl) (by kernel_rfl) (by kernel_rfl) (fun _ _ _ h => h) (Or.inl ⟨by rfl, ?hd17⟩) (by assumption) ?rd17
                  case hd17 => (intro wz hSw; (try dsimp only at hSw); go_simp <;> with_reducible rfl)
                  try simp only [Act.put, List.setIfInBounds_toArray, List.set_cons_zero, List.set_cons_succ]
                  refine wpAnyH_take (i := 18) (oi := { dst := some 104, op := Op.pick (Operand.tmp 93) (Operand.tmp 103) (Operand.const (Value.bool false)), type := 4, pos := "law.go:107", after := #[{ on := 7, ground := Ground.data }, { on := 17, ground := Ground.data }], guard := none }) (v := ?vd18) rfl (by kernel_rfl) (by kernel_rfl) (by kernel_rfl) (fun _ _ _ h => h) (Or.inl ⟨by rfl, ?hd18⟩) (by assumption) ?rd18
                  case hd18 => (intro wz hSw; (try dsimp only at hSw); go_simp <;> with_reducible rfl)
                  try simp only [Act.put, List.setIfInBounds_toArray, List.set_cons_zero, List.set_cons_succ]
                  refine wpAnyH_done (by kernel_rfl) ?_ _
                  go_wp2
                  go_roundw
                  case rel => exact ⟨k7 + 1, by omega, by have q := OUT9.out; exact ⟨q.os, q.tape, q.output, q.size, q.block⟩, by go_num⟩
                  case measure => simp [intOf]; omega
              · have bl := P7.bel
                have KN7 : Hid (∀ _ : Unit, _) := fun _ => KN.out wr bl
                have BL : Hid (Below z w wr) := HBW.out wr bl
                have z7 : z ≤ wr.heap.size := by have := P7.size; have := HZS.out.1; omega
                clear P7 bl b7
                go_wp2_with fail
                refine (KN7.out ()).mono ?_
                rintro e w9 ⟨rfl, f9⟩
                go_wp2
                go_ret
                exact ⟨rfl, BL.out.trans (f9.mono z7)⟩
    · obtain ⟨b0, off, rfl, hA⟩ := trow_cell (wr := wr) HR.out (by rw [HZ.out]; exact HBW.out wr p.bel) h
      have x0 : wr.cell? ⟨b0, off + k * 6, none⟩ = some (.int .i64 (X0 k 0)) := hA 0 (by decide)
      have x1 : wr.cell? ⟨b0, off + k * 6 + 1, none⟩ = some (.int .i64 (X0 k 1)) := hA 1 (by decide)
      have x2 : wr.cell? ⟨b0, off + k * 6 + 2, none⟩ = some (.int .i64 (X0 k 2)) := hA 2 (by decide)
      have x3 : wr.cell? ⟨b0, off + k * 6 + 3, none⟩ = some (.int .u64 (X0 k 3)) := hA 3 (by decide)
      have x4 : wr.cell? ⟨b0, off + k * 6 + 4, none⟩ = some (.int .i64 (X0 k 4)) := hA 4 (by decide)
      have x5 : wr.cell? ⟨b0, off + k * 6 + 5, none⟩ = some (.bool (X0 k 5 != 0)) := hA 5 (by decide)
      have hv3 : (Lit.int .u64 (X0 k 3)).wf = true := HW.out k (by omega)
      clear hA
      generalize X0 k 0 = q0 at *
      generalize X0 k 1 = q1 at *
      generalize X0 k 2 = q2 at *
      generalize X0 k 3 = q3 at *
      generalize X0 k 4 = q4 at *
      generalize (X0 k 5 != 0) = q5 at *
      obtain ⟨q3, rfl⟩ := Int.eq_ofNat_of_zero_le (show 0 ≤ q3 from (bounds_u64 hv3).1)
      have hq3 : q3 < 18446744073709551616 := by have := (bounds_u64 hv3).2; omega
      have C1 : Hid (∀ _ : Unit, _) := fun _ => thdo_any q0 q1 q2 q3 q4 q5 hq3 wr p TB.out
      clear p hv3 hq3
      go_wp2_with fail
      refine (C1.out ()).mono ?_
      rintro e u3 ⟨rfl, v3, O3, X3, p3⟩
      clear x0 x1 x2 x3 x4 x5 C1
      go_wp2
      go_roundw
      case rel => exact ⟨k + 1, O3, X3, v3, by omega, by omega, p3, by go_num⟩
      case measure => simp [intOf]; omega

set_option maxRecDepth 100000 in
theorem lifted (os : Os) (started : os.Started) (H : Type) (enc : TypeId × Value → H) :
    ReturnsInHanded {} Tryd.checked os 4 .any (fun w args => (Rows.threadApartSpec.pre enc Tryd.prog Tryd.f4 [] false w args ∧ laidMetH Tryd.prog laidTab w) ∧ sizedMet enc Tryd.prog Tryd.f4 (OpenSpec.ofChange Rows.threadApartSpec) false w args)
      (Rows.threadApartSpec.post enc Tryd.prog Tryd.f4 false true false false) := by
  refine returnsInHanded_of_change_and (C := Tryd.checked) (X := fun w _ => laidMetH Tryd.prog laidTab w) (fun _ _ _ hh h => h.of_heap hh) own started (by kernel_rfl) Tryd.func4
    (ChangeSpec.witness_shaped (enc := enc) (C := Tryd.checked) (os := os) (X := fun w _ => laidMetH Tryd.prog laidTab w) false (World.doorLaid Tryd.prog 400 os) #[.slice none 0 0, .agg #[.int .i64 0, .int .i64 0, .int .i64 0, .int .u64 0, .int .i64 0, .bool false]] 8 rfl (World.shaped_of_RefB (by kernel_rfl) (by kernel_rfl)) (by kernel_rfl) (by kernel_rfl) (by kernel_rfl) (door_met os _)) ?_
  intro W base args ds gs before hval0 hW _ _ hL _
  have hval : ∀ (j : Nat) t v, Tryd.f4.params[j]? = some t → args[j]? = some v → Value.okWide Tryd.prog W .any base t v := hval0
  have hW' := hW
  obtain ⟨p, q, hA0, hV, rfl, hfz, hnd⟩ := hW
  have hA : DataW.TrodAll enc Tryd.prog W 0 (fun _ => true) true Tryd.f4.params.toList args.toList ds p := hA0
  rw [Tryd.params4] at hA hval
  obtain ⟨v0, vs0, d0, ds0, p0, q0, hargs, rfl, rfl, h0, r0⟩ := trodAll_cons hA
  obtain ⟨v1, vs1, d1, ds1, p1, q1, rfl, rfl, rfl, h1, r1⟩ := trodAll_cons r0
  obtain ⟨rfl, rfl, rfl⟩ := trodAll_nil r1
  obtain rfl : args = #[v0, v1] := by cases args; simp_all
  obtain ⟨rfl, rfl⟩ := trodVars_none hV
  obtain ⟨a0, len0, cap0, rfl⟩ := okWide_slice Tryd.underlying22 (hval 0 22 v0 rfl rfl)
  have k0 := h0
  have lt0 : ∀ x ∈ p0, x.block < W.heap.size := by obtain ⟨m, hm⟩ := k0; exact DataW.trod_lt m _ _ _ hm
  obtain ⟨X0, w0, z0⟩ : ∃ X : Nat → Nat → Int, TRow W (.slice a0 len0 cap0) len0 [1, 1, 1, 2, 1, 0] X ∧ ∀ i, i < len0 → ∀ j, j < [1, 1, 1, 2, 1, 0].length → kwf ([1, 1, 1, 2, 1, 0].getD j 1) (X i j) := by
    obtain ⟨fuel, hf⟩ := h0
    exact open_recx [1, 1, 1, 2, 1, 0] Tryd.underlying22 Tryd.underlying34 (by kernel_rfl) rfl (by decide) (fun | 0, _ => ⟨_, rfl, rfl, by kernel_rfl, Tryd.underlying3⟩ | 1, _ => ⟨_, rfl, rfl, by kernel_rfl, Tryd.underlying3⟩ | 2, _ => ⟨_, rfl, rfl, by kernel_rfl, Tryd.underlying3⟩ | 3, _ => ⟨_, rfl, rfl, by kernel_rfl, Tryd.underlying32⟩ | 4, _ => ⟨_, rfl, rfl, by kernel_rfl, Tryd.underlying3⟩ | 5, _ => ⟨_, rfl, rfl, by kernel_rfl, Tryd.underlying4⟩ | n + 6, h => absurd h (by simp only [List.length]; omega)) hf
  have k1 := h1
  have lt1 : ∀ x ∈ p1, x.block < W.heap.size := by obtain ⟨m, hm⟩ := k1; exact DataW.trod_lt m _ _ _ hm
  obtain ⟨X1, e1, z1⟩ := open_rec [1, 1, 1, 2, 1, 0] Tryd.underlying34 (by kernel_rfl) rfl (fun | 0, _ => ⟨_, rfl, rfl, by kernel_rfl, Tryd.underlying3⟩ | 1, _ => ⟨_, rfl, rfl, by kernel_rfl, Tryd.underlying3⟩ | 2, _ => ⟨_, rfl, rfl, by kernel_rfl, Tryd.underlying3⟩ | 3, _ => ⟨_, rfl, rfl, by kernel_rfl, Tryd.underlying32⟩ | 4, _ => ⟨_, rfl, rfl, by kernel_rfl, Tryd.underlying3⟩ | 5, _ => ⟨_, rfl, rfl, by kernel_rfl, Tryd.underlying4⟩ | n + 6, h => absurd h (by simp only [List.length]; omega)) (hval 1 34 v1 rfl rfl) h1
  have e1 : v1 = .agg #[.int .i64 (X1 0), .int .i64 (X1 1), .int .i64 (X1 2), .int .u64 (X1 3), .int .i64 (X1 4), .bool (X1 5 != 0)] := e1
  subst e1
  obtain ⟨hT, hS⟩ := of_laid hL
  clear hA0 hval0
  refine (walk a0 len0 cap0 X0 X1 W w0 z0 z1 hT hS).mono fun e W' ⟨he, bel⟩ => ?_
  subst he
  exact ⟨_, rfl, _, _, _, [], _, [], hW', trodAll_mk1 (shut_bool Tryd.underlying4 _), (trodAll_cons_mk (Below.trod laidOut (by kernel_rfl) (of_decide_eq_true (by kernel_rfl)) k0 bel lt0) (trodAll_cons_mk (Below.trod laidOut (by kernel_rfl) (of_decide_eq_true (by kernel_rfl)) k1 bel lt1) trodAll_mk0)), rfl, bel.frame _, fun h => by cases h⟩

theorem over : Rows.ThreadApartSaid :=
  OpenClaim.holds_of_wide 4 Tryd.f4 rfl rfl rfl rfl rfl rfl rfl ⟨rfl, rfl, rfl, rfl, rfl⟩ rfl rfl rfl rfl rfl (by kernel_rfl) Tryd.func4 (by kernel_rfl)
    (of_decide_eq_true (by kernel_rfl)) (by unfold Func.isWrapper; first | (rw [if_pos (by decide +kernel)]; kernel_rfl) | (rw [if_neg (by decide +kernel)]; exact ⟨rfl, rfl⟩))
    (fun os started H enc _ => lifted os started H enc)
end Go.Proofs.YtghnpmkibnggeaaDoor.threadApart

namespace Go.Proofs.YtghnpmkibnggeaaDoor
open Go
theorem threadApart_card : Rows.ThreadApartCardSaid :=
  Claim7.holds_tied_plain_at .later [] [.data] true (true, "80b54aa34c40d67ba7f3d0bdc9eb09b27652aeb5d06e49ed2193b15d49b868c6") false
    threadApart.over (fun _ h => by cases h) (by kernel_rfl) (fun _ h => by cases h) threadApart_row_tie rfl ⟨rfl, rfl⟩ (by kernel_rfl) rfl
    (fun f fn hf hfn => by
      obtain rfl : f = 4 := Option.some.inj ((show Tryd.prog.funcNamed "davit/davitlaw11.ThreadApart" = some 4 by kernel_rfl).symm.trans hf) |>.symm
      obtain rfl : fn = Tryd.f4 := (Option.some.inj (Tryd.func4.symm.trans hfn)).symm
      exact ⟨by kernel_rfl, fun j t ht => by
        rw [Tryd.params4] at ht
        have hm : t ∈ [22, 34] := by simpa using Array.mem_of_getElem? ht
        have hall : ([22, 34].all fun u => !Tryd.prog.wantsStandIn u) = true := by kernel_rfl
        exact (show Tryd.prog.wantsStandIn t = false by simpa using List.all_eq_true.1 hall t hm)⟩)
    (by kernel_rfl)
#print axioms threadApart_card
end Go.Proofs.YtghnpmkibnggeaaDoor
