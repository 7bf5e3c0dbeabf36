/- Proved: for all numbers cpus and pages and every list acts, davitlaw08.StashOnce(cpus, pages, acts) returns true: each object is at one place, free in the pool, kept by one core or handed out, and together they are all (120 acts at most, as the law itself says), and acts is left alone, with no condition. -/
import Derived.Test.YtibajjidigmkhaaRows
import Derived.Test.YtibajjidigmkhaaFo
import Derived.Test.YtibajjidigmkhaaHj
import Derived.WalkKit
import Derived.ProofKit
import Derived.OpenShut
import Derived.Stop.Joined
import Derived.ShutString
import Derived.ChangeOld
import Derived.Below
import Derived.Carry
import Derived.Test.YtibajjidigmkhaaFs
import Derived.Deep.RegionHeld3
namespace Go.Proofs.Ytibajjidigmkhaa.stashOnce
open Go.ChangeShapes Go.WideShapes Go.ChangeAt Go.RowKit
open Om Hm
set_option linter.unusedVariables false
set_option linter.unusedSimpArgs false

theorem own : ownKnob Try.prog.godebug = none := by kernel_rfl
theorem laidOut : laidOutB Try.prog = true := by kernel_rfl

set_option maxRecDepth 100000 in
set_option maxHeartbeats 4000000 in
theorem walk (a0 : Int) (a1 : Int) (a2 : Option Addr) (len2 cap2 : Nat) (X2 : Nat → Nat → Int) (w : World) (w0 : (Lit.int .i64 a0).wf = true) (w1 : (Lit.int .i64 a1).wf = true) (w2 : SRow w (.slice a2 len2 cap2) len2 [true, true, true] X2) (z2 : ∀ i, i < len2 → ∀ j, j < [true, true, true].length → [true, true, true].getD j true = true → (Lit.int .i64 (X2 i j)).wf = true) :
    Calls Try.prog 7 #[.int .i64 a0, .int .i64 a1, .slice a2 len2 cap2] w fun e w' => e = .returned (.bool true) ∧ Below w.heap.size w w' := by
  have KN : Hid (∀ w, _) := fun w => sknown_yes w
  by_cases wrong : (a0 < 1 ∨ 64 < a0) ∨ (a1 < 1 ∨ 12 < a1)
  · have C : Hid (∀ w, _) := fun w => snew_bad a0 a1 w wrong
    clear w0 w1 w2 z2
    by_cases g1 : a0 < 1
    · go_enter Try.func7, Try.ntmps7
      go_wp2_with fail
      refine (C.out _).mono ?_
      rintro e u1 ⟨rfl, rfl⟩
      go_wp2_with fail
      refine (KN.out _).mono ?_
      rintro e u1 ⟨rfl, hb⟩
      go_wp2
      go_ret
      exact ⟨rfl, hb⟩
    · by_cases g2 : 64 < a0
      · go_enter Try.func7, Try.ntmps7
        go_wp2_with fail
        refine (C.out _).mono ?_
        rintro e u1 ⟨rfl, rfl⟩
        go_wp2_with fail
        refine (KN.out _).mono ?_
        rintro e u1 ⟨rfl, hb⟩
        go_wp2
        go_ret
        exact ⟨rfl, hb⟩
      · by_cases g3 : a1 < 1
        · go_enter Try.func7, Try.ntmps7
          go_wp2_with fail
          refine (C.out _).mono ?_
          rintro e u1 ⟨rfl, rfl⟩
          go_wp2_with fail
          refine (KN.out _).mono ?_
          rintro e u1 ⟨rfl, hb⟩
          go_wp2
          go_ret
          exact ⟨rfl, hb⟩
        · have g4 : 12 < a1 := by omega
          clear wrong
          go_enter Try.func7, Try.ntmps7
          go_wp2_with fail
          refine (C.out _).mono ?_
          rintro e u1 ⟨rfl, rfl⟩
          go_wp2_with fail
          refine (KN.out _).mono ?_
          rintro e u1 ⟨rfl, hb⟩
          go_wp2
          go_ret
          exact ⟨rfl, hb⟩
  · obtain ⟨n, rfl⟩ := Int.eq_ofNat_of_zero_le (show 0 ≤ a0 by omega)
    obtain ⟨m, rfl⟩ := Int.eq_ofNat_of_zero_le (show 0 ≤ a1 by omega)
    have n1 : (1 : Int) ≤ n := by omega
    have n2 : (n : Int) ≤ 64 := by omega
    have m1 : (1 : Int) ≤ m := by omega
    have m2 : (m : Int) ≤ 12 := by omega
    have C : Hid (∀ _ : Unit, _) := fun _ => snew_any n m w n1 n2 m1 m2
    have HR : Hid (SRow w (.slice a2 len2 cap2) len2 [true, true, true] X2) := w2
    obtain ⟨s, hs⟩ : ∃ s, w.heap.size = s := ⟨_, rfl⟩
    have HS : Hid (w.heap.size = s) := hs
    rw [hs] at C ⊢
    clear wrong w0 w1 w2 z2 hs
    go_enter Try.func7, Try.ntmps7
    go_wp2_with fail
    refine (C.out ()).mono ?_
    rintro e u1 ⟨b, pb, lb, V0, rfl, h0, up, f0⟩
    have SW0 : Hid (SW w u1 s b pb lb n m (List.replicate 12 0) V0 (List.replicate n []) ∧ Kv m (List.replicate 12 0) (List.replicate n [])) := ⟨⟨h0, f0.below (by simp), up⟩, kv_new m n h0.po.pg⟩
    clear h0 up f0 C
    go_wp2
    go_loopw [9] (fun i wr => ∃ (k : Nat) (A : List Nat) (V : List Value) (K : List (List Int)), (k : Int) ≤ 120 ∧ (k : Int) ≤ len2 ∧ SW w wr s b pb lb n m A V K ∧ Kv m A K ∧ i = .int .i64 k) (fun i _ => 120 - (intOf i).toNat)
    case atStart => exact ⟨0, _, _, _, by omega, by omega, SW0.out.1, SW0.out.2, rfl⟩
    case round =>
      obtain ⟨k, A, V, K, hk, hk2, sw, kv, rfl⟩ := hrel
      clear SW0
      have HH : Hid (SW w wr s b pb lb n m A V K ∧ Kv m A K) := ⟨sw, kv⟩
      have tail : (¬ (k : Int) < len2 ∧ decide ((k : Int) < len2) = false) ∨ ((k : Int) < len2 ∧ ¬ (k : Int) < 120) ∨ ((k : Int) < len2 ∧ (k : Int) < 120) := by
        by_cases h : (k : Int) < len2
        · by_cases h2 : (k : Int) < 120
          · exact Or.inr (Or.inr ⟨h, h2⟩)
          · exact Or.inr (Or.inl ⟨h, h2⟩)
        · exact Or.inl ⟨h, decide_eq_false h⟩
      rw [← or_assoc] at tail
      rcases tail with tail | ⟨h, h2⟩
      · have LEN := lk_len kv sw.h.st.kn
        have MEM : Hid (∀ x ∈ lk m A K n, 1 ≤ x ∧ x ≤ 8 * m) := fun x hx => ou_range ((lk_mem kv sw.h.st.kn x).1 hx)
        have NDP : Hid (lk m A K n).Nodup := lk_nodup kv n
        have LLE : Hid (∀ c, (lk m A K c).length ≤ 96) := fun c => lk_le kv c
        have LKS : Hid (∀ c, lk m A K (c + 1) = lk m A K c ++ ks K c) := fun c => lk_succ m A K c
        have KL : Hid (∀ c, (ks K c).length ≤ 4) := kv.kl
        have LK0 : Hid (ol m A K 96 = lk m A K 0) := by unfold lk; simp [Hid]
        obtain ⟨nb, hnb⟩ : ∃ nb, 8 * m + 1 = nb := ⟨_, rfl⟩
        have NB : Hid (8 * m + 1 = nb) := hnb
        have hnbI : 8 * (m : Int) + 1 = (nb : Int) := by omega
        have hmk := run_make_row' (P := Try.prog) 39 4 (.bool false) 1 Try.underlying39 Try.infoB rfl .i64 .i64 nb (by omega) (by omega)
        rw [made_bool] at hmk
        obtain ⟨Z, hZ⟩ : ∃ Z : List Value, (List.replicate nb false).map Value.bool = Z := ⟨_, rfl⟩
        rw [hZ] at hmk
        have SB0 : Hid (Blk (wr.alloc (.cells Z.toArray 4)) wr.heap.size ((sn m (lk m A K n) 0).map Value.bool) 4) := by rw [sn_zero, hnb, hZ]; exact Blk.new wr Z 4
        have SA : Hid (SW w (wr.alloc (.cells Z.toArray 4)) s b pb lb n m A V K) := sw.keep (((Fr.refl wr.heap.size [] wr).alloc (Nat.le_refl _) _).below (by simp))
        have C1 : Hid (∀ _ : Unit, _) := fun _ => sout_any (wr.alloc (.cells Z.toArray 4)) SA.out.h kv.kl
        rw [LK0.out] at C1
        have C2 : Hid (∀ (wx : World) (c : Nat), SH wx b pb lb n m A V K → c < n → _) := fun wx c hx hc => skept_core c wx hx hc kv.kl
        have C3 : Hid (∀ (wx : World), SH wx b pb lb n m A V K → _) := fun wx hx => sfree_any wx hx
        obtain ⟨i0, hi, hz0, hz1, hz2⟩ := info_parts Try.info3
        obtain ⟨bs, hbs⟩ : ∃ bs, wr.heap.size = bs := ⟨_, rfl⟩
        have ZA : Hid (bs < (wr.alloc (.cells Z.toArray 4)).heap.size) := by unfold Hid; simp; omega
        rw [hbs] at SB0
        obtain ⟨f, hf⟩ : ∃ f, fr m A = f := ⟨_, rfl⟩
        rw [hf] at LEN C3
        clear sw kv hZ hnb hf
        rcases tail with ⟨h, hd⟩ | ⟨h, h2⟩
        all_goals (
          go_wp2_with fail
          refine (C1.out ()).mono ?_
          rintro e u2 ⟨v2, rfl, g2⟩
          have S2 : Hid (SW w u2 s b pb lb n m A V K) := SA.out.keep g2.bel
          have G2 : Hid (Gt (wr.alloc (.cells Z.toArray 4)) u2 v2 (lk m A K 0)) := g2
          have B2 : Hid (Blk u2 bs ((sn m (lk m A K n) 0).map Value.bool) 4) := SB0.out.keep (Fr.of_below g2.bel) ZA.out (by simp)
          clear g2
          generalize (wr.alloc (.cells Z.toArray 4)) = wa at *
          obtain ⟨wo, rfl⟩ : ∃ wo, wo = wr := ⟨_, rfl⟩
          go_wp2
          go_loopw [11, 12] (fun v i wx => ∃ (c : Nat) (vv : Value), vv = v ∧ (c : Int) ≤ n ∧ SW w wx s b pb lb n m A V K ∧ Gt wa wx vv (lk m A K c) ∧ Blk wx bs ((sn m (lk m A K n) 0).map Value.bool) 4 ∧ i = .int .i64 c) (fun _ i _ => n - (intOf i).toNat)
          case atStart => exact ⟨0, _, rfl, by omega, S2.out, G2.out, B2.out, rfl⟩
          case round =>
            obtain ⟨c, v, rfl, hc, sw2, g3, b3, rfl⟩ := hrel
            have H2 : Hid (SW w wr s b pb lb n m A V K ∧ Gt wa wr v (lk m A K c) ∧ Blk wr bs ((sn m (lk m A K n) 0).map Value.bool) 4) := ⟨sw2, g3, b3⟩
            by_cases l : (c : Int) < n
            · have D1 : Hid (∀ _ : Unit, _) := fun _ => C2.out wr c sw2.h (by omega)
              obtain ⟨p, hp⟩ : ∃ p, (ks K c).length = p := ⟨_, rfl⟩
              have HP : Hid ((ks K c).length = p) := hp
              have p4 : (p : Int) ≤ 4 := by have := KL.out c; omega
              have gl : ((lk m A K c).length : Int) ≤ 96 := by have := LLE.out c; omega
              rw [hp] at D1
              clear hp sw2 g3 b3
              go_wp2_with fail
              refine (D1.out ()).mono ?_
              rintro e u3 ⟨rfl, g4⟩
              have S3 : Hid (SW w u3 s b pb lb n m A V K) := H2.out.1.keep g4.bel
              have sz : wr.heap.size ≤ u3.heap.size := g4.bel.size
              have sz0 : wa.heap.size ≤ wr.heap.size := H2.out.2.1.bel.size
              have B3 : Hid (Blk u3 bs ((sn m (lk m A K n) 0).map Value.bool) 4) := H2.out.2.2.keep (Fr.of_below g4.bel) H2.out.2.2.lt (by simp)
              have O3 : Hid (u3.ownsRow wa.heap.size 3 1 v (lk m A K c).length ((lk m A K c).map (Value.int .i64))) := owns_keep H2.out.2.1.own (Fr.of_below g4.bel) (Nat.le_refl _) (by simp)
              have N3 : Hid (∀ j u, ((ks K c).map (Value.int .i64))[j]? = some u → u3.cell? ((⟨wr.heap.size, 0, none⟩ : Addr).add j) = some u) := fun j u hj => by
                have r := row_of_owns g4.own
                rcases r with ⟨e, _⟩ | ⟨gb, off, cp, hv, _, hcell⟩
                · rw [e] at hj
                  simp at hj
                · simp only [Value.slice.injEq, Option.some.injEq, Addr.mk.injEq] at hv
                  obtain ⟨⟨rfl, rfl, _⟩, _⟩ := hv
                  have hj2 : j < (ks K c).length := by
                    have := (List.getElem?_eq_some_iff.1 hj).1
                    simpa using this
                  rw [getD_map_int _ j hj2] at hj
                  rw [Addr.add_lit, hcell j hj2]
                  exact hj
              have BE3 : Hid (Below wa.heap.size wa u3) := H2.out.2.1.bel.trans (g4.bel.mono sz0)
              have N1 : Hid (((ks K c).map (Value.int .i64)).length = p * 1) := by have := HP.out; unfold Hid; simp; exact this
              have OC : Hid (∀ u ∈ (ks K c).map (Value.int .i64), u.oneCell' = true) := ints_one _
              clear g4
              go_wp2_with (at_builtin; refine wpList_append_own _ rfl _ _ 22 rfl wa.heap.size 3 i0 (.int .i64 0) 1 8 Try.underlying22 hi hz0 hz1 hz2 rfl (by decide) _ _ _ rfl O3.out ⟨wr.heap.size, 0, none⟩ p p ((ks K c).map (Value.int .i64)) rfl N1.out N3.out OC.out ?c3 ?c4 ?c5 ?_)
              case c3 => unfold maxLen; omega
              case c4 => omega
              case c5 => omega
              intro v' w1 hown' hgrow _
              have F1 : Fr wa.heap.size [] u3 w1 := (Fr.refl wa.heap.size [] u3).grown hgrow (by omega) fun k hk => Or.inl (O3.out.lt k hk).1
              have G5 : Hid (Gt wa w1 v' (lk m A K (c + 1))) := by
                refine ⟨?_, BE3.out.trans (F1.below (by simp))⟩
                rw [LKS.out, List.length_append, HP.out, List.map_append]
                exact hown'
              have B5 : Hid (Blk w1 bs ((sn m (lk m A K n) 0).map Value.bool) 4) := B3.out.keep F1 ZA.out (by simp)
              have S5 : Hid (SW w w1 s b pb lb n m A V K) := by
                have hq := S3.out.h
                have z := SA.out.h
                have e1 : ∀ g ∈ bl V, g < wa.heap.size := fun g hg => z.st.bl_lt hg
                have k1 := z.keep (Fr.of_below (BE3.out.trans (F1.below (by simp)))) (Nat.le_refl _) (by simp) (by simp) (by simp) (by simp)
                exact ⟨k1, S3.out.bel.trans ((F1.less SA.out.le).below (by simp)), S3.out.up⟩
              clear hown' hgrow F1
              go_wp2
              go_roundw
              case rel => exact ⟨c + 1, v', rfl, by omega, S5.out, G5.out, B5.out, by go_num⟩
              case measure => simp [intOf]; omega
            · obtain rfl : c = n := by omega
              obtain ⟨L, hL⟩ : ∃ L, lk m A K c = L := ⟨_, rfl⟩
              rw [hL] at H2 LEN MEM NDP
              have lle : (L.length : Int) ≤ 96 := by have := LLE.out c; rw [hL] at this; omega
              obtain ⟨a3, c3, hv3⟩ := own_shape H2.out.2.1.own
              subst hv3
              have O0 : Hid (wr.ownsRow wa.heap.size 3 1 (.slice a3 L.length c3) L.length (L.map (Value.int .i64))) := H2.out.2.1.own
              obtain ⟨q, hq⟩ : ∃ q, L.length = q := ⟨_, rfl⟩
              have HQ : Hid (L.length = q) := hq
              have S0 : Hid (SW w wr s b pb lb c m A V K ∧ Blk wr bs ((sn m L 0).map Value.bool) 4) := ⟨H2.out.1, H2.out.2.2⟩
              rw [hL, hq]
              rw [hq] at O0 lle LEN
              have UP : Hid (s ≤ bs) := by rw [← hbs]; exact HH.out.1.le
              clear sw2 g3 b3 hL hq H2 l
              go_wp2
              go_loopw [14] (fun i wx => ∃ k2 : Nat, (k2 : Int) ≤ q ∧ SW w wx s b pb lb c m A V K ∧ Blk wx bs ((sn m L k2).map Value.bool) 4 ∧ wx.ownsRow wa.heap.size 3 1 (.slice a3 q c3) q (L.map (Value.int .i64)) ∧ i = .int .i64 k2) (fun i _ => q - (intOf i).toNat)
              case atStart => exact ⟨0, by omega, S0.out.1, S0.out.2, O0.out, rfl⟩
              case round =>
                obtain ⟨k2, hk3, sw4, b4, o4, rfl⟩ := hrel
                by_cases l2 : (k2 : Int) < q
                · obtain ⟨gb, rfl, ce⟩ := own_cell o4 l2
                  have hml := MEM.out (L.getD k2 0) (getD_mem' L k2 (by have := HQ.out; omega))
                  have hnew := sn_new NDP.out k2 (by have := HQ.out; omega)
                  obtain ⟨x, hx⟩ := Int.eq_ofNat_of_zero_le (show 0 ≤ L.getD k2 0 by omega)
                  rw [hx] at hml hnew ce
                  have cs : wr.cell? ⟨bs, x, none⟩ = some (.bool false) := by
                    rw [b4.cell, List.getElem?_map, sn_at m L k2 x (by omega), decide_eq_false hnew]
                    rfl
                  have fs : wr.frozen? ⟨bs, x, none⟩ = false := b4.free x
                  have lgb : wa.heap.size ≤ gb := by
                    rcases o4.2 with ⟨e, _⟩ | ⟨g5, c5, cur5, e, hg5, _⟩
                    · simp at e
                    · simp only [Value.slice.injEq, Option.some.injEq, Addr.mk.injEq] at e
                      rw [e.1.1]
                      exact hg5
                  have nbg : ¬ (bs = gb) := by have := ZA.out; omega
                  have B6 : Hid (Blk (wr.setCell ⟨bs, x, none⟩ (.bool true)) bs ((sn m L (k2 + 1)).map Value.bool) 4) := by
                    rw [← sn_set m L k2 (by have := HQ.out; omega) x hx (by omega), List.map_set]
                    exact b4.set x _
                  have O6 : Hid ((wr.setCell ⟨bs, x, none⟩ (.bool true)).ownsRow wa.heap.size 3 1 (.slice (some ⟨gb, 0, none⟩) q c3) q (L.map (Value.int .i64))) := ownsRow_setCell_below o4 (by exact ZA.out) _
                  have S6 : Hid (SW w (wr.setCell ⟨bs, x, none⟩ (.bool true)) s b pb lb c m A V K) := by
                    have ff : Fr wr.heap.size [bs] wr (wr.setCell ⟨bs, x, none⟩ (.bool true)) := (Fr.refl _ _ _).setCell (Or.inr (by simp)) _
                    refine ⟨sw4.h.keep ff (Nat.le_refl _) (by simp; exact sw4.h.po.sb.ne b4 (by decide)) (by simp; exact sw4.h.st.sb.ne b4 (by decide)) (by simp; exact sw4.h.st.sl.ne b4 (by decide)) (fun g hg hm => ?_), sw4.bel.trans ((ff.less sw4.le).below (by simp; exact UP.out)), sw4.up⟩
                    simp at hm
                    subst hm
                    exact sw4.h.st.not b4 (by decide) hg
                  have q1 : (1 : Int) ≤ x := hml.1
                  have q2 : (x : Int) ≤ 8 * m := hml.2
                  have q3 : (x : Int) < nb := by have := NB.out; omega
                  have q4 : (k2 : Int) < q := l2
                  clear sw4 b4 o4 hml hnew hx lgb
                  go_wp2
                  go_roundw
                  case rel => exact ⟨k2 + 1, by omega, S6.out, B6.out, O6.out, by go_num⟩
                  case measure => simp [intOf]; omega
                · have D3 : Hid (∀ _ : Unit, _) := fun _ => C3.out wr sw4.h
                  have hb5 : Hid (Below s w wr ∧ s ≤ wr.heap.size) := ⟨sw4.bel, sw4.le⟩
                  have fq : (q : Int) + f = 8 * m := by omega
                  clear sw4 b4 o4
                  go_wp2_with fail
                  refine (D3.out ()).mono ?_
                  rintro e u3 ⟨rfl, rfl⟩
                  go_wp2_with fail
                  refine (KN.out _).mono ?_
                  rintro e u6 ⟨rfl, hb6⟩
                  go_wp2
                  go_ret
                  exact ⟨rfl, hb5.out.1.trans (hb6.mono hb5.out.2)⟩)
      · obtain ⟨ab, off, rfl, hA⟩ := srow_cell (wr := wr) HR.out (by rw [HS.out]; exact sw.bel) h
        have HX : Hid (∀ w2 : World, Below s w w2 → ∀ j, j < 3 → w2.cell? ⟨ab, off + k * 3 + j, none⟩ = some (.int .i64 (X2 k j))) := fun w2 b2 j hj => by
          obtain ⟨ab3, off3, e3, hc3⟩ := srow_cell (wr := w2) HR.out (by rw [HS.out]; exact b2) h
          cases e3
          have := hc3 j hj
          match j, hj with
          | 0, _ => exact this
          | 1, _ => exact this
          | 2, _ => exact this
        clear hA
        have x0 := HX.out wr sw.bel 0 (by omega)
        have x1 := HX.out wr sw.bel 1 (by omega)
        have x2 := HX.out wr sw.bel 2 (by omega)
        simp only [Nat.add_zero] at x0
        have Y1 : Hid (∀ w2 : World, Below s w w2 → w2.cell? ⟨ab, off + k * 3 + 1, none⟩ = some (.int .i64 (X2 k 1)) ∧ w2.cell? ⟨ab, off + k * 3 + 2, none⟩ = some (.int .i64 (X2 k 2))) := fun w2 b2 => ⟨HX.out w2 b2 1 (by omega), HX.out w2 b2 2 (by omega)⟩
        clear HX
        generalize X2 k 0 = y0 at *
        generalize X2 k 1 = y1 at *
        generalize X2 k 2 = y2 at *
        by_cases t0 : y0.tmod 3 = 0
        · have e0 : (y0.tmod 3 == 0) = true := by simpa using t0
          have C1 : Hid (∀ _ : Unit, _) := fun _ => salloc_any y1 wr sw.h kv.kl
          have K2 : Hid (Kv m (alA m n A K y1) (alK m n A K y1)) := kv_alloc kv sw.h.st.kn y1
          generalize alA m n A K y1 = A2 at *
          generalize alK m n A K y1 = K2' at *
          generalize alN m n A K y1 = nn at *
          generalize alE m n A K y1 = ee at *
          clear t0 sw kv
          go_wp2_with fail
          refine (C1.out ()).mono ?_
          rintro e u2 ⟨rfl, k2⟩
          obtain ⟨V2, s2⟩ := HH.out.1.act k2
          clear k2
          go_wp2
          go_roundw
          case rel => exact ⟨k + 1, A2, V2, K2', by omega, by omega, s2, K2.out, by go_num⟩
          case measure => simp [intOf]; omega
        · have e0 : (y0.tmod 3 == 0) = false := by simpa using t0
          by_cases t1 : y0.tmod 3 = 1
          · have e1 : (y0.tmod 3 == 1) = true := by simpa using t1
            have C1 : Hid (∀ u : World, Sm u wr → Calls Try.prog 35 #[.pointer (some ⟨b, 0, none⟩), .int .i64 y1, .int .i64 y2] u fun e w' => e = .returned (.int .i64 (giE m n A K y1 y2)) ∧ SC wr w' b pb lb n m V (giA m n A K y1 y2) (giK m n A K y1 y2)) := fun u e => (sgive_any y1 y2 u (sw.h.heap e.1) kv.kl).mono fun _ w' ⟨r1, r2⟩ => ⟨r1, SC.from e r2⟩
            have K2 : Hid (Kv m (giA m n A K y1 y2) (giK m n A K y1 y2)) := kv_give kv sw.h.st.kn y1 y2
            generalize giA m n A K y1 y2 = A2 at *
            generalize giK m n A K y1 y2 = K2' at *
            generalize giE m n A K y1 y2 = ee at *
            clear t0 t1 sw kv
            go_wp2_with fail
            go_region_held3 (fun w' => w'.cell? ⟨ab, off + k * 3 + 1, none⟩ = some (.int .i64 y1) ∧ w'.cell? ⟨ab, off + k * 3 + 2, none⟩ = some (.int .i64 y2)) (go_keep)
              (first | (go_at_call 35; refine (C1.out _ ?_).mono ?_; exact ⟨rfl, rfl, rfl, rfl⟩; rintro e u2 ⟨rfl, k2⟩; obtain ⟨V2, s2⟩ := HH.out.1.act k2; obtain ⟨yy1, yy2⟩ := Y1.out u2 s2.bel; have S2 : Hid (SW w u2 s b pb lb n m A2 V2 K2') := s2; clear k2 s2))
            go_wp2
            go_roundw
            case rel => exact ⟨k + 1, A2, V2, K2', by omega, by omega, S2.out.sm ⟨rfl, rfl, rfl, rfl⟩, K2.out, by go_num⟩
            case measure => simp [intOf]; omega
          · have e1 : (y0.tmod 3 == 1) = false := by simpa using t1
            have C1 : Hid (∀ _ : Unit, _) := fun _ => sdrain_any y1 wr sw.h kv.kl
            have K2 : Hid (Kv m (drA m n A K y1) (drK n K y1)) := kv_drain kv sw.h.st.kn y1
            generalize drA m n A K y1 = A2 at *
            generalize drK n K y1 = K2' at *
            generalize drN n K y1 = nn at *
            generalize drE n y1 = ee at *
            clear t0 t1 sw kv
            go_wp2_with fail
            refine (C1.out ()).mono ?_
            rintro e u2 ⟨rfl, k2⟩
            obtain ⟨V2, s2⟩ := HH.out.1.act k2
            clear k2
            go_wp2
            go_roundw
            case rel => exact ⟨k + 1, A2, V2, K2', by omega, by omega, s2, K2.out, by go_num⟩
            case measure => simp [intOf]; omega

set_option maxRecDepth 100000 in
theorem lifted (os : Os) (started : os.Started) (H : Type) (enc : TypeId × Value → H) :
    ReturnsInHanded {} Try.checked os 7 .any (Rows.stashOnceSpec.pre6 enc Try.prog Try.f7 Rows.stashOnceRow.domain false) (Rows.stashOnceSpec.post enc Try.prog Try.f7 false true false false) := by
  refine returnsInHanded_of_change (C := Try.checked) own started (by kernel_rfl) Try.func7
    (ChangeSpec.witness6 (enc := enc) (C := Try.checked) false ⟨#[], #[.int .i64 0, .int .i64 0, .slice none 0 0], []⟩ 8 (by kernel_rfl) (by kernel_rfl) (by kernel_rfl) (by kernel_rfl)) ?_
  intro W base args ds gs before hval0 hW hcnd _
  have hval : ∀ (j : Nat) t v, Try.f7.params[j]? = some t → args[j]? = some v → Value.okWide Try.prog W .any base t v := hval0
  have hW' := hW
  obtain ⟨p, q, hA0, hV, rfl, hfz, hnd⟩ := hW
  have hA : DataW.TrodAll enc Try.prog W 0 (fun _ => true) true Try.f7.params.toList args.toList ds p := hA0
  rw [Try.params7] at hA hval
  obtain ⟨v0, vs0, d0, ds0, p0, q0, hargs, rfl, rfl, h0, r0⟩ := trodAll_cons hA
  obtain ⟨v1, vs1, d1, ds1, p1, q1, rfl, rfl, rfl, h1, r1⟩ := trodAll_cons r0
  obtain ⟨v2, vs2, d2, ds2, p2, q2, rfl, rfl, rfl, h2, r2⟩ := trodAll_cons r1
  obtain ⟨rfl, rfl, rfl⟩ := trodAll_nil r2
  obtain rfl : args = #[v0, v1, v2] := by cases args; simp_all
  obtain ⟨rfl, rfl⟩ := trodVars_none hV
  obtain ⟨a0, rfl, rfl, rfl, w0⟩ := open_int Try.underlying3 (hval 0 3 v0 rfl rfl) h0
  obtain ⟨a1, rfl, rfl, rfl, w1⟩ := open_int Try.underlying3 (hval 1 3 v1 rfl rfl) h1
  obtain ⟨a2, len2, cap2, rfl⟩ := okWide_slice Try.underlying41 (hval 2 41 v2 rfl rfl)
  have k2 := h2
  have lt2 : ∀ x ∈ p2, x.block < W.heap.size := by obtain ⟨m, hm⟩ := k2; exact DataW.trod_lt m _ _ _ hm
  obtain ⟨X2, w2, z2⟩ : ∃ X : Nat → Nat → Int, SRow W (.slice a2 len2 cap2) len2 [true, true, true] X ∧ ∀ i, i < len2 → ∀ j, j < [true, true, true].length → [true, true, true].getD j true = true → (Lit.int .i64 (X i j)).wf = true := by
    obtain ⟨fuel, hf⟩ := h2
    exact open_recs [true, true, true] Try.underlying41 Try.underlying50 (by kernel_rfl) rfl (by decide) (fun | 0, _ => ⟨_, rfl, rfl, by kernel_rfl, Try.underlying3⟩ | 1, _ => ⟨_, rfl, rfl, by kernel_rfl, Try.underlying3⟩ | 2, _ => ⟨_, rfl, rfl, by kernel_rfl, Try.underlying3⟩ | n + 3, h => absurd h (by simp only [List.length]; omega)) hf
  clear hA0 hval0
  refine (walk a0 a1 a2 len2 cap2 X2 W w0 w1 w2 z2).mono fun e W' ⟨he, bel⟩ => ?_
  subst he
  exact ⟨_, rfl, _, _, _, [], _, [], hW', trodAll_mk1 (shut_bool Try.underlying4 _), (trodAll_cons_mk (shut_int Try.underlying3 w0) (trodAll_cons_mk (shut_int Try.underlying3 w1) (trodAll_cons_mk (Below.trod laidOut (by kernel_rfl) (of_decide_eq_true (by kernel_rfl)) k2 bel lt2) trodAll_mk0))), rfl, bel.frame _, fun h => by cases h⟩

theorem over : Rows.StashOnceSaid :=
  OpenClaim.holds_of_wide 7 Try.f7 rfl rfl rfl rfl rfl rfl rfl ⟨rfl, rfl, rfl, rfl, rfl⟩ rfl rfl rfl rfl rfl (by kernel_rfl) Try.func7 (by kernel_rfl)
    (of_decide_eq_true (by kernel_rfl)) (by unfold Func.isWrapper; first | (rw [if_pos (by decide +kernel)]; kernel_rfl) | (rw [if_neg (by decide +kernel)]; exact ⟨rfl, rfl⟩))
    (fun os started H enc _ => lifted os started H enc)
end Go.Proofs.Ytibajjidigmkhaa.stashOnce

namespace Go.Proofs.Ytibajjidigmkhaa
open Go
theorem stashOnce_holds : Rows.StashOnceSaid := stashOnce.over
#print axioms stashOnce_holds
end Go.Proofs.Ytibajjidigmkhaa
