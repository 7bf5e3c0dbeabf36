/- Proved: for all numbers cpus and pages and every list acts, davitlaw08.StashDrains(cpus, pages, acts) returns true: when all cores are drained the pool has all objects that are not handed out (120 acts at most, as the law itself says), and acts is left alone, with no condition. -/
import Derived.Test.YtibajjidigmkhaaRows
import Derived.Test.YtibajjidigmkhaaFo
import Derived.Test.YtibajjidigmkhaaHi
import Derived.WalkKit
import Derived.ProofKit
import Derived.OpenShut
import Derived.Stop.Joined
import Derived.ShutString
import Derived.ChangeOld
import Derived.Below
import Derived.Carry
import Derived.Test.YtibajjidigmkhaaFs
import Derived.Deep.RegionHeld3
namespace Go.Proofs.Ytibajjidigmkhaa.stashDrains
open Go.ChangeShapes Go.WideShapes Go.ChangeAt Go.RowKit
open Om Hm
set_option linter.unusedVariables false
set_option linter.unusedSimpArgs false

theorem own : ownKnob Try.prog.godebug = none := by kernel_rfl
theorem laidOut : laidOutB Try.prog = true := by kernel_rfl

set_option maxRecDepth 100000 in
set_option maxHeartbeats 4000000 in
theorem walk (a0 : Int) (a1 : Int) (a2 : Option Addr) (len2 cap2 : Nat) (X2 : Nat → Nat → Int) (w : World) (w0 : (Lit.int .i64 a0).wf = true) (w1 : (Lit.int .i64 a1).wf = true) (w2 : SRow w (.slice a2 len2 cap2) len2 [true, true, true] X2) (z2 : ∀ i, i < len2 → ∀ j, j < [true, true, true].length → [true, true, true].getD j true = true → (Lit.int .i64 (X2 i j)).wf = true) :
    Calls Try.prog 8 #[.int .i64 a0, .int .i64 a1, .slice a2 len2 cap2] w fun e w' => e = .returned (.bool true) ∧ Below w.heap.size w w' := by
  have KN : Hid (∀ w, _) := fun w => sknown_yes w
  by_cases wrong : (a0 < 1 ∨ 64 < a0) ∨ (a1 < 1 ∨ 12 < a1)
  · have C : Hid (∀ w, _) := fun w => snew_bad a0 a1 w wrong
    clear w0 w1 w2 z2
    by_cases g1 : a0 < 1
    · go_enter Try.func8, Try.ntmps8
      go_wp2_with fail
      refine (C.out _).mono ?_
      rintro e u1 ⟨rfl, rfl⟩
      go_wp2_with fail
      refine (KN.out _).mono ?_
      rintro e u1 ⟨rfl, hb⟩
      go_wp2
      go_ret
      exact ⟨rfl, hb⟩
    · by_cases g2 : 64 < a0
      · go_enter Try.func8, Try.ntmps8
        go_wp2_with fail
        refine (C.out _).mono ?_
        rintro e u1 ⟨rfl, rfl⟩
        go_wp2_with fail
        refine (KN.out _).mono ?_
        rintro e u1 ⟨rfl, hb⟩
        go_wp2
        go_ret
        exact ⟨rfl, hb⟩
      · by_cases g3 : a1 < 1
        · go_enter Try.func8, Try.ntmps8
          go_wp2_with fail
          refine (C.out _).mono ?_
          rintro e u1 ⟨rfl, rfl⟩
          go_wp2_with fail
          refine (KN.out _).mono ?_
          rintro e u1 ⟨rfl, hb⟩
          go_wp2
          go_ret
          exact ⟨rfl, hb⟩
        · have g4 : 12 < a1 := by omega
          clear wrong
          go_enter Try.func8, Try.ntmps8
          go_wp2_with fail
          refine (C.out _).mono ?_
          rintro e u1 ⟨rfl, rfl⟩
          go_wp2_with fail
          refine (KN.out _).mono ?_
          rintro e u1 ⟨rfl, hb⟩
          go_wp2
          go_ret
          exact ⟨rfl, hb⟩
  · obtain ⟨n, rfl⟩ := Int.eq_ofNat_of_zero_le (show 0 ≤ a0 by omega)
    obtain ⟨m, rfl⟩ := Int.eq_ofNat_of_zero_le (show 0 ≤ a1 by omega)
    have n1 : (1 : Int) ≤ n := by omega
    have n2 : (n : Int) ≤ 64 := by omega
    have m1 : (1 : Int) ≤ m := by omega
    have m2 : (m : Int) ≤ 12 := by omega
    have C : Hid (∀ _ : Unit, _) := fun _ => snew_any n m w n1 n2 m1 m2
    have HR : Hid (SRow w (.slice a2 len2 cap2) len2 [true, true, true] X2) := w2
    obtain ⟨s, hs⟩ : ∃ s, w.heap.size = s := ⟨_, rfl⟩
    have HS : Hid (w.heap.size = s) := hs
    rw [hs] at C ⊢
    clear wrong w0 w1 w2 z2 hs
    go_enter Try.func8, Try.ntmps8
    go_wp2_with fail
    refine (C.out ()).mono ?_
    rintro e u1 ⟨b, pb, lb, V0, rfl, h0, up, f0⟩
    have SW0 : Hid (SW w u1 s b pb lb n m (List.replicate 12 0) V0 (List.replicate n []) ∧ Kv m (List.replicate 12 0) (List.replicate n [])) := ⟨⟨h0, f0.below (by simp), up⟩, kv_new m n h0.po.pg⟩
    clear h0 up f0 C
    go_wp2
    go_loopw [9] (fun i wr => ∃ (k : Nat) (A : List Nat) (V : List Value) (K : List (List Int)), (k : Int) ≤ 120 ∧ (k : Int) ≤ len2 ∧ SW w wr s b pb lb n m A V K ∧ Kv m A K ∧ i = .int .i64 k) (fun i _ => 120 - (intOf i).toNat)
    case atStart => exact ⟨0, _, _, _, by omega, by omega, SW0.out.1, SW0.out.2, rfl⟩
    case round =>
      obtain ⟨k, A, V, K, hk, hk2, sw, kv, rfl⟩ := hrel
      clear SW0
      have HH : Hid (SW w wr s b pb lb n m A V K ∧ Kv m A K) := ⟨sw, kv⟩
      have tail : (¬ (k : Int) < len2 ∧ decide ((k : Int) < len2) = false) ∨ ((k : Int) < len2 ∧ ¬ (k : Int) < 120) ∨ ((k : Int) < len2 ∧ (k : Int) < 120) := by
        by_cases h : (k : Int) < len2
        · by_cases h2 : (k : Int) < 120
          · exact Or.inr (Or.inr ⟨h, h2⟩)
          · exact Or.inr (Or.inl ⟨h, h2⟩)
        · exact Or.inl ⟨h, decide_eq_false h⟩
      rw [← or_assoc] at tail
      rcases tail with tail | ⟨h, h2⟩
      · have C1 : Hid (∀ _ : Unit, _) := fun _ => sout_any wr sw.h kv.kl
        clear sw kv
        rcases tail with ⟨h, hd⟩ | ⟨h, h2⟩
        all_goals (
          go_wp2_with fail
          refine (C1.out ()).mono ?_
          rintro e u2 ⟨v2, rfl, g2⟩
          have S2 : Hid (SW w u2 s b pb lb n m A V K) := HH.out.1.keep g2.bel
          have G2 : Hid (Lv u2 v2 (ol m A K 96) ∧ ∀ q ∈ vb v2, q ∉ bl V) := gt_apart HH.out.1 g2
          obtain ⟨ao, co, hvo⟩ := own_shape g2.own
          subst hvo
          have lo : ((ol m A K 96).length : Int) ≤ 96 := by have := ol_len m A K 96; omega
          obtain ⟨L, hL⟩ : ∃ L, ol m A K 96 = L := ⟨_, rfl⟩
          have HL : Hid (ol m A K 96 = L) := hL
          rw [hL] at G2 lo ⊢
          clear g2 hL
          obtain ⟨q, hq⟩ : ∃ q, L.length = q := ⟨_, rfl⟩
          have HQ : Hid (L.length = q) := hq
          rw [hq] at G2 lo ⊢
          clear hq
          go_wp2
          go_loopw [11] (fun i wx => ∃ (c : Nat) (A2 : List Nat) (V2 : List Value) (K2 : List (List Int)), (c : Int) ≤ n ∧ SW w wx s b pb lb n m A2 V2 K2 ∧ Kv m A2 K2 ∧ Hid (∀ j, j < c → ks K2 j = []) ∧ Hid (ol m A2 K2 96 = L) ∧ Hid (Lv wx (.slice ao q co) L ∧ ∀ g ∈ vb (.slice ao q co), g ∉ bl V2) ∧ i = .int .i64 c) (fun i _ => n - (intOf i).toNat)
          case atStart => exact ⟨0, A, V, K, by omega, S2.out, HH.out.2, fun j hj => by omega, HL, G2, rfl⟩
          case round =>
            obtain ⟨c, A2, V2, K2, hc, sw2, kv2, hE, hO, hV2, rfl⟩ := hrel
            have H2 : Hid (SW w wr s b pb lb n m A2 V2 K2 ∧ Kv m A2 K2) := ⟨sw2, kv2⟩
            by_cases l : (c : Int) < n
            · have D1 : Hid (∀ _ : Unit, _) := fun _ => skept_any (c : Int) wr sw2.h kv2.kl
              rw [kc_in (K := K2) (show c < n by omega)] at D1
              have D2 : Hid (∀ u : World, SH u b pb lb n m A2 V2 K2 → _) := fun u hu => sdrain_any (c : Int) u hu kv2.kl
              obtain ⟨r1, r2, r3⟩ := dr_in (K := K2) (show c < n by omega)
              rw [r1, r2, r3] at D2
              have kd := kv_drain kv2 sw2.h.st.kn (c : Int)
              rw [r3] at kd
              have hcl : c < K2.length := by rw [sw2.h.st.kn]; omega
              have E3 : Hid (∀ j, j < c + 1 → ks (K2.set c []) j = []) := fun j hj => by
                rw [ks_set K2 c j [] hcl]
                by_cases e : j = c
                · rw [if_pos e]
                · rw [if_neg e]
                  exact hE.out j (by omega)
              have O3 : Hid (ol m (drA m n A2 K2 (c : Int)) (K2.set c []) 96 = L) := by
                rw [← hO.out, ← r3]
                exact ol_congr (fun x => hs_drain kv2 sw2.h.st.kn c (by omega) x) 96
              have K3 : Hid (Kv m (drA m n A2 K2 (c : Int)) (K2.set c [])) := kd
              have D3 : Hid (∀ (u : World) (V3 : List Value), SH u b pb lb n m (drA m n A2 K2 (c : Int)) V3 (K2.set c []) → _) := fun u V3 hu => skept_any (c : Int) u hu kd.kl
              rw [kc_in (K := K2.set c []) (show c < n by omega), ks_set K2 c c [] hcl, if_pos rfl] at D3
              generalize drA m n A2 K2 (c : Int) = A3 at *
              generalize K2.set c [] = K3' at *
              obtain ⟨p, hp⟩ : ∃ p, (ks K2 c).length = p := ⟨_, rfl⟩
              have HP : Hid ((ks K2 c).length = p) := hp
              rw [hp] at D2
              have p4 : (p : Int) ≤ 4 := by have := kv2.kl c; omega
              have bb : ((p : Int) != (p : Int)) = false := by simp
              clear r1 r2 r3 kd hcl hp sw2 kv2
              go_wp2_with fail
              refine (D1.out ()).mono ?_
              rintro e u3 ⟨v3, rfl, g3⟩
              obtain ⟨a3, c3, hv3⟩ := own_shape g3.own
              subst hv3
              have S3 : Hid (SW w u3 s b pb lb n m A2 V2 K2) := H2.out.1.keep g3.bel
              have L3 : Hid (Lv u3 (.slice ao q co) L ∧ ∀ g ∈ vb (.slice ao q co), g ∉ bl V2) := ⟨lv_below hV2.out.1 g3.bel, hV2.out.2⟩
              rw [HP.out]
              clear g3
              go_wp2_with fail
              refine (D2.out _ S3.out.h).mono ?_
              rintro e u4 ⟨rfl, k4⟩
              obtain ⟨V4, s4, l4, d4⟩ := S3.out.act2 k4 L3.out.1 L3.out.2
              have S4 : Hid (SW w u4 s b pb lb n m A3 V4 K3' ∧ Lv u4 (.slice ao q co) L ∧ ∀ g ∈ vb (.slice ao q co), g ∉ bl V4) := ⟨s4, l4, d4⟩
              clear s4 l4 d4 k4
              go_wp2_with fail
              refine (D3.out _ _ S4.out.1.h).mono ?_
              rintro e u5 ⟨v5, rfl, g5⟩
              obtain ⟨a5, c5, hv5⟩ := own_shape g5.own
              subst hv5
              have S5 : SW w u5 s b pb lb n m A3 V4 K3' := S4.out.1.keep g5.bel
              have L5 : Hid (Lv u5 (.slice ao q co) L ∧ ∀ g ∈ vb (.slice ao q co), g ∉ bl V4) := ⟨lv_below S4.out.2.1 g5.bel, S4.out.2.2⟩
              simp only [List.length_nil]
              clear g5
              go_wp2
              go_roundw
              case rel => exact ⟨c + 1, A3, V4, K3', by omega, S5, K3.out, E3, O3, L5, by go_num⟩
              case measure => simp [intOf]; omega
            · have hcn : c = n := by omega
              have FR := drained kv2 sw2.h.st.kn (by rw [← hcn]; exact hE.out)
              rw [hO.out, HQ.out] at FR
              have D1 : Hid (∀ _ : Unit, _) := fun _ => sfree_any wr sw2.h
              have D2 : Hid (∀ _ : Unit, _) := fun _ => sout_any wr sw2.h kv2.kl
              rw [hO.out] at D2
              have IN : Hid (∀ (u : World) (v : Value), Row u v L → Row u (.slice ao q co) L → _) := fun u v r1 r2 => ints_any L v (.slice ao q co) u (by have := HQ.out; omega) r1 r2
              obtain ⟨f, hf⟩ : ∃ f, fr m A2 = f := ⟨_, rfl⟩
              rw [hf] at FR D1
              have fq : (f : Int) = 8 * m - q := by omega
              clear FR hf hcn sw2 kv2
              go_wp2_with fail
              refine (D1.out ()).mono ?_
              rintro e u3 ⟨rfl, rfl⟩
              go_wp2_with fail
              refine (D2.out ()).mono ?_
              rintro e u4 ⟨v4, rfl, g4⟩
              have I4 : Hid (∀ _ : Unit, _) := fun _ => IN.out u4 v4 (row_of_owns g4.own) (lv_below hV2.out.1 g4.bel).row
              have B4 : Hid (SW w u4 s b pb lb n m A2 V2 K2) := H2.out.1.keep g4.bel
              clear g4
              go_wp2_with fail
              refine (I4.out ()).mono ?_
              rintro e u5 ⟨rfl, d5, rfl⟩
              have B5 := B4.out.sm (w1 := u4.drewN d5) ⟨rfl, rfl, rfl, rfl⟩
              have hb5 : Hid (Below s w (u4.drewN d5) ∧ s ≤ (u4.drewN d5).heap.size) := ⟨B5.bel, B5.le⟩
              clear B5
              go_wp2_with fail
              refine (KN.out _).mono ?_
              rintro e u6 ⟨rfl, hb6⟩
              go_wp2
              go_ret
              exact ⟨rfl, hb5.out.1.trans (hb6.mono hb5.out.2)⟩)
      · obtain ⟨ab, off, rfl, hA⟩ := srow_cell (wr := wr) HR.out (by rw [HS.out]; exact sw.bel) h
        have HX : Hid (∀ w2 : World, Below s w w2 → ∀ j, j < 3 → w2.cell? ⟨ab, off + k * 3 + j, none⟩ = some (.int .i64 (X2 k j))) := fun w2 b2 j hj => by
          obtain ⟨ab3, off3, e3, hc3⟩ := srow_cell (wr := w2) HR.out (by rw [HS.out]; exact b2) h
          cases e3
          have := hc3 j hj
          match j, hj with
          | 0, _ => exact this
          | 1, _ => exact this
          | 2, _ => exact this
        clear hA
        have x0 := HX.out wr sw.bel 0 (by omega)
        have x1 := HX.out wr sw.bel 1 (by omega)
        have x2 := HX.out wr sw.bel 2 (by omega)
        simp only [Nat.add_zero] at x0
        have Y1 : Hid (∀ w2 : World, Below s w w2 → w2.cell? ⟨ab, off + k * 3 + 1, none⟩ = some (.int .i64 (X2 k 1)) ∧ w2.cell? ⟨ab, off + k * 3 + 2, none⟩ = some (.int .i64 (X2 k 2))) := fun w2 b2 => ⟨HX.out w2 b2 1 (by omega), HX.out w2 b2 2 (by omega)⟩
        clear HX
        generalize X2 k 0 = y0 at *
        generalize X2 k 1 = y1 at *
        generalize X2 k 2 = y2 at *
        by_cases t0 : y0.tmod 3 = 0
        · have e0 : (y0.tmod 3 == 0) = true := by simpa using t0
          have C1 : Hid (∀ _ : Unit, _) := fun _ => salloc_any y1 wr sw.h kv.kl
          have K2 : Hid (Kv m (alA m n A K y1) (alK m n A K y1)) := kv_alloc kv sw.h.st.kn y1
          generalize alA m n A K y1 = A2 at *
          generalize alK m n A K y1 = K2' at *
          generalize alN m n A K y1 = nn at *
          generalize alE m n A K y1 = ee at *
          clear t0 sw kv
          go_wp2_with fail
          refine (C1.out ()).mono ?_
          rintro e u2 ⟨rfl, k2⟩
          obtain ⟨V2, s2⟩ := HH.out.1.act k2
          clear k2
          go_wp2
          go_roundw
          case rel => exact ⟨k + 1, A2, V2, K2', by omega, by omega, s2, K2.out, by go_num⟩
          case measure => simp [intOf]; omega
        · have e0 : (y0.tmod 3 == 0) = false := by simpa using t0
          have C1 : Hid (∀ u : World, Sm u wr → Calls Try.prog 35 #[.pointer (some ⟨b, 0, none⟩), .int .i64 y1, .int .i64 y2] u fun e w' => e = .returned (.int .i64 (giE m n A K y1 y2)) ∧ SC wr w' b pb lb n m V (giA m n A K y1 y2) (giK m n A K y1 y2)) := fun u e => (sgive_any y1 y2 u (sw.h.heap e.1) kv.kl).mono fun _ w' ⟨r1, r2⟩ => ⟨r1, SC.from e r2⟩
          have K2 : Hid (Kv m (giA m n A K y1 y2) (giK m n A K y1 y2)) := kv_give kv sw.h.st.kn y1 y2
          generalize giA m n A K y1 y2 = A2 at *
          generalize giK m n A K y1 y2 = K2' at *
          generalize giE m n A K y1 y2 = ee at *
          clear t0 sw kv
          go_wp2_with fail
          go_region_held3 (fun w' => w'.cell? ⟨ab, off + k * 3 + 1, none⟩ = some (.int .i64 y1) ∧ w'.cell? ⟨ab, off + k * 3 + 2, none⟩ = some (.int .i64 y2)) (go_keep)
            (first | (go_at_call 35; refine (C1.out _ ?_).mono ?_; exact ⟨rfl, rfl, rfl, rfl⟩; rintro e u2 ⟨rfl, k2⟩; obtain ⟨V2, s2⟩ := HH.out.1.act k2; obtain ⟨yy1, yy2⟩ := Y1.out u2 s2.bel; have S2 : Hid (SW w u2 s b pb lb n m A2 V2 K2') := s2; clear k2 s2))
          go_wp2
          go_roundw
          case rel => exact ⟨k + 1, A2, V2, K2', by omega, by omega, S2.out.sm ⟨rfl, rfl, rfl, rfl⟩, K2.out, by go_num⟩
          case measure => simp [intOf]; omega

set_option maxRecDepth 100000 in
theorem lifted (os : Os) (started : os.Started) (H : Type) (enc : TypeId × Value → H) :
    ReturnsInHanded {} Try.checked os 8 .any (Rows.stashDrainsSpec.pre6 enc Try.prog Try.f8 Rows.stashDrainsRow.domain false) (Rows.stashDrainsSpec.post enc Try.prog Try.f8 false true false false) := by
  refine returnsInHanded_of_change (C := Try.checked) own started (by kernel_rfl) Try.func8
    (ChangeSpec.witness6 (enc := enc) (C := Try.checked) false ⟨#[], #[.int .i64 0, .int .i64 0, .slice none 0 0], []⟩ 8 (by kernel_rfl) (by kernel_rfl) (by kernel_rfl) (by kernel_rfl)) ?_
  intro W base args ds gs before hval0 hW hcnd _
  have hval : ∀ (j : Nat) t v, Try.f8.params[j]? = some t → args[j]? = some v → Value.okWide Try.prog W .any base t v := hval0
  have hW' := hW
  obtain ⟨p, q, hA0, hV, rfl, hfz, hnd⟩ := hW
  have hA : DataW.TrodAll enc Try.prog W 0 (fun _ => true) true Try.f8.params.toList args.toList ds p := hA0
  rw [Try.params8] at hA hval
  obtain ⟨v0, vs0, d0, ds0, p0, q0, hargs, rfl, rfl, h0, r0⟩ := trodAll_cons hA
  obtain ⟨v1, vs1, d1, ds1, p1, q1, rfl, rfl, rfl, h1, r1⟩ := trodAll_cons r0
  obtain ⟨v2, vs2, d2, ds2, p2, q2, rfl, rfl, rfl, h2, r2⟩ := trodAll_cons r1
  obtain ⟨rfl, rfl, rfl⟩ := trodAll_nil r2
  obtain rfl : args = #[v0, v1, v2] := by cases args; simp_all
  obtain ⟨rfl, rfl⟩ := trodVars_none hV
  obtain ⟨a0, rfl, rfl, rfl, w0⟩ := open_int Try.underlying3 (hval 0 3 v0 rfl rfl) h0
  obtain ⟨a1, rfl, rfl, rfl, w1⟩ := open_int Try.underlying3 (hval 1 3 v1 rfl rfl) h1
  obtain ⟨a2, len2, cap2, rfl⟩ := okWide_slice Try.underlying41 (hval 2 41 v2 rfl rfl)
  have k2 := h2
  have lt2 : ∀ x ∈ p2, x.block < W.heap.size := by obtain ⟨m, hm⟩ := k2; exact DataW.trod_lt m _ _ _ hm
  obtain ⟨X2, w2, z2⟩ : ∃ X : Nat → Nat → Int, SRow W (.slice a2 len2 cap2) len2 [true, true, true] X ∧ ∀ i, i < len2 → ∀ j, j < [true, true, true].length → [true, true, true].getD j true = true → (Lit.int .i64 (X i j)).wf = true := by
    obtain ⟨fuel, hf⟩ := h2
    exact open_recs [true, true, true] Try.underlying41 Try.underlying50 (by kernel_rfl) rfl (by decide) (fun | 0, _ => ⟨_, rfl, rfl, by kernel_rfl, Try.underlying3⟩ | 1, _ => ⟨_, rfl, rfl, by kernel_rfl, Try.underlying3⟩ | 2, _ => ⟨_, rfl, rfl, by kernel_rfl, Try.underlying3⟩ | n + 3, h => absurd h (by simp only [List.length]; omega)) hf
  clear hA0 hval0
  refine (walk a0 a1 a2 len2 cap2 X2 W w0 w1 w2 z2).mono fun e W' ⟨he, bel⟩ => ?_
  subst he
  exact ⟨_, rfl, _, _, _, [], _, [], hW', trodAll_mk1 (shut_bool Try.underlying4 _), (trodAll_cons_mk (shut_int Try.underlying3 w0) (trodAll_cons_mk (shut_int Try.underlying3 w1) (trodAll_cons_mk (Below.trod laidOut (by kernel_rfl) (of_decide_eq_true (by kernel_rfl)) k2 bel lt2) trodAll_mk0))), rfl, bel.frame _, fun h => by cases h⟩

theorem over : Rows.StashDrainsSaid :=
  OpenClaim.holds_of_wide 8 Try.f8 rfl rfl rfl rfl rfl rfl rfl ⟨rfl, rfl, rfl, rfl, rfl⟩ rfl rfl rfl rfl rfl (by kernel_rfl) Try.func8 (by kernel_rfl)
    (of_decide_eq_true (by kernel_rfl)) (by unfold Func.isWrapper; first | (rw [if_pos (by decide +kernel)]; kernel_rfl) | (rw [if_neg (by decide +kernel)]; exact ⟨rfl, rfl⟩))
    (fun os started H enc _ => lifted os started H enc)
end Go.Proofs.Ytibajjidigmkhaa.stashDrains

namespace Go.Proofs.Ytibajjidigmkhaa
open Go
theorem stashDrains_holds : Rows.StashDrainsSaid := stashDrains.over
#print axioms stashDrains_holds
end Go.Proofs.Ytibajjidigmkhaa
