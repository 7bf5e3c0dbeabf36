/- Proved: for every mask active and every list l of things, davitlaw12.AffinRepairs(active, l) returns true: which of them are not where they are to be, and where they go, is what the document says, and then they are right (of at most 100 things, as the law itself says), and l is left alone; no condition but that the listed table is as the program's text lays it, which the card ties. -/
import Derived.Test.YtghnpmkibnggeaaDoorRows
import Derived.Test.YtghnpmkibnggeaaDoorTie
import Derived.Test.YtghnpmkibnggeaaDoorCards
import Derived.Test.YtghnpmkibnggeaaDoorMu
import Derived.Test.YtghnpmkibnggeaaDoorFo
import Derived.Test.YtghnpmkibnggeaaDoorIe
import Derived.WalkKit
import Derived.ProofKit
import Derived.OpenShut
import Derived.Stop.Joined
import Derived.ShutString
import Derived.ChangeOld
import Derived.Below
import Derived.Carry
import Derived.LaidMore
import Derived.SevenTiedAt
import Derived.Test.YtghnpmkibnggeaaDoorFt
import Derived.Deep.RegionHeld3
namespace Go.Proofs.YtghnpmkibnggeaaDoor.affinRepairs
open Go.ChangeShapes Go.WideShapes Go.ChangeAt Go.RowKit
open Mm
set_option linter.unusedVariables false
set_option linter.unusedSimpArgs false

set_option maxRecDepth 100000 in
set_option maxHeartbeats 4000000 in
theorem walk (a0 : Int) (a1 : Option Addr) (len1 cap1 : Nat) (X1 : Nat → Nat → Int) (w : World) (w0 : (Lit.int .u64 a0).wf = true) (w1 : TRow w (.slice a1 len1 cap1) len1 [1, 2, 1, 0] X1) (z1 : ∀ i, i < len1 → ∀ j, j < [1, 2, 1, 0].length → kwf ([1, 2, 1, 0].getD j 1) (X1 i j)) (ht : Tab w) (hs : 0 < w.heap.size) :
    Calls Tryd.prog 8 #[.int .u64 a0, .slice a1 len1 cap1] w fun e w' => e = .returned (.bool true) ∧ Below w.heap.size w w' := by
  obtain ⟨b, rfl⟩ := Int.eq_ofNat_of_zero_le (show 0 ≤ a0 from (bounds_u64 w0).1)
  have hb : b < 18446744073709551616 := by have := (bounds_u64 w0).2; omega
  have TB : Hid (∀ w1, Below w.heap.size w w1 → Tab w1) := fun w1 q => ht.keep hs (by simp) (Fr.of_below q)
  have KN : Hid (∀ w1, Below w.heap.size w w1 → _) := fun w1 q => afknown_yes w1 (TB.out w1 q)
  by_cases big : (100 : Int) < len1
  · have K : Hid (∀ _ : Unit, _) := fun _ => KN.out w (Below.refl _ _)
    clear w0 w1 z1 hb ht hs TB KN
    go_enter Tryd.func8, Tryd.ntmps8
    go_wp2_with fail
    refine (K.out ()).mono ?_
    rintro e u1 ⟨rfl, rfl⟩
    go_wp2
    go_ret
    exact ⟨rfl, Below.refl _ _⟩
  · obtain ⟨hr, hf⟩ := cam_row w1 z1
    have hcl : (cam len1 X1).length = len1 := cam_len len1 X1
    generalize cam len1 X1 = Y at *
    have hYl : (Y.length : Int) ≤ 100 := by omega
    have HF : Hid (Fine Y) := hf
    have HR : Hid (IRow w (.slice a1 len1 cap1) Y) := hr
    have HB : Hid (b < 18446744073709551616) := hb
    have H0 : Hid (0 < w.heap.size) := hs
    have HL : Hid (Y.length = len1) := hcl
    have C1 : Hid (∀ _ : Unit, _) := fun _ => given_any Y _ w hr hYl
    clear w0 w1 z1 hr hf hb ht hs hcl
    go_enter Tryd.func8, Tryd.ntmps8
    go_wp2_with fail
    refine (C1.out ()).mono ?_
    rintro e u1 ⟨v1, rfl, g1⟩
    obtain ⟨av, cv, rfl⟩ := owng_shape g1.own
    have R1 : Hid (IRow u1 (.slice av Y.length cv) Y) := g1.row
    have B1 : Hid (Below w.heap.size w u1) := g1.bel
    have C2 : Hid (∀ _ : Unit, _) := fun _ => repair_any b Y _ u1 HB.out g1.row hYl HF.out (TB.out u1 g1.bel) (by have := g1.bel.size; have := H0.out; omega)
    rw [HL.out] at C2 R1 ⊢
    clear g1 C1
    go_wp2_with fail
    refine (C2.out ()).mono ?_
    rintro e u2 ⟨v2, rfl, g2⟩
    obtain ⟨a2, c2, rfl⟩ := owng_shape g2.own
    have hml := mend_len b Y
    have R2 : Hid (IRow u2 (.slice a2 (mend b Y).length c2) (mend b Y)) := g2.row
    have B2 : Hid (Below w.heap.size w u2) := B1.out.trans (g2.bel.mono B1.out.size)
    have B12 : Hid (Below u1.heap.size u1 u2) := g2.bel
    have C3 : Hid (∀ _ : Unit, _) := fun _ => taken_any (mend b Y) _ u2 g2.row (by omega)
    clear g2 C2
    go_wp2_with fail
    refine (C3.out ()).mono ?_
    rintro e u3 ⟨v3, rfl, g3⟩
    have B3 : Hid (Below w.heap.size w u3) := B2.out.trans (g3.bel.mono B2.out.size)
    have B23 : Hid (Below u2.heap.size u2 u3) := g3.bel
    obtain ⟨a3, c3, rfl⟩ := owng_shape g3.own
    have R3 : Hid (IRow u3 (.slice a3 (mend b Y).length c3) (mend b Y)) := g3.row
    have C4 : Hid (∀ _ : Unit, _) := fun _ => rrepair_any b Y _ u3 HB.out (HR.out.below B3.out) hYl HF.out
    clear g3 C3
    go_wp2_with fail
    refine (C4.out ()).mono ?_
    rintro e u4 ⟨v4, rfl, g4⟩
    have B4 : Hid (Below w.heap.size w u4) := B3.out.trans (g4.bel.mono B3.out.size)
    have B34 : Hid (Below u3.heap.size u3 u4) := g4.bel
    have C5 : Hid (∀ _ : Unit, _) := fun _ => same12_any (mend b Y) _ v4 u4 (by omega) (R3.out.below g4.bel) g4.row
    obtain ⟨a4, c4, rfl⟩ := owng_shape g4.own
    clear g4 C4
    go_wp2_with fail
    refine (C5.out ()).mono ?_
    rintro e u5 ⟨rfl, d5, rfl⟩
    have B5 : Hid (Below w.heap.size w (u4.drewN d5)) := Sm.below (⟨rfl, rfl, rfl, rfl⟩ : Sm (u4.drewN d5) u4) B4.out
    have B15 : Hid (Below u1.heap.size u1 (u4.drewN d5)) := Sm.below (⟨rfl, rfl, rfl, rfl⟩ : Sm (u4.drewN d5) u4) ((B12.out.trans (B23.out.mono B12.out.size)).trans (B34.out.mono (Nat.le_trans B12.out.size B23.out.size)))
    have B25 : Hid (Below u2.heap.size u2 (u4.drewN d5)) := Sm.below (⟨rfl, rfl, rfl, rfl⟩ : Sm (u4.drewN d5) u4) (B23.out.trans (B34.out.mono B23.out.size))
    obtain ⟨u5, hu5⟩ : ∃ u5, u4.drewN d5 = u5 := ⟨_, rfl⟩
    rw [hu5] at B5 B15 B25
    simp only [hu5]
    clear hu5 C5 R3 B34 B23 B12 B4 B3
    go_wp2
    go_loopw [7] (fun i wr => ∃ k : Nat, (k : Int) ≤ len1 ∧ Below u5.heap.size u5 wr ∧ i = .int .i64 (k : Int)) (fun i _ => len1 - (intOf i).toNat)
    case atStart => exact ⟨0, by omega, Below.refl _ _, rfl⟩
    case round =>
      obtain ⟨k, hk, b6, rfl⟩ := hrel
      have BW : Hid (∀ w7, Below u5.heap.size u5 w7 → Below w.heap.size w w7 ∧ Below u1.heap.size u1 w7 ∧ Below u2.heap.size u2 w7) := fun w7 q => ⟨B5.out.trans (q.mono B5.out.size), B15.out.trans (q.mono B15.out.size), B25.out.trans (q.mono B25.out.size)⟩
      by_cases h : (k : Int) < len1
      · have hkY : k < Y.length := by have := HL.out; omega
        have fx := HF.out _ (get_mem Y hkY)
        obtain ⟨q1, q2, -⟩ := BW.out wr b6
        obtain ⟨bl, ol, rfl, -, l0, l1, l2, l3⟩ := irow_cell (HR.out.below q1) hkY
        obtain ⟨by', oy, rfl, -, y0, y1, y2, y3⟩ := irow_cell (R1.out.below q2) hkY
        have KL : Hid (∀ w7, Below u5.heap.size u5 w7 → (w7.cell? ⟨bl, ol + k * 4, none⟩ = some (.int .i64 (Y.getD k zi).id) ∧ w7.cell? ⟨bl, ol + k * 4 + 1, none⟩ = some (.int .u64 ((Y.getD k zi).mask : Int)) ∧ w7.cell? ⟨bl, ol + k * 4 + 2, none⟩ = some (.int .i64 (Y.getD k zi).cpu) ∧ w7.cell? ⟨bl, ol + k * 4 + 3, none⟩ = some (.bool (Y.getD k zi).forced)) ∧ w7.cell? ⟨by', oy + k * 4, none⟩ = some (.int .i64 (Y.getD k zi).id) ∧ w7.cell? ⟨by', oy + k * 4 + 1, none⟩ = some (.int .u64 ((Y.getD k zi).mask : Int)) ∧ w7.cell? ⟨by', oy + k * 4 + 2, none⟩ = some (.int .i64 (Y.getD k zi).cpu) ∧ w7.cell? ⟨by', oy + k * 4 + 3, none⟩ = some (.bool (Y.getD k zi).forced)) := fun w7 b7 => by
          obtain ⟨s1, s2, -⟩ := BW.out w7 b7
          obtain ⟨b', o', e2, _, d⟩ := irow_cell (HR.out.below s1) hkY
          simp only [Option.some.injEq, Addr.mk.injEq, and_true] at e2
          obtain ⟨rfl, rfl⟩ := e2
          obtain ⟨b', o', e2, _, d'⟩ := irow_cell (R1.out.below s2) hkY
          simp only [Option.some.injEq, Addr.mk.injEq, and_true] at e2
          obtain ⟨rfl, rfl⟩ := e2
          exact ⟨d, d'⟩
        generalize Y.getD k zi = x at *
        have W1 : Hid (∀ w7 : World, Sm w7 wr → Calls Tryd.prog 35 #[.int .u64 (b : Int), .agg #[.int .i64 x.id, .int .u64 (x.mask : Int), .int .i64 x.cpu, .bool x.forced]] w7 fun e w' => e = .returned (.bool (wrg b x)) ∧ Below wr.heap.size wr w') := fun w7 e7 => (wrong_any b x w7 HB.out fx.1).mono fun _ w8 ⟨r1, r2⟩ => ⟨r1, by have := e7.from r2; rwa [e7.1] at this⟩
        have W2 : Hid (∀ v7 w7 : World, Sm w7 v7 → Calls Tryd.prog 36 #[.int .u64 (b : Int), .agg #[.int .i64 x.id, .int .u64 (x.mask : Int), .int .i64 x.cpu, .bool x.forced]] w7 fun e w' => e = .returned (.bool (wrg b x)) ∧ Below v7.heap.size v7 w') := fun v7 w7 e7 => (rwrong_any b x w7 HB.out fx.1).mono fun _ w8 ⟨r1, r2⟩ => ⟨r1, by have := e7.from r2; rwa [e7.1] at this⟩
        have B6 : Hid (Below u5.heap.size u5 wr) := b6
        generalize wrg b x = t at *
        have tt : (t != t) = false := by simp
        have hky : (k : Int) < (len1 : Int) := h
        clear fx q1 q2 hkY b6
        go_wp2_with fail
        go_region_held3 (fun w' => (w'.cell? ⟨bl, ol + k * 4, none⟩ = some (.int .i64 x.id) ∧ w'.cell? ⟨bl, ol + k * 4 + 1, none⟩ = some (.int .u64 (x.mask : Int)) ∧ w'.cell? ⟨bl, ol + k * 4 + 2, none⟩ = some (.int .i64 x.cpu) ∧ w'.cell? ⟨bl, ol + k * 4 + 3, none⟩ = some (.bool x.forced)) ∧ w'.cell? ⟨by', oy + k * 4, none⟩ = some (.int .i64 x.id) ∧ w'.cell? ⟨by', oy + k * 4 + 1, none⟩ = some (.int .u64 (x.mask : Int)) ∧ w'.cell? ⟨by', oy + k * 4 + 2, none⟩ = some (.int .i64 x.cpu) ∧ w'.cell? ⟨by', oy + k * 4 + 3, none⟩ = some (.bool x.forced)) (go_keep)
          (first | (go_at_call 35; refine (W1.out _ ?_).mono ?_; exact ⟨rfl, rfl, rfl, rfl⟩; rintro e v7 ⟨rfl, f7⟩; have D7 : Hid (Below u5.heap.size u5 v7) := B6.out.trans (f7.mono B6.out.size); obtain ⟨⟨m0, m1, m2, m3⟩, n0, n1, n2, n3⟩ := KL.out v7 D7.out; clear f7) | (go_at_call 36; refine (W2.out v7 _ ?_).mono ?_; exact ⟨rfl, rfl, rfl, rfl⟩; rintro e v8 ⟨rfl, f8⟩; have D8 : Hid (Below u5.heap.size u5 v8) := D7.out.trans (f8.mono D7.out.size); obtain ⟨⟨r0, r1, r2, r3⟩, s0, s1, s2, s3⟩ := KL.out v8 D8.out; clear f8))
        all_goals go_wp2
        go_roundw
        case rel => exact ⟨k + 1, by omega, by have q := D8.out; exact ⟨q.os, q.tape, q.output, q.size, q.block⟩, by go_num⟩
        case measure => simp [intOf]; omega
      · obtain ⟨q1, -, q3⟩ := BW.out wr b6
        have C6 : Hid (∀ _ : Unit, _) := fun _ => repair_any b (mend b Y) _ wr HB.out (R2.out.below q3) (by omega) (mend_fine HF.out) (TB.out wr q1) (by have := q1.size; have := H0.out; omega)
        rw [mend_mend Y HB.out] at C6
        have Q1 : Hid (Below w.heap.size w wr) := q1
        have hd : decide ((k : Int) < len1) = false := decide_eq_false h
        clear q1 q3 b6
        go_wp2_with fail
        refine (C6.out ()).mono ?_
        rintro e u7 ⟨v7, rfl, g7⟩
        obtain ⟨a7, c7, rfl⟩ := owng_shape g7.own
        have B7 : Hid (Below w.heap.size w u7) := Q1.out.trans (g7.bel.mono Q1.out.size)
        have K7 : Hid (∀ _ : Unit, _) := fun _ => KN.out u7 B7.out
        clear g7
        go_wp2_with fail
        refine (K7.out ()).mono ?_
        rintro e u8 ⟨rfl, rfl⟩
        go_wp2
        go_ret
        exact ⟨rfl, B7.out⟩

set_option maxRecDepth 100000 in
theorem lifted (os : Os) (started : os.Started) (H : Type) (enc : TypeId × Value → H) :
    ReturnsInHanded {} Tryd.checked os 8 .any (fun w args => (Rows.affinRepairsSpec.pre enc Tryd.prog Tryd.f8 [] false w args ∧ laidMetH Tryd.prog laidTab w) ∧ sizedMet enc Tryd.prog Tryd.f8 (OpenSpec.ofChange Rows.affinRepairsSpec) false w args)
      (Rows.affinRepairsSpec.post enc Tryd.prog Tryd.f8 false true false false) := by
  refine returnsInHanded_of_change_and (C := Tryd.checked) (X := fun w _ => laidMetH Tryd.prog laidTab w) (fun _ _ _ hh h => h.of_heap hh) own started (by kernel_rfl) Tryd.func8
    (ChangeSpec.witness_shaped (enc := enc) (C := Tryd.checked) (os := os) (X := fun w _ => laidMetH Tryd.prog laidTab w) false (World.doorLaid Tryd.prog 400 os) #[.int .u64 0, .slice none 0 0] 8 rfl (World.shaped_of_RefB (by kernel_rfl) (by kernel_rfl)) (by kernel_rfl) (by kernel_rfl) (by kernel_rfl) (door_met os _)) ?_
  intro W base args ds gs before hval0 hW _ _ hL _
  have hval : ∀ (j : Nat) t v, Tryd.f8.params[j]? = some t → args[j]? = some v → Value.okWide Tryd.prog W .any base t v := hval0
  have hW' := hW
  obtain ⟨p, q, hA0, hV, rfl, hfz, hnd⟩ := hW
  have hA : DataW.TrodAll enc Tryd.prog W 0 (fun _ => true) true Tryd.f8.params.toList args.toList ds p := hA0
  rw [Tryd.params8] at hA hval
  obtain ⟨v0, vs0, d0, ds0, p0, q0, hargs, rfl, rfl, h0, r0⟩ := trodAll_cons hA
  obtain ⟨v1, vs1, d1, ds1, p1, q1, rfl, rfl, rfl, h1, r1⟩ := trodAll_cons r0
  obtain ⟨rfl, rfl, rfl⟩ := trodAll_nil r1
  obtain rfl : args = #[v0, v1] := by cases args; simp_all
  obtain ⟨rfl, rfl⟩ := trodVars_none hV
  obtain ⟨a0, rfl, rfl, rfl, w0⟩ := open_int Tryd.underlying32 (hval 0 32 v0 rfl rfl) h0
  obtain ⟨a1, len1, cap1, rfl⟩ := okWide_slice Tryd.underlying67 (hval 1 67 v1 rfl rfl)
  have k1 := h1
  have lt1 : ∀ x ∈ p1, x.block < W.heap.size := by obtain ⟨m, hm⟩ := k1; exact DataW.trod_lt m _ _ _ hm
  obtain ⟨X1, w1, z1⟩ : ∃ X : Nat → Nat → Int, TRow W (.slice a1 len1 cap1) len1 [1, 2, 1, 0] X ∧ ∀ i, i < len1 → ∀ j, j < [1, 2, 1, 0].length → kwf ([1, 2, 1, 0].getD j 1) (X i j) := by
    obtain ⟨fuel, hf⟩ := h1
    exact open_recx [1, 2, 1, 0] Tryd.underlying67 Tryd.underlying79 (by kernel_rfl) rfl (by decide) (fun | 0, _ => ⟨_, rfl, rfl, by kernel_rfl, Tryd.underlying3⟩ | 1, _ => ⟨_, rfl, rfl, by kernel_rfl, Tryd.underlying32⟩ | 2, _ => ⟨_, rfl, rfl, by kernel_rfl, Tryd.underlying3⟩ | 3, _ => ⟨_, rfl, rfl, by kernel_rfl, Tryd.underlying4⟩ | n + 4, h => absurd h (by simp only [List.length]; omega)) hf
  obtain ⟨hT, hS⟩ := of_laid hL
  clear hA0 hval0
  refine (walk a0 a1 len1 cap1 X1 W w0 w1 z1 hT hS).mono fun e W' ⟨he, bel⟩ => ?_
  subst he
  exact ⟨_, rfl, _, _, _, [], _, [], hW', trodAll_mk1 (shut_bool Tryd.underlying4 _), (trodAll_cons_mk (shut_int Tryd.underlying32 w0) (trodAll_cons_mk (Below.trod laidOut (by kernel_rfl) (of_decide_eq_true (by kernel_rfl)) k1 bel lt1) trodAll_mk0)), rfl, bel.frame _, fun h => by cases h⟩

theorem over : Rows.AffinRepairsSaid :=
  OpenClaim.holds_of_wide 8 Tryd.f8 rfl rfl rfl rfl rfl rfl rfl ⟨rfl, rfl, rfl, rfl, rfl⟩ rfl rfl rfl rfl rfl (by kernel_rfl) Tryd.func8 (by kernel_rfl)
    (of_decide_eq_true (by kernel_rfl)) (by unfold Func.isWrapper; first | (rw [if_pos (by decide +kernel)]; kernel_rfl) | (rw [if_neg (by decide +kernel)]; exact ⟨rfl, rfl⟩))
    (fun os started H enc _ => lifted os started H enc)
end Go.Proofs.YtghnpmkibnggeaaDoor.affinRepairs

namespace Go.Proofs.YtghnpmkibnggeaaDoor
open Go
theorem affinRepairs_card : Rows.AffinRepairsCardSaid :=
  Claim7.holds_tied_plain_at .later [] [.data] true (true, "80b54aa34c40d67ba7f3d0bdc9eb09b27652aeb5d06e49ed2193b15d49b868c6") false
    affinRepairs.over (fun _ h => by cases h) (by kernel_rfl) (fun _ h => by cases h) affinRepairs_row_tie rfl ⟨rfl, rfl⟩ (by kernel_rfl) rfl
    (fun f fn hf hfn => by
      obtain rfl : f = 8 := Option.some.inj ((show Tryd.prog.funcNamed "davit/davitlaw12.AffinRepairs" = some 8 by kernel_rfl).symm.trans hf) |>.symm
      obtain rfl : fn = Tryd.f8 := (Option.some.inj (Tryd.func8.symm.trans hfn)).symm
      exact ⟨by kernel_rfl, fun j t ht => by
        rw [Tryd.params8] at ht
        have hm : t ∈ [32, 67] := by simpa using Array.mem_of_getElem? ht
        have hall : ([32, 67].all fun u => !Tryd.prog.wantsStandIn u) = true := by kernel_rfl
        exact (show Tryd.prog.wantsStandIn t = false by simpa using List.all_eq_true.1 hall t hm)⟩)
    (by kernel_rfl)
#print axioms affinRepairs_card
end Go.Proofs.YtghnpmkibnggeaaDoor
