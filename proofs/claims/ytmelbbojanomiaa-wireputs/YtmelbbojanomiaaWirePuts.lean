/- Proved: for every list l of events, davitlaw26.WirePuts(l) returns true: the bytes of each of the first 50, and those of all (700 at most, as the law itself says), are what the document says, and l is left alone; no condition. -/
import Derived.Test.YtmelbbojanomiaaRows
import Derived.Test.YtmelbbojanomiaaFo
import Derived.Test.YtmelbbojanomiaaWr5
import Derived.WalkKit
import Derived.ProofKit
import Derived.OpenShut
import Derived.Stop.Joined
import Derived.ShutString
import Derived.ChangeOld
import Derived.Below
import Derived.Carry
import Derived.Test.YtmelbbojanomiaaFt
import Derived.Deep.RegionHeld3
namespace Go.Proofs.Ytmelbbojanomiaa.wirePuts
open Go.ChangeShapes Go.WideShapes Go.ChangeAt Go.RowKit
open Wi0
set_option linter.unusedVariables false
set_option linter.unusedSimpArgs false

theorem own : ownKnob Try.prog.godebug = none := by kernel_rfl
theorem laidOut : laidOutB Try.prog = true := by kernel_rfl

set_option maxRecDepth 100000 in
set_option maxHeartbeats 4000000 in
theorem walk (a0 : Option Addr) (len0 cap0 : Nat) (X0 : Nat → Nat → Int) (w : World) (w0 : TRow w (.slice a0 len0 cap0) len0 [1, 1, 1, 2, 1] X0) (z0 : ∀ i, i < len0 → ∀ j, j < [1, 1, 1, 2, 1].length → kwf ([1, 1, 1, 2, 1].getD j 1) (X0 i j)) :
    Calls Try.prog 8 #[.slice a0 len0 cap0] w fun e w' => e = .returned (.bool true) ∧ Below w.heap.size w w' := by
  have KN : Hid (∀ w, _) := fun w => wknown_yes w
  have hr := lrow_of_trow w0
  have hok := ok_of_trow z0
  have hyl : ((List.range len0).map (evOf X0)).length = len0 := by simp
  generalize (List.range len0).map (evOf X0) = Y at *
  have HR : Hid (LRow evy w (.slice a0 len0 cap0) Y) := hr
  have HK : Hid (∀ e ∈ Y, Eok e) := hok
  have HN : Hid (Y.length = len0) := hyl
  clear w0 z0 hr hok hyl
  by_cases big : (700 : Int) < len0
  · go_enter Try.func8, Try.ntmps8
    go_wp2_with fail
    refine (KN.out _).mono ?_
    rintro e u ⟨rfl, b⟩
    have B : Hid (Below w.heap.size w u) := b
    clear b
    go_wp2
    go_ret
    exact ⟨rfl, B.out⟩
  go_enter Try.func8, Try.ntmps8
  go_wp2
  go_loopw [3] (fun i wr => ∃ k : Nat, (k : Int) ≤ 50 ∧ (k : Int) ≤ len0 ∧ Below w.heap.size w wr ∧ i = .int .i64 k) (fun i _ => 50 - (intOf i).toNat)
  case atStart => exact ⟨0, by omega, by omega, Below.refl _ _, rfl⟩
  case round =>
    obtain ⟨k, hk, hk2, bel, rfl⟩ := hrel
    have tail : (¬ (k : Int) < len0 ∧ decide ((k : Int) < len0) = false) ∨ ((k : Int) < len0 ∧ ¬ (k : Int) < 50) ∨ ((k : Int) < len0 ∧ (k : Int) < 50) := by
      by_cases h : (k : Int) < len0
      · by_cases h2 : (k : Int) < 50
        · exact Or.inr (Or.inr ⟨h, h2⟩)
        · exact Or.inr (Or.inl ⟨h, h2⟩)
      · exact Or.inl ⟨h, decide_eq_false h⟩
    rw [← or_assoc] at tail
    rcases tail with tail | ⟨h, h2⟩
    · have A1 : Hid (∀ _ : Unit, _) := fun _ => all_any wr _ Y (HR.out.below bel) HK.out (by have := HN.out; omega)
      have A2 : Hid (∀ u, Below wr.heap.size wr u → _) := fun u b => rall_any u _ Y (HR.out.below (bel.trans (b.mono bel.size))) HK.out (by have := HN.out; omega)
      have BW : Hid (Below w.heap.size w wr) := bel
      generalize Y.flatMap putE = AL at *
      clear bel
      rcases tail with ⟨h, hd⟩ | ⟨h, h2⟩
      all_goals (
        go_wp2_with fail
        refine (A1.out ()).mono ?_
        rintro e u1 ⟨v1, rfl, g1⟩
        have G1 : Hid (BG wr u1 v1 AL) := g1
        obtain ⟨a1, c1, hv1⟩ := g1.shape
        subst hv1
        have D2 : Hid (∀ _ : Unit, _) := fun _ => A2.out u1 g1.bel
        clear g1 A1 A2
        go_wp2_with fail
        refine (D2.out ()).mono ?_
        rintro e u2 ⟨v2, rfl, g2⟩
        obtain ⟨a2, c2, hv2⟩ := g2.shape
        subst hv2
        have D3 : Hid (∀ _ : Unit, _) := fun _ => bytes_yes u2 _ _ AL (G1.out.row.below g2.bel) g2.row
        have B2 : Hid (Below w.heap.size w u2) := by
          have b1 := BW.out.trans (G1.out.bel.mono BW.out.size)
          exact b1.trans (g2.bel.mono b1.size)
        clear g2 G1 D2
        go_wp2_with fail
        refine (D3.out ()).mono ?_
        rintro e w'' ⟨rfl, e0⟩
        subst e0
        clear D3
        go_wp2_with fail
        refine (KN.out _).mono ?_
        rintro e u4 ⟨rfl, b4⟩
        have B4 : Hid (Below w.heap.size w u4) := B2.out.trans (b4.mono B2.out.size)
        clear b4
        go_wp2
        go_ret
        exact ⟨rfl, B4.out⟩)
    · have hkl : k < Y.length := by have := HN.out; omega
      obtain ⟨b0, off, e0, b0l, hc⟩ := lrow_cell (HR.out.below bel) hkl
      subst e0
      have oke := HK.out (Y.getD k z5) (by rw [List.getD_eq_getElem?_getD, List.getElem?_eq_getElem hkl]; exact List.getElem_mem hkl)
      have hc' : ∀ j, j < 5 → wr.cell? ⟨b0, off + k * 5 + j, none⟩ = (evL (Y.getD k z5))[j]? := hc
      generalize Y.getD k z5 = ev at *
      have d0 : wr.cell? ⟨b0, off + k * 5, none⟩ = some (.int .i64 ev.kind) := hc' 0 (by omega)
      have d1 : wr.cell? ⟨b0, off + k * 5 + 1, none⟩ = some (.int .i64 ev.cpu) := hc' 1 (by omega)
      have d2 : wr.cell? ⟨b0, off + k * 5 + 2, none⟩ = some (.int .i64 ev.id) := hc' 2 (by omega)
      have d3 : wr.cell? ⟨b0, off + k * 5 + 3, none⟩ = some (.int .u64 ev.mask) := hc' 3 (by omega)
      have d4 : wr.cell? ⟨b0, off + k * 5 + 4, none⟩ = some (.int .i64 ev.n) := hc' 4 (by omega)
      have KC : Hid (∀ t, Below wr.heap.size wr t → t.cell? ⟨b0, off + k * 5, none⟩ = some (.int .i64 ev.kind) ∧ t.cell? ⟨b0, off + k * 5 + 1, none⟩ = some (.int .i64 ev.cpu) ∧ t.cell? ⟨b0, off + k * 5 + 2, none⟩ = some (.int .i64 ev.id) ∧ t.cell? ⟨b0, off + k * 5 + 3, none⟩ = some (.int .u64 ev.mask) ∧ t.cell? ⟨b0, off + k * 5 + 4, none⟩ = some (.int .i64 ev.n)) := fun t b =>
        ⟨(b.cell (p := ⟨b0, off + k * 5, none⟩) b0l).trans (hc' 0 (by omega)), (b.cell (p := ⟨b0, off + k * 5 + 1, none⟩) b0l).trans (hc' 1 (by omega)), (b.cell (p := ⟨b0, off + k * 5 + 2, none⟩) b0l).trans (hc' 2 (by omega)), (b.cell (p := ⟨b0, off + k * 5 + 3, none⟩) b0l).trans (hc' 3 (by omega)), (b.cell (p := ⟨b0, off + k * 5 + 4, none⟩) b0l).trans (hc' 4 (by omega))⟩
      have P1 : Hid (∀ t, Sm t wr → _) := fun t s => put_smr wr t ev oke s
      have P2 : Hid (∀ w1 t v1, BG wr w1 v1 (putE ev) → Sm t w1 → _) := fun w1 t v1 g s => rput_smr wr w1 t v1 ev oke g s
      have P3 : Hid (∀ w2 t v1 v2, TwoB wr w2 v1 v2 (putE ev) → Sm t w2 → _) := fun w2 t v1 v2 h s => bytes_smr wr w2 t v1 v2 (putE ev) h s
      have BW : Hid (Below w.heap.size w wr) := bel
      clear hc hc' oke hkl b0l bel
      generalize putE ev = PE at *
      generalize ev.kind = y0 at *
      generalize ev.cpu = y1 at *
      generalize ev.id = y2 at *
      generalize ev.mask = y3 at *
      generalize ev.n = y4 at *
      go_wp2_with fail
      go_region_held3 (fun w' => w'.cell? ⟨b0, off + k * 5, none⟩ = some (.int .i64 y0) ∧ w'.cell? ⟨b0, off + k * 5 + 1, none⟩ = some (.int .i64 y1) ∧ w'.cell? ⟨b0, off + k * 5 + 2, none⟩ = some (.int .i64 y2) ∧ w'.cell? ⟨b0, off + k * 5 + 3, none⟩ = some (.int .u64 y3) ∧ w'.cell? ⟨b0, off + k * 5 + 4, none⟩ = some (.int .i64 y4)) (go_keep)
        (first | (go_at_call 38; refine (P1.out _ ?_).mono ?_; exact ⟨rfl, rfl, rfl, rfl⟩; rintro e w' ⟨v4, rfl, g4⟩; have G4 : Hid (BG wr w' v4 PE) := g4; obtain ⟨d0, d1, d2, d3, d4⟩ := KC.out _ g4.bel; clear g4 P1) | (go_at_call 39; refine (P2.out _ _ _ G4.out ?_).mono ?_; exact ⟨rfl, rfl, rfl, rfl⟩; rintro e w' ⟨v5, rfl, g5⟩; have G5 : Hid (TwoB wr w' v4 v5 PE) := g5; obtain ⟨d0, d1, d2, d3, d4⟩ := KC.out _ g5.bel; clear g5 P2 G4) | (go_at_call 37; refine (P3.out _ _ _ _ G5.out ?_).mono ?_; exact ⟨rfl, rfl, rfl, rfl⟩; rintro e w' ⟨rfl, b6⟩; have B6 : Hid (Below w.heap.size w w') := BW.out.trans (b6.mono BW.out.size); obtain ⟨d0, d1, d2, d3, d4⟩ := KC.out _ b6; clear b6 P3 G5))
      have FIN : Hid (Below w.heap.size w _) := B6.out
      go_wp2
      go_roundw
      case rel => exact ⟨k + 1, by omega, by omega, ⟨FIN.out.os, FIN.out.tape, FIN.out.output, FIN.out.size, FIN.out.block⟩, by go_num⟩
      case measure => simp [intOf]; omega

set_option maxRecDepth 100000 in
theorem lifted (os : Os) (started : os.Started) (H : Type) (enc : TypeId × Value → H) :
    ReturnsInHanded {} Try.checked os 8 .any (Rows.wirePutsSpec.pre6 enc Try.prog Try.f8 Rows.wirePutsRow.domain false) (Rows.wirePutsSpec.post enc Try.prog Try.f8 false true false false) := by
  refine returnsInHanded_of_change (C := Try.checked) own started (by kernel_rfl) Try.func8
    (ChangeSpec.witness6 (enc := enc) (C := Try.checked) false ⟨#[], #[.slice none 0 0], []⟩ 8 (by kernel_rfl) (by kernel_rfl) (by kernel_rfl) (by kernel_rfl)) ?_
  intro W base args ds gs before hval0 hW hcnd _
  have hval : ∀ (j : Nat) t v, Try.f8.params[j]? = some t → args[j]? = some v → Value.okWide Try.prog W .any base t v := hval0
  have hW' := hW
  obtain ⟨p, q, hA0, hV, rfl, hfz, hnd⟩ := hW
  have hA : DataW.TrodAll enc Try.prog W 0 (fun _ => true) true Try.f8.params.toList args.toList ds p := hA0
  rw [Try.params8] at hA hval
  obtain ⟨v0, vs0, d0, ds0, p0, q0, hargs, rfl, rfl, h0, r0⟩ := trodAll_cons hA
  obtain ⟨rfl, rfl, rfl⟩ := trodAll_nil r0
  obtain rfl : args = #[v0] := by cases args; simp_all
  obtain ⟨rfl, rfl⟩ := trodVars_none hV
  obtain ⟨a0, len0, cap0, rfl⟩ := okWide_slice Try.underlying51 (hval 0 51 v0 rfl rfl)
  have k0 := h0
  have lt0 : ∀ x ∈ p0, x.block < W.heap.size := by obtain ⟨m, hm⟩ := k0; exact DataW.trod_lt m _ _ _ hm
  obtain ⟨X0, w0, z0⟩ : ∃ X : Nat → Nat → Int, TRow W (.slice a0 len0 cap0) len0 [1, 1, 1, 2, 1] X ∧ ∀ i, i < len0 → ∀ j, j < [1, 1, 1, 2, 1].length → kwf ([1, 1, 1, 2, 1].getD j 1) (X i j) := by
    obtain ⟨fuel, hf⟩ := h0
    exact open_recx [1, 1, 1, 2, 1] Try.underlying51 Try.underlying57 (by kernel_rfl) rfl (by decide) (fun | 0, _ => ⟨_, rfl, rfl, by kernel_rfl, Try.underlying3⟩ | 1, _ => ⟨_, rfl, rfl, by kernel_rfl, Try.underlying3⟩ | 2, _ => ⟨_, rfl, rfl, by kernel_rfl, Try.underlying3⟩ | 3, _ => ⟨_, rfl, rfl, by kernel_rfl, Try.underlying55⟩ | 4, _ => ⟨_, rfl, rfl, by kernel_rfl, Try.underlying2⟩ | n + 5, h => absurd h (by simp only [List.length]; omega)) hf
  clear hA0 hval0
  refine (walk a0 len0 cap0 X0 W w0 z0).mono fun e W' ⟨he, bel⟩ => ?_
  subst he
  exact ⟨_, rfl, _, _, _, [], _, [], hW', trodAll_mk1 (shut_bool Try.underlying4 _), (trodAll_cons_mk (Below.trod laidOut (by kernel_rfl) (of_decide_eq_true (by kernel_rfl)) k0 bel lt0) trodAll_mk0), rfl, bel.frame _, fun h => by cases h⟩

theorem over : Rows.WirePutsSaid :=
  OpenClaim.holds_of_wide 8 Try.f8 rfl rfl rfl rfl rfl rfl rfl ⟨rfl, rfl, rfl, rfl, rfl⟩ rfl rfl rfl rfl rfl (by kernel_rfl) Try.func8 (by kernel_rfl)
    (of_decide_eq_true (by kernel_rfl)) (by unfold Func.isWrapper; first | (rw [if_pos (by decide +kernel)]; kernel_rfl) | (rw [if_neg (by decide +kernel)]; exact ⟨rfl, rfl⟩))
    (fun os started H enc _ => lifted os started H enc)
end Go.Proofs.Ytmelbbojanomiaa.wirePuts

namespace Go.Proofs.Ytmelbbojanomiaa
open Go
theorem wirePuts_holds : Rows.WirePutsSaid := wirePuts.over
#print axioms wirePuts_holds
end Go.Proofs.Ytmelbbojanomiaa
