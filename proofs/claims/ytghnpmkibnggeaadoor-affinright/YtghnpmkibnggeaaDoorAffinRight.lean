/- Proved: for all masks want and active and every number near, davitlaw12.AffinRight(want, active, near) returns true: a core that is chosen may be, and is wanted, if one of those that are wanted may be; no condition but that the listed table is as the program's text lays it, which the card ties. -/
import Derived.Test.YtghnpmkibnggeaaDoorRows
import Derived.Test.YtghnpmkibnggeaaDoorTie
import Derived.Test.YtghnpmkibnggeaaDoorCards
import Derived.Test.YtghnpmkibnggeaaDoorMu
import Derived.Test.YtghnpmkibnggeaaDoorFo
import Derived.Test.YtghnpmkibnggeaaDoorAa
import Derived.Test.YtghnpmkibnggeaaDoorKe
import Derived.WalkKit
import Derived.ProofKit
import Derived.OpenShut
import Derived.Stop.Joined
import Derived.ShutString
import Derived.ChangeOld
import Derived.Below
import Derived.Carry
import Derived.LaidMore
import Derived.SevenTiedAt
namespace Go.Proofs.YtghnpmkibnggeaaDoor.affinRight
open Go.ChangeShapes Go.WideShapes Go.ChangeAt Go.RowKit
open Mm
set_option linter.unusedVariables false
set_option linter.unusedSimpArgs false

set_option maxRecDepth 100000 in
set_option maxHeartbeats 4000000 in
theorem walk (a0 : Int) (a1 : Int) (a2 : Int) (w : World) (w0 : (Lit.int .u64 a0).wf = true) (w1 : (Lit.int .u64 a1).wf = true) (w2 : (Lit.int .i64 a2).wf = true) (ht : Tab w) (hs : 0 < w.heap.size) :
    Calls Tryd.prog 7 #[.int .u64 a0, .int .u64 a1, .int .i64 a2] w fun e w' => e = .returned (.bool true) ∧ Below w.heap.size w w' := by
  obtain ⟨a, rfl⟩ := Int.eq_ofNat_of_zero_le (show 0 ≤ a0 from (bounds_u64 w0).1)
  obtain ⟨b, rfl⟩ := Int.eq_ofNat_of_zero_le (show 0 ≤ a1 from (bounds_u64 w1).1)
  have ha : a < 18446744073709551616 := by have := (bounds_u64 w0).2; omega
  have hb : b < 18446744073709551616 := by have := (bounds_u64 w1).2; omega
  have hc := (bounds_i64 w2).1
  have C1 : Hid (∀ _ : Unit, _) := fun _ => choose_any a b a2 w ha hb hc ht
  have HK : Hid (∀ w', Below w.heap.size w w' → _) := fun w' bel => afknown_yes w' (ht.keep hs (by simp) (Fr.of_below bel))
  by_cases h0 : b = 0
  · subst h0
    rw [show cE 0 = 12 from rfl] at C1
    generalize cN a 0 a2 = n1 at *
    generalize cF a 0 = n2 at *
    have K : Hid (∀ _ : Unit, _) := fun _ => HK.out w (Below.refl _ _)
    clear ha hb hc ht hs w0 w1 w2 HK
    go_enter Tryd.func7, Tryd.ntmps7
    go_wp2_with fail
    refine (C1.out ()).mono ?_
    rintro e u1 ⟨rfl, rfl⟩
    go_wp2_with fail
    refine (K.out ()).mono ?_
    rintro e u3 ⟨rfl, rfl⟩
    go_wp2
    go_ret
    exact ⟨rfl, Below.refl _ _⟩
  · have hr := cN_right (a := a) (c := a2) hb h0
    rw [show cE b = 0 from if_neg h0, show cF a b = decide (a &&& b = 0) from if_neg h0] at C1
    have C2 : Hid (∀ w, _) := fun w => krefhas_any b (cN a b a2) w hb
    have C3 : Hid (∀ w, _) := fun w => krefhas_any a (cN a b a2) w ha
    have C4 : Hid (∀ w, _) := fun w => krefand_any a b w ha hb
    rw [hr.1] at C2
    rw [hr.2] at C3
    have e1 : (decide (a &&& b = 0) == (((a &&& b : Nat) : Int) == 0)) = true := by
      by_cases h1 : a &&& b = 0
      · rw [h1]; rfl
      · have : (((a &&& b : Nat) : Int) == 0) = false := by rw [beq_eq_false_iff_ne]; omega
        rw [decide_eq_false h1, this]; rfl
    generalize cN a b a2 = n1 at *
    generalize a &&& b = P at *
    generalize decide (P = 0) = f at *
    have e2 : ((!f) == (!f)) = true := by simp
    clear ha hb hc ht hs w0 w1 w2 hr h0
    go_enter Tryd.func7, Tryd.ntmps7
    go_wp2_with fail
    refine (C1.out ()).mono ?_
    rintro e u1 ⟨rfl, rfl⟩
    go_wp2_with fail
    refine (C2.out _).mono ?_
    rintro e u2 ⟨rfl, rfl⟩
    go_wp2_with fail
    refine (C3.out _).mono ?_
    rintro e u2 ⟨rfl, rfl⟩
    go_wp2_with fail
    refine (C4.out _).mono ?_
    rintro e u3 ⟨rfl, b3⟩
    have K : Hid (∀ _ : Unit, _) := fun _ => HK.out u3 b3
    have B : Hid (Below u2.heap.size u2 u3) := b3
    clear b3
    go_wp2_with fail
    refine (K.out ()).mono ?_
    rintro e u4 ⟨rfl, rfl⟩
    go_wp2
    go_ret
    exact ⟨rfl, B.out⟩

set_option maxRecDepth 100000 in
theorem lifted (os : Os) (started : os.Started) (H : Type) (enc : TypeId × Value → H) :
    ReturnsInHanded {} Tryd.checked os 7 .any (fun w args => (Rows.affinRightSpec.pre enc Tryd.prog Tryd.f7 [] false w args ∧ laidMetH Tryd.prog laidTab w) ∧ sizedMet enc Tryd.prog Tryd.f7 (OpenSpec.ofChange Rows.affinRightSpec) false w args)
      (Rows.affinRightSpec.post enc Tryd.prog Tryd.f7 false true false false) := by
  refine returnsInHanded_of_change_and (C := Tryd.checked) (X := fun w _ => laidMetH Tryd.prog laidTab w) (fun _ _ _ hh h => h.of_heap hh) own started (by kernel_rfl) Tryd.func7
    (ChangeSpec.witness_shaped (enc := enc) (C := Tryd.checked) (os := os) (X := fun w _ => laidMetH Tryd.prog laidTab w) false (World.doorLaid Tryd.prog 400 os) #[.int .u64 0, .int .u64 0, .int .i64 0] 8 rfl (World.shaped_of_RefB (by kernel_rfl) (by kernel_rfl)) (by kernel_rfl) (by kernel_rfl) (by kernel_rfl) (door_met os _)) ?_
  intro W base args ds gs before hval0 hW _ _ hL _
  have hval : ∀ (j : Nat) t v, Tryd.f7.params[j]? = some t → args[j]? = some v → Value.okWide Tryd.prog W .any base t v := hval0
  have hW' := hW
  obtain ⟨p, q, hA0, hV, rfl, hfz, hnd⟩ := hW
  have hA : DataW.TrodAll enc Tryd.prog W 0 (fun _ => true) true Tryd.f7.params.toList args.toList ds p := hA0
  rw [Tryd.params7] at hA hval
  obtain ⟨v0, vs0, d0, ds0, p0, q0, hargs, rfl, rfl, h0, r0⟩ := trodAll_cons hA
  obtain ⟨v1, vs1, d1, ds1, p1, q1, rfl, rfl, rfl, h1, r1⟩ := trodAll_cons r0
  obtain ⟨v2, vs2, d2, ds2, p2, q2, rfl, rfl, rfl, h2, r2⟩ := trodAll_cons r1
  obtain ⟨rfl, rfl, rfl⟩ := trodAll_nil r2
  obtain rfl : args = #[v0, v1, v2] := by cases args; simp_all
  obtain ⟨rfl, rfl⟩ := trodVars_none hV
  obtain ⟨a0, rfl, rfl, rfl, w0⟩ := open_int Tryd.underlying32 (hval 0 32 v0 rfl rfl) h0
  obtain ⟨a1, rfl, rfl, rfl, w1⟩ := open_int Tryd.underlying32 (hval 1 32 v1 rfl rfl) h1
  obtain ⟨a2, rfl, rfl, rfl, w2⟩ := open_int Tryd.underlying3 (hval 2 3 v2 rfl rfl) h2
  obtain ⟨hT, hS⟩ := of_laid hL
  clear hA0 hval0
  refine (walk a0 a1 a2 W w0 w1 w2 hT hS).mono fun e W' ⟨he, bel⟩ => ?_
  subst he
  exact ⟨_, rfl, _, _, _, [], _, [], hW', trodAll_mk1 (shut_bool Tryd.underlying4 _), (trodAll_cons_mk (shut_int Tryd.underlying32 w0) (trodAll_cons_mk (shut_int Tryd.underlying32 w1) (trodAll_cons_mk (shut_int Tryd.underlying3 w2) trodAll_mk0))), rfl, bel.frame _, fun h => by cases h⟩

theorem over : Rows.AffinRightSaid :=
  OpenClaim.holds_of_wide 7 Tryd.f7 rfl rfl rfl rfl rfl rfl rfl ⟨rfl, rfl, rfl, rfl, rfl⟩ rfl rfl rfl rfl rfl (by kernel_rfl) Tryd.func7 (by kernel_rfl)
    (of_decide_eq_true (by kernel_rfl)) (by unfold Func.isWrapper; first | (rw [if_pos (by decide +kernel)]; kernel_rfl) | (rw [if_neg (by decide +kernel)]; exact ⟨rfl, rfl⟩))
    (fun os started H enc _ => lifted os started H enc)
end Go.Proofs.YtghnpmkibnggeaaDoor.affinRight

namespace Go.Proofs.YtghnpmkibnggeaaDoor
open Go
theorem affinRight_card : Rows.AffinRightCardSaid :=
  Claim7.holds_tied_plain_at .later [] [.data] true (true, "80b54aa34c40d67ba7f3d0bdc9eb09b27652aeb5d06e49ed2193b15d49b868c6") false
    affinRight.over (fun _ h => by cases h) (by kernel_rfl) (fun _ h => by cases h) affinRight_row_tie rfl ⟨rfl, rfl⟩ (by kernel_rfl) rfl
    (fun f fn hf hfn => by
      obtain rfl : f = 7 := Option.some.inj ((show Tryd.prog.funcNamed "davit/davitlaw12.AffinRight" = some 7 by kernel_rfl).symm.trans hf) |>.symm
      obtain rfl : fn = Tryd.f7 := (Option.some.inj (Tryd.func7.symm.trans hfn)).symm
      exact ⟨by kernel_rfl, fun j t ht => by
        rw [Tryd.params7] at ht
        have hm : t ∈ [32, 32, 3] := by simpa using Array.mem_of_getElem? ht
        have hall : ([32, 32, 3].all fun u => !Tryd.prog.wantsStandIn u) = true := by kernel_rfl
        exact (show Tryd.prog.wantsStandIn t = false by simpa using List.all_eq_true.1 hall t hm)⟩)
    (by kernel_rfl)
#print axioms affinRight_card
end Go.Proofs.YtghnpmkibnggeaaDoor
