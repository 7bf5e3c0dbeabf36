/- Proved: for all masks a and b, davitlaw01.MaskParts(a, b) returns true: And, Or, Not and Within answer what the document's definition answers; no condition but that the listed table is as the program's text lays it, which the card ties. -/
import Derived.Test.YtojpeanakjefoaaDoorRows
import Derived.Test.YtojpeanakjefoaaDoorTie
import Derived.Test.YtojpeanakjefoaaDoorCards
import Derived.Test.YtojpeanakjefoaaDoorMt
import Derived.Test.YtojpeanakjefoaaDoorMg
import Derived.WalkKit
import Derived.ProofKit
import Derived.LaidMore
import Derived.OpenShut
import Derived.Stop.Joined
import Derived.ShutString
import Derived.ChangeOld
import Derived.Below
import Derived.SevenTiedAt
namespace Go.Proofs.YtojpeanakjefoaaDoor.maskParts
open Go.ChangeShapes Go.WideShapes Go.ChangeAt Go.RowKit
open Mm
set_option linter.unusedVariables false

set_option maxHeartbeats 2000000 in
theorem walk (a0 : Int) (a1 : Int) (w : World) (w0 : (Lit.int .u64 a0).wf = true) (w1 : (Lit.int .u64 a1).wf = true) (ht : Tab w) (hs : 0 < w.heap.size) :
    Calls Tryd.prog 4 #[.int .u64 a0, .int .u64 a1] w fun e w' => e = .returned (.bool true) ∧ Below w.heap.size w w' := by
  obtain ⟨x, rfl⟩ := Int.eq_ofNat_of_zero_le (show 0 ≤ a0 from (bounds_u64 w0).1)
  obtain ⟨y, rfl⟩ := Int.eq_ofNat_of_zero_le (show 0 ≤ a1 from (bounds_u64 w1).1)
  have hx : x < 18446744073709551616 := by have := (bounds_u64 w0).2; omega
  have hy : y < 18446744073709551616 := by have := (bounds_u64 w1).2; omega
  have C1 : Hid (∀ w, _) := fun w => and_any x y w hx hy
  have C2 : Hid (∀ w, _) := fun w => or_any x y w hx hy
  have C3 : Hid (∀ w, _) := fun w => not_any x y w hx hy
  have C4 : Hid (∀ w, _) := fun w => within_any x y w hx hy
  have R1 : Hid (∀ w, _) := fun w => refand_any x y w hx hy
  have R2 : Hid (∀ w, _) := fun w => refor_any x y w hx hy
  have R3 : Hid (∀ w, _) := fun w => refnot_any x y w hx hy
  generalize x &&& y = p1 at *
  generalize x ||| y = p2 at *
  generalize nt x y = p3 at *
  have HT : Hid (Tab w) := ht
  have HS : Hid (0 < w.heap.size) := hs
  clear w0 w1 hx hy ht hs
  go_enter Tryd.func4, Tryd.ntmps4
  go_wp2_with fail
  refine (C1.out _).mono ?_
  rintro e w' ⟨rfl, rfl⟩
  go_wp2_with fail
  refine (R1.out _).mono ?_
  rintro e u1 ⟨rfl, b1⟩
  have B1 : Hid (Below w'.heap.size w' u1) := b1
  clear b1
  go_wp2_with fail
  refine (C2.out _).mono ?_
  rintro e u1 ⟨rfl, rfl⟩
  go_wp2_with fail
  refine (R2.out _).mono ?_
  rintro e u2 ⟨rfl, b2⟩
  have B2 : Hid (Below w'.heap.size w' u2) := B1.out.trans (b2.mono B1.out.size)
  clear b2 B1
  go_wp2_with fail
  refine (C3.out _).mono ?_
  rintro e u2 ⟨rfl, rfl⟩
  go_wp2_with fail
  refine (R3.out _).mono ?_
  rintro e u3 ⟨rfl, b3⟩
  have B3 : Hid (Below w'.heap.size w' u3) := B2.out.trans (b3.mono B2.out.size)
  clear b3 B2
  go_wp2_with fail
  refine (C4.out _).mono ?_
  rintro e u3 ⟨rfl, rfl⟩
  go_wp2_with fail
  refine (R3.out _).mono ?_
  rintro e u4 ⟨rfl, b4⟩
  have B4 : Hid (Below w'.heap.size w' u4) := B3.out.trans (b4.mono B3.out.size)
  clear b4 B3
  go_wp2_with fail
  refine (known_yes _ (HT.out.below HS.out B4.out) (Nat.lt_of_lt_of_le HS.out B4.out.size)).mono ?_
  rintro e u5 ⟨rfl, b5⟩
  have B5 : Hid (Below w'.heap.size w' u5) := B4.out.trans (b5.mono B4.out.size)
  clear b5 B4
  go_wp2
  go_ret
  exact ⟨rfl, B5.out⟩

set_option maxRecDepth 100000 in
theorem lifted (os : Os) (started : os.Started) (H : Type) (enc : TypeId × Value → H) :
    ReturnsInHanded {} Tryd.checked os 4 .any (fun w args => (Rows.maskPartsSpec.pre enc Tryd.prog Tryd.f4 [] false w args ∧ laidMetH Tryd.prog laidTab w) ∧ sizedMet enc Tryd.prog Tryd.f4 (OpenSpec.ofChange Rows.maskPartsSpec) false w args)
      (Rows.maskPartsSpec.post enc Tryd.prog Tryd.f4 false true false false) := by
  refine returnsInHanded_of_change_and (C := Tryd.checked) (X := fun w _ => laidMetH Tryd.prog laidTab w) (fun _ _ _ hh h => h.of_heap hh) own started (by kernel_rfl) Tryd.func4
    (ChangeSpec.witness_shaped (enc := enc) (C := Tryd.checked) (os := os) (X := fun w _ => laidMetH Tryd.prog laidTab w) false (World.doorLaid Tryd.prog 400 os) #[.int .u64 0, .int .u64 0] 8 rfl (World.shaped_of_RefB (by kernel_rfl) (by kernel_rfl)) (by kernel_rfl) (by kernel_rfl) (by kernel_rfl) (door_met os _)) ?_
  intro W base args ds gs before hval0 hW _ _ hL _
  have hval : ∀ (j : Nat) t v, Tryd.f4.params[j]? = some t → args[j]? = some v → Value.okWide Tryd.prog W .any base t v := hval0
  have hW' := hW
  obtain ⟨p, q, hA0, hV, rfl, hfz, hnd⟩ := hW
  have hA : DataW.TrodAll enc Tryd.prog W 0 (fun _ => true) true Tryd.f4.params.toList args.toList ds p := hA0
  rw [Tryd.params4] at hA hval
  obtain ⟨v0, vs0, d0, ds0, p0, q0, hargs, rfl, rfl, h0, r0⟩ := trodAll_cons hA
  obtain ⟨v1, vs1, d1, ds1, p1, q1, rfl, rfl, rfl, h1, r1⟩ := trodAll_cons r0
  obtain ⟨rfl, rfl, rfl⟩ := trodAll_nil r1
  obtain rfl : args = #[v0, v1] := by cases args; simp_all
  obtain ⟨rfl, rfl⟩ := trodVars_none hV
  obtain ⟨a0, rfl, rfl, rfl, w0⟩ := open_int Tryd.underlying22 (hval 0 22 v0 rfl rfl) h0
  obtain ⟨a1, rfl, rfl, rfl, w1⟩ := open_int Tryd.underlying22 (hval 1 22 v1 rfl rfl) h1
  obtain ⟨hT, hS⟩ := of_laid hL
  clear hA0 hval0
  refine (walk a0 a1 W w0 w1 hT hS).mono fun e W' ⟨he, bel⟩ => ?_
  subst he
  exact ⟨_, rfl, _, _, _, [], _, [], hW', trodAll_mk1 (shut_bool Tryd.underlying4 _), (trodAll_cons_mk (shut_int Tryd.underlying22 w0) (trodAll_cons_mk (shut_int Tryd.underlying22 w1) trodAll_mk0)), rfl, bel.frame _, fun h => by cases h⟩

theorem over : Rows.MaskPartsSaid :=
  OpenClaim.holds_of_wide 4 Tryd.f4 rfl rfl rfl rfl rfl rfl rfl ⟨rfl, rfl, rfl, rfl, rfl⟩ rfl rfl rfl rfl rfl (by kernel_rfl) Tryd.func4 (by kernel_rfl)
    (of_decide_eq_true (by kernel_rfl)) (by unfold Func.isWrapper; first | (rw [if_pos (by decide +kernel)]; kernel_rfl) | (rw [if_neg (by decide +kernel)]; exact ⟨rfl, rfl⟩))
    (fun os started H enc _ => lifted os started H enc)
end Go.Proofs.YtojpeanakjefoaaDoor.maskParts

namespace Go.Proofs.YtojpeanakjefoaaDoor
open Go
theorem maskParts_card : Rows.MaskPartsCardSaid :=
  Claim7.holds_tied_plain_at .later [] [.data] true (true, "8c36869085a7bb1645b169c838f61ecb09e7bffe6c27c335601dd159cbf912a3") false
    maskParts.over (fun _ h => by cases h) (by kernel_rfl) (fun _ h => by cases h) maskParts_row_tie rfl ⟨rfl, rfl⟩ (by kernel_rfl) rfl
    (fun f fn hf hfn => by
      obtain rfl : f = 4 := Option.some.inj ((show Tryd.prog.funcNamed "davit/davitlaw01.MaskParts" = some 4 by kernel_rfl).symm.trans hf) |>.symm
      obtain rfl : fn = Tryd.f4 := (Option.some.inj (Tryd.func4.symm.trans hfn)).symm
      exact ⟨by kernel_rfl, fun j t ht => by
        rw [Tryd.params4] at ht
        have hm : t ∈ [22, 22] := by simpa using Array.mem_of_getElem? ht
        have hall : ([22, 22].all fun u => !Tryd.prog.wantsStandIn u) = true := by kernel_rfl
        exact (show Tryd.prog.wantsStandIn t = false by simpa using List.all_eq_true.1 hall t hm)⟩)
    (by kernel_rfl)
#print axioms maskParts_card
end Go.Proofs.YtojpeanakjefoaaDoor
