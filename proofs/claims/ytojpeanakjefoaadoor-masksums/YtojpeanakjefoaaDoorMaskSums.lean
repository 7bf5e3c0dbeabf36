/- Proved: for all masks a and b, davitlaw01.MaskSums(a, b) returns true: how many two masks have together is how many both have less what they have in common; no condition but that the listed table is as the program's text lays it, which the card ties. -/
import Derived.Test.YtojpeanakjefoaaDoorRows
import Derived.Test.YtojpeanakjefoaaDoorTie
import Derived.Test.YtojpeanakjefoaaDoorCards
import Derived.Test.YtojpeanakjefoaaDoorMt
import Derived.Test.YtojpeanakjefoaaDoorMo
import Derived.WalkKit
import Derived.ProofKit
import Derived.LaidMore
import Derived.OpenShut
import Derived.Stop.Joined
import Derived.ShutString
import Derived.ChangeOld
import Derived.Below
import Derived.SevenTiedAt
namespace Go.Proofs.YtojpeanakjefoaaDoor.maskSums
open Go.ChangeShapes Go.WideShapes Go.ChangeAt Go.RowKit
open Mm
set_option linter.unusedVariables false

set_option maxHeartbeats 2000000 in
theorem walk (a0 : Int) (a1 : Int) (w : World) (w0 : (Lit.int .u64 a0).wf = true) (w1 : (Lit.int .u64 a1).wf = true) (ht : Tab w) (hs : 0 < w.heap.size) :
    Calls Tryd.prog 6 #[.int .u64 a0, .int .u64 a1] w fun e w' => e = .returned (.bool true) ∧ Below w.heap.size w w' := by
  obtain ⟨x, rfl⟩ := Int.eq_ofNat_of_zero_le (show 0 ≤ a0 from (bounds_u64 w0).1)
  obtain ⟨y, rfl⟩ := Int.eq_ofNat_of_zero_le (show 0 ≤ a1 from (bounds_u64 w1).1)
  have hx : x < 18446744073709551616 := by have := (bounds_u64 w0).2; omega
  have hy : y < 18446744073709551616 := by have := (bounds_u64 w1).2; omega
  have s1 := many_or x y
  have s2 := many_not x y hy
  have l1 := ls_le (x ||| y)
  have l2 := ls_le x
  have l3 := ls_le y
  have l4 := ls_le (x &&& y)
  have l5 := ls_le (nt x y)
  have C1 : Hid (∀ w, _) := fun w => or_any x y w hx hy
  have C2 : Hid (∀ w, _) := fun w => and_any x y w hx hy
  have C3 : Hid (∀ w, _) := fun w => not_any x y w hx hy
  have M1 : Hid (∀ w, _) := fun w => many_any (x ||| y) w (or_lt hx hy)
  have M2 : Hid (∀ w, _) := fun w => many_any x w hx
  have M3 : Hid (∀ w, _) := fun w => many_any y w hy
  have M4 : Hid (∀ w, _) := fun w => many_any (x &&& y) w (and_lt hy)
  have M5 : Hid (∀ w, _) := fun w => many_any (nt x y) w (nt_lt x y)
  generalize (ls (x ||| y)).length = m1 at *
  generalize (ls x).length = m2 at *
  generalize (ls y).length = m3 at *
  generalize (ls (x &&& y)).length = m4 at *
  generalize (ls (nt x y)).length = m5 at *
  generalize x ||| y = p1 at *
  generalize x &&& y = p2 at *
  generalize nt x y = p3 at *
  have e1 : ((m1 : Int) == (m2 : Int) + m3 - m4) = true := by rw [beq_iff_eq]; omega
  have e2 : ((m5 : Int) == (m2 : Int) - m4) = true := by rw [beq_iff_eq]; omega
  have k2 : (m2 : Int) ≤ 64 := by omega
  have k3 : (m3 : Int) ≤ 64 := by omega
  have k4 : (m4 : Int) ≤ 64 := by omega
  have KN : Hid (∀ _ : Unit, _) := fun _ => known_yes w ht hs
  clear s1 s2 l1 l2 l3 l4 l5 w0 w1 hx hy ht
  go_enter Tryd.func6, Tryd.ntmps6
  go_wp2_with fail
  refine (C1.out _).mono ?_
  rintro e w' ⟨rfl, rfl⟩
  go_wp2_with fail
  refine (M1.out _).mono ?_
  rintro e w' ⟨rfl, rfl⟩
  go_wp2_with fail
  refine (M2.out _).mono ?_
  rintro e w' ⟨rfl, rfl⟩
  go_wp2_with fail
  refine (M3.out _).mono ?_
  rintro e w' ⟨rfl, rfl⟩
  go_wp2_with fail
  refine (C2.out _).mono ?_
  rintro e w' ⟨rfl, rfl⟩
  go_wp2_with fail
  refine (M4.out _).mono ?_
  rintro e w' ⟨rfl, rfl⟩
  go_wp2_with fail
  refine (C3.out _).mono ?_
  rintro e w' ⟨rfl, rfl⟩
  go_wp2_with fail
  refine (M5.out _).mono ?_
  rintro e w' ⟨rfl, rfl⟩
  go_wp2_with fail
  refine (M2.out _).mono ?_
  rintro e w' ⟨rfl, rfl⟩
  go_wp2_with fail
  refine (C2.out _).mono ?_
  rintro e w' ⟨rfl, rfl⟩
  go_wp2_with fail
  refine (M4.out _).mono ?_
  rintro e w' ⟨rfl, rfl⟩
  go_wp2_with fail
  refine (KN.out ()).mono ?_
  rintro e w' ⟨rfl, hb⟩
  go_wp2
  go_ret
  exact ⟨rfl, hb⟩

set_option maxRecDepth 100000 in
theorem lifted (os : Os) (started : os.Started) (H : Type) (enc : TypeId × Value → H) :
    ReturnsInHanded {} Tryd.checked os 6 .any (fun w args => (Rows.maskSumsSpec.pre enc Tryd.prog Tryd.f6 [] false w args ∧ laidMetH Tryd.prog laidTab w) ∧ sizedMet enc Tryd.prog Tryd.f6 (OpenSpec.ofChange Rows.maskSumsSpec) false w args)
      (Rows.maskSumsSpec.post enc Tryd.prog Tryd.f6 false true false false) := by
  refine returnsInHanded_of_change_and (C := Tryd.checked) (X := fun w _ => laidMetH Tryd.prog laidTab w) (fun _ _ _ hh h => h.of_heap hh) own started (by kernel_rfl) Tryd.func6
    (ChangeSpec.witness_shaped (enc := enc) (C := Tryd.checked) (os := os) (X := fun w _ => laidMetH Tryd.prog laidTab w) false (World.doorLaid Tryd.prog 400 os) #[.int .u64 0, .int .u64 0] 8 rfl (World.shaped_of_RefB (by kernel_rfl) (by kernel_rfl)) (by kernel_rfl) (by kernel_rfl) (by kernel_rfl) (door_met os _)) ?_
  intro W base args ds gs before hval0 hW _ _ hL _
  have hval : ∀ (j : Nat) t v, Tryd.f6.params[j]? = some t → args[j]? = some v → Value.okWide Tryd.prog W .any base t v := hval0
  have hW' := hW
  obtain ⟨p, q, hA0, hV, rfl, hfz, hnd⟩ := hW
  have hA : DataW.TrodAll enc Tryd.prog W 0 (fun _ => true) true Tryd.f6.params.toList args.toList ds p := hA0
  rw [Tryd.params6] at hA hval
  obtain ⟨v0, vs0, d0, ds0, p0, q0, hargs, rfl, rfl, h0, r0⟩ := trodAll_cons hA
  obtain ⟨v1, vs1, d1, ds1, p1, q1, rfl, rfl, rfl, h1, r1⟩ := trodAll_cons r0
  obtain ⟨rfl, rfl, rfl⟩ := trodAll_nil r1
  obtain rfl : args = #[v0, v1] := by cases args; simp_all
  obtain ⟨rfl, rfl⟩ := trodVars_none hV
  obtain ⟨a0, rfl, rfl, rfl, w0⟩ := open_int Tryd.underlying22 (hval 0 22 v0 rfl rfl) h0
  obtain ⟨a1, rfl, rfl, rfl, w1⟩ := open_int Tryd.underlying22 (hval 1 22 v1 rfl rfl) h1
  obtain ⟨hT, hS⟩ := of_laid hL
  clear hA0 hval0
  refine (walk a0 a1 W w0 w1 hT hS).mono fun e W' ⟨he, bel⟩ => ?_
  subst he
  exact ⟨_, rfl, _, _, _, [], _, [], hW', trodAll_mk1 (shut_bool Tryd.underlying4 _), (trodAll_cons_mk (shut_int Tryd.underlying22 w0) (trodAll_cons_mk (shut_int Tryd.underlying22 w1) trodAll_mk0)), rfl, bel.frame _, fun h => by cases h⟩

theorem over : Rows.MaskSumsSaid :=
  OpenClaim.holds_of_wide 6 Tryd.f6 rfl rfl rfl rfl rfl rfl rfl ⟨rfl, rfl, rfl, rfl, rfl⟩ rfl rfl rfl rfl rfl (by kernel_rfl) Tryd.func6 (by kernel_rfl)
    (of_decide_eq_true (by kernel_rfl)) (by unfold Func.isWrapper; first | (rw [if_pos (by decide +kernel)]; kernel_rfl) | (rw [if_neg (by decide +kernel)]; exact ⟨rfl, rfl⟩))
    (fun os started H enc _ => lifted os started H enc)
end Go.Proofs.YtojpeanakjefoaaDoor.maskSums

namespace Go.Proofs.YtojpeanakjefoaaDoor
open Go
theorem maskSums_card : Rows.MaskSumsCardSaid :=
  Claim7.holds_tied_plain_at .later [] [.data] true (true, "8c36869085a7bb1645b169c838f61ecb09e7bffe6c27c335601dd159cbf912a3") false
    maskSums.over (fun _ h => by cases h) (by kernel_rfl) (fun _ h => by cases h) maskSums_row_tie rfl ⟨rfl, rfl⟩ (by kernel_rfl) rfl
    (fun f fn hf hfn => by
      obtain rfl : f = 6 := Option.some.inj ((show Tryd.prog.funcNamed "davit/davitlaw01.MaskSums" = some 6 by kernel_rfl).symm.trans hf) |>.symm
      obtain rfl : fn = Tryd.f6 := (Option.some.inj (Tryd.func6.symm.trans hfn)).symm
      exact ⟨by kernel_rfl, fun j t ht => by
        rw [Tryd.params6] at ht
        have hm : t ∈ [22, 22] := by simpa using Array.mem_of_getElem? ht
        have hall : ([22, 22].all fun u => !Tryd.prog.wantsStandIn u) = true := by kernel_rfl
        exact (show Tryd.prog.wantsStandIn t = false by simpa using List.all_eq_true.1 hall t hm)⟩)
    (by kernel_rfl)
#print axioms maskSums_card
end Go.Proofs.YtojpeanakjefoaaDoor
