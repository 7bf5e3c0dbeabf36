/- Proved: for every mask m and every number cpu, davitlaw01.MaskLists(m, cpu) returns true: Many, List, First, Last and Next answer what the document's definition answers, and Of of the list is the mask; no condition but that the listed table is as the program's text lays it, which the card ties. -/
import Derived.Test.YtojpeanakjefoaaDoorRows
import Derived.Test.YtojpeanakjefoaaDoorTie
import Derived.Test.YtojpeanakjefoaaDoorCards
import Derived.Test.YtojpeanakjefoaaDoorMt
import Derived.Test.YtojpeanakjefoaaDoorMi
import Derived.WalkKit
import Derived.ProofKit
import Derived.LaidMore
import Derived.OpenShut
import Derived.Stop.Joined
import Derived.ShutString
import Derived.ChangeOld
import Derived.Below
import Derived.WalkSmall
import Derived.SevenTiedAt
namespace Go.Proofs.YtojpeanakjefoaaDoor.maskLists
open Go.ChangeShapes Go.WideShapes Go.ChangeAt Go.RowKit
open Mm
set_option linter.unusedVariables false

set_option maxHeartbeats 2000000 in
theorem walk (a0 : Int) (a1 : Int) (w : World) (w0 : (Lit.int .u64 a0).wf = true) (w1 : (Lit.int .i64 a1).wf = true) (ht : Tab w) (hs : 0 < w.heap.size) :
    Calls Tryd.prog 5 #[.int .u64 a0, .int .i64 a1] w fun e w' => e = .returned (.bool true) ∧ Below w.heap.size w w' := by
  obtain ⟨x, rfl⟩ := Int.eq_ofNat_of_zero_le (show 0 ≤ a0 from (bounds_u64 w0).1)
  have hx : x < 18446744073709551616 := by have := (bounds_u64 w0).2; omega
  have hf := (bounds_i64 w1).1
  have HT : Hid (Tab w) := ht
  have HS : Hid (0 < w.heap.size) := hs
  have hll : ((li x).length : Int) ≤ 1000 := by have := ls_le x; rw [li_len]; omega
  have C1 : Hid (∀ w, _ → _) := fun w ht => first_any x w hx ht
  have R1 : Hid (∀ w, _) := fun w => reffirst_any x w hx
  have C2 : Hid (∀ w, _) := fun w => last_any x w hx
  have R2 : Hid (∀ w, _) := fun w => reflast_any x w hx
  have C3 : Hid (∀ w, _ → _) := fun w ht => next_any x a1 w hx hf ht
  have R3 : Hid (∀ w, _) := fun w => refnext_any x a1 w hx
  have C4 : Hid (∀ w, _) := fun w => list_any x w hx
  have C5 : Hid (∀ w, _) := fun w => many_any x w hx
  have R5 : Hid (∀ w, _) := fun w => refmany_any x w hx
  have R4 : Hid (∀ w, _) := fun w => reflist_any x w hx
  have CI : Hid (∀ u v w, _ → _ → _) := fun u v w hu hv => ints_any (li x) u v w hll hu hv
  have CO : Hid (∀ v w, _ → _) := fun v w hr => of_any (li x) v w hll hr
  rw [show wl 0 (li x) = x from wl_ls x hx] at CO
  generalize li x = L at *
  generalize hd (ls x) = q1 at *
  generalize er (ls x) = q2 at *
  generalize la (ls x) = q3 at *
  generalize hd (nx x a1) = q4 at *
  generalize er (nx x a1) = q5 at *
  generalize (ls x).length = q6 at *
  clear w0 w1 hx hf ht hs hll
  go_enter Tryd.func5, Tryd.ntmps5
  go_wp2_with fail
  refine (C1.out _ HT.out).mono ?_
  rintro e w' ⟨rfl, rfl⟩
  go_wp2_with fail
  refine (R1.out _).mono ?_
  rintro e u1 ⟨rfl, b1⟩
  have B1 : Hid (Below w'.heap.size w' u1) := b1
  clear b1
  go_wp2_with fail
  refine (C2.out _).mono ?_
  rintro e u1 ⟨rfl, rfl⟩
  go_wp2_with fail
  refine (R2.out _).mono ?_
  rintro e u2 ⟨rfl, b2⟩
  have B2 : Hid (Below w'.heap.size w' u2) := B1.out.trans (b2.mono B1.out.size)
  clear b2 B1
  go_wp2_with fail
  refine (C3.out _ (HT.out.below HS.out B2.out)).mono ?_
  rintro e u2 ⟨rfl, rfl⟩
  go_wp2_with fail
  refine (R3.out _).mono ?_
  rintro e u3 ⟨rfl, b3⟩
  have B3 : Hid (Below w'.heap.size w' u3) := B2.out.trans (b3.mono B2.out.size)
  clear b3 B2
  go_wp2_with fail
  refine (C4.out _).mono ?_
  rintro e u4 ⟨l, rfl, r4, b4⟩
  have B4 : Hid (Below w'.heap.size w' u4) := B3.out.trans (b4.mono B3.out.size)
  have RW4 : Hid (Row u4 l L) := r4
  clear b4 B3 r4
  obtain ⟨ln, lc, lo, hlv⟩ := row_slice RW4.out
  rw [hlv] at RW4
  rw [hlv]
  clear hlv
  go_wp2_with fail
  refine (C5.out _).mono ?_
  rintro e u4 ⟨rfl, rfl⟩
  go_wp2_with fail
  refine (R5.out _).mono ?_
  rintro e u5 ⟨rfl, b5⟩
  have B5 : Hid (Below w'.heap.size w' u5) := B4.out.trans (b5.mono B4.out.size)
  have RW5 : Hid (Row u5 _ L) := RW4.out.below b5
  clear b5 B4 RW4
  go_wp2_with fail
  refine (R4.out _).mono ?_
  rintro e u6 ⟨l2, rfl, r6, b6⟩
  have B6 : Hid (Below w'.heap.size w' u6) := B5.out.trans (b6.mono B5.out.size)
  have RW6 : Hid (Row u6 _ L) := RW5.out.below b6
  have RV6 : Hid (Row u6 l2 L) := r6
  clear b6 B5 RW5 r6
  obtain ⟨mn, mc, mo, hmv⟩ := row_slice RV6.out
  rw [hmv] at RV6
  rw [hmv]
  clear hmv
  go_wp2_with fail
  refine (CI.out _ _ _ RW6.out RV6.out).mono ?_
  rintro e u7 ⟨rfl, d, rfl⟩
  have RW7 : Hid (Row (u6.drewN d) _ L) := RW6.out
  have B7 : Hid (Below w'.heap.size w' (u6.drewN d)) := below_drewN B6.out d
  clear RW6 RV6 B6
  go_wp2_with fail
  refine (CO.out _ _ RW7.out).mono ?_
  rintro e u8 ⟨rfl, rfl⟩
  go_wp2_with fail
  refine (known_yes _ (HT.out.below HS.out B7.out) (Nat.lt_of_lt_of_le HS.out B7.out.size)).mono ?_
  rintro e u9 ⟨rfl, b9⟩
  have B9 : Hid (Below w'.heap.size w' u9) := B7.out.trans (b9.mono B7.out.size)
  clear b9 B7
  go_wp2
  go_ret
  exact ⟨rfl, B9.out⟩

set_option maxRecDepth 100000 in
theorem lifted (os : Os) (started : os.Started) (H : Type) (enc : TypeId × Value → H) :
    ReturnsInHanded {} Tryd.checked os 5 .any (fun w args => (Rows.maskListsSpec.pre enc Tryd.prog Tryd.f5 [] false w args ∧ laidMetH Tryd.prog laidTab w) ∧ sizedMet enc Tryd.prog Tryd.f5 (OpenSpec.ofChange Rows.maskListsSpec) false w args)
      (Rows.maskListsSpec.post enc Tryd.prog Tryd.f5 false true false false) := by
  refine returnsInHanded_of_change_and (C := Tryd.checked) (X := fun w _ => laidMetH Tryd.prog laidTab w) (fun _ _ _ hh h => h.of_heap hh) own started (by kernel_rfl) Tryd.func5
    (ChangeSpec.witness_shaped (enc := enc) (C := Tryd.checked) (os := os) (X := fun w _ => laidMetH Tryd.prog laidTab w) false (World.doorLaid Tryd.prog 400 os) #[.int .u64 0, .int .i64 0] 8 rfl (World.shaped_of_RefB (by kernel_rfl) (by kernel_rfl)) (by kernel_rfl) (by kernel_rfl) (by kernel_rfl) (door_met os _)) ?_
  intro W base args ds gs before hval0 hW _ _ hL _
  have hval : ∀ (j : Nat) t v, Tryd.f5.params[j]? = some t → args[j]? = some v → Value.okWide Tryd.prog W .any base t v := hval0
  have hW' := hW
  obtain ⟨p, q, hA0, hV, rfl, hfz, hnd⟩ := hW
  have hA : DataW.TrodAll enc Tryd.prog W 0 (fun _ => true) true Tryd.f5.params.toList args.toList ds p := hA0
  rw [Tryd.params5] at hA hval
  obtain ⟨v0, vs0, d0, ds0, p0, q0, hargs, rfl, rfl, h0, r0⟩ := trodAll_cons hA
  obtain ⟨v1, vs1, d1, ds1, p1, q1, rfl, rfl, rfl, h1, r1⟩ := trodAll_cons r0
  obtain ⟨rfl, rfl, rfl⟩ := trodAll_nil r1
  obtain rfl : args = #[v0, v1] := by cases args; simp_all
  obtain ⟨rfl, rfl⟩ := trodVars_none hV
  obtain ⟨a0, rfl, rfl, rfl, w0⟩ := open_int Tryd.underlying22 (hval 0 22 v0 rfl rfl) h0
  obtain ⟨a1, rfl, rfl, rfl, w1⟩ := open_int Tryd.underlying3 (hval 1 3 v1 rfl rfl) h1
  obtain ⟨hT, hS⟩ := of_laid hL
  clear hA0 hval0
  refine (walk a0 a1 W w0 w1 hT hS).mono fun e W' ⟨he, bel⟩ => ?_
  subst he
  exact ⟨_, rfl, _, _, _, [], _, [], hW', trodAll_mk1 (shut_bool Tryd.underlying4 _), (trodAll_cons_mk (shut_int Tryd.underlying22 w0) (trodAll_cons_mk (shut_int Tryd.underlying3 w1) trodAll_mk0)), rfl, bel.frame _, fun h => by cases h⟩

theorem over : Rows.MaskListsSaid :=
  OpenClaim.holds_of_wide 5 Tryd.f5 rfl rfl rfl rfl rfl rfl rfl ⟨rfl, rfl, rfl, rfl, rfl⟩ rfl rfl rfl rfl rfl (by kernel_rfl) Tryd.func5 (by kernel_rfl)
    (of_decide_eq_true (by kernel_rfl)) (by unfold Func.isWrapper; first | (rw [if_pos (by decide +kernel)]; kernel_rfl) | (rw [if_neg (by decide +kernel)]; exact ⟨rfl, rfl⟩))
    (fun os started H enc _ => lifted os started H enc)
end Go.Proofs.YtojpeanakjefoaaDoor.maskLists

namespace Go.Proofs.YtojpeanakjefoaaDoor
open Go
theorem maskLists_card : Rows.MaskListsCardSaid :=
  Claim7.holds_tied_plain_at .later [] [.data] true (true, "8c36869085a7bb1645b169c838f61ecb09e7bffe6c27c335601dd159cbf912a3") false
    maskLists.over (fun _ h => by cases h) (by kernel_rfl) (fun _ h => by cases h) maskLists_row_tie rfl ⟨rfl, rfl⟩ (by kernel_rfl) rfl
    (fun f fn hf hfn => by
      obtain rfl : f = 5 := Option.some.inj ((show Tryd.prog.funcNamed "davit/davitlaw01.MaskLists" = some 5 by kernel_rfl).symm.trans hf) |>.symm
      obtain rfl : fn = Tryd.f5 := (Option.some.inj (Tryd.func5.symm.trans hfn)).symm
      exact ⟨by kernel_rfl, fun j t ht => by
        rw [Tryd.params5] at ht
        have hm : t ∈ [22, 3] := by simpa using Array.mem_of_getElem? ht
        have hall : ([22, 3].all fun u => !Tryd.prog.wantsStandIn u) = true := by kernel_rfl
        exact (show Tryd.prog.wantsStandIn t = false by simpa using List.all_eq_true.1 hall t hm)⟩)
    (by kernel_rfl)
#print axioms maskLists_card
end Go.Proofs.YtojpeanakjefoaaDoor
