/- Proved: for every n and every moved, davitlaw18.CallOnce(n, moved) returns true: each call is taken once, those of one core in the order in which they came to it (up to 32 calls, as the law itself says); no condition but that the listed table is as the program's text lays it, which the card ties. -/
import Derived.Test.YtofdhljgchefgaaDoorRows
import Derived.Test.YtofdhljgchefgaaDoorTie
import Derived.Test.YtofdhljgchefgaaDoorCards
import Derived.Test.YtofdhljgchefgaaDoorMv
import Derived.Test.YtofdhljgchefgaaDoorFo
import Derived.Test.YtofdhljgchefgaaDoorJc
import Derived.Test.YtofdhljgchefgaaDoorJo
import Derived.WalkKit
import Derived.ProofKit
import Derived.OpenShut
import Derived.Stop.Joined
import Derived.ShutString
import Derived.ChangeOld
import Derived.Below
import Derived.Carry
import Derived.LaidMore
import Derived.SevenTiedAt
namespace Go.Proofs.YtofdhljgchefgaaDoor.callOnce
open Go.ChangeShapes Go.WideShapes Go.ChangeAt Go.RowKit
open Mm Fm Sl Cm
set_option linter.unusedVariables false
set_option linter.unusedSimpArgs false

set_option maxRecDepth 100000 in
set_option maxHeartbeats 4000000 in
theorem walk (a0 : Int) (a1 : Int) (w : World) (w0 : (Lit.int .i64 a0).wf = true) (w1 : (Lit.int .i64 a1).wf = true) (ht : Tab w) (hs : 0 < w.heap.size) :
    Calls Tryd.prog 7 #[.int .i64 a0, .int .i64 a1] w fun e w' => e = .returned (.bool true) ∧ Below w.heap.size w w' := by
  have KN : Hid (∀ w1, Below w.heap.size w w1 → _) := fun w1 b => cknown_yes w1 (ht.keep hs (by simp) (Fr.of_below b)) (by have := b.size; omega)
  have C : Hid (∀ _ : Unit, _) := fun _ => cnew_any 2 w (by decide) (by decide)
  have HT : Hid (∀ w2 : World, Below w.heap.size w w2 → Tab w2) := fun w2 f => ht.below hs f
  obtain ⟨s, hs2⟩ : ∃ s, w.heap.size = s := ⟨_, rfl⟩
  rw [hs2] at KN C HT ⊢
  have HS : Hid (w.heap.size = s) := hs2
  clear w0 w1 ht hs hs2
  have cs : ((a0 < 0 ∨ (0 ≤ a0 ∧ 32 < a0)) ∨ (0 ≤ a0 ∧ a0 ≤ 32 ∧ a1 < 0) ∨ (0 ≤ a0 ∧ a0 ≤ 32 ∧ 0 ≤ a1 ∧ a0 < a1)) ∨ (0 ≤ a0 ∧ a0 ≤ 32 ∧ 0 ≤ a1 ∧ a1 ≤ a0) := by omega
  rcases cs with bad | ⟨g1, g2, g3, g4⟩
  · rcases bad with (g | ⟨g, g2⟩) | ⟨g, g2, g3⟩ | ⟨g, g2, g3, g4⟩
    all_goals (
      go_enter Tryd.func7, Tryd.ntmps7
      go_wp2_with fail
      refine (C.out ()).mono ?_
      rintro e u1 ⟨rfl, q1, b1⟩
      have B1 : Hid (Below s w u1) := b1
      clear q1 b1
      go_wp2_with fail
      refine (KN.out _ B1.out).mono ?_
      rintro e u2 ⟨rfl, b2⟩
      go_wp2
      go_ret
      exact ⟨rfl, B1.out.trans (b2.mono (by have := B1.out.size; have := HS.out; omega))⟩)
  · obtain ⟨n, hn0⟩ := Int.eq_ofNat_of_zero_le g1
    obtain ⟨m, hm0⟩ := Int.eq_ofNat_of_zero_le g3
    have HN : Hid (a0 = (n : Int)) := hn0
    have HM : Hid (a1 = (m : Int)) := hm0
    have g5 : decide (a0 < a1) = false := decide_eq_false (by omega)
    clear hn0 hm0
    go_enter Tryd.func7, Tryd.ntmps7
    go_wp2_with fail
    refine (C.out ()).mono ?_
    rintro e u1 ⟨rfl, q1, b1⟩
    have P0 : Hid (CX u1 s [sq 0 0, []] ∧ Below s w u1 ∧ s ≤ u1.heap.size) := ⟨q1, b1, by have := b1.size; have := HS.out; omega⟩
    clear q1 b1 C
    go_wp2
    go_loopw [7] (fun i wr => ∃ k : Nat, (k : Int) ≤ a0 ∧ i = .int .i64 ((k : Int) + 1) ∧ Hid (CX wr s [sq 0 k, []] ∧ Below s w wr ∧ s ≤ wr.heap.size)) (fun i _ => a0.toNat + 1 - (intOf i).toNat)
    case atStart => exact ⟨0, by omega, by go_num, P0⟩
    case round =>
      obtain ⟨k, hk, rfl, p⟩ := hrel
      clear P0
      by_cases c : (k : Int) < a0
      · have SD : Hid (∀ _ : Unit, _) := fun _ => send_any 0 p.out.1 (HT.out _ p.out.2.1)
        obtain ⟨e1, e2, e3⟩ := send_sq (k := k) (by omega)
        rw [e1, e2, e3] at SD
        have ST : Hid (∀ w1 : World, CX w1 s [sq 0 (k + 1), []] → Fr wr.heap.size (cz s [sq 0 k, []].length) wr w1 → CX w1 s [sq 0 (k + 1), []] ∧ Below s w w1 ∧ s ≤ w1.heap.size) := fun w1 q f => ⟨q, cz_below p.out.2.1 f p.out.2.2 (Nat.le_refl _)⟩
        clear p e1 e2 e3
        go_wp2_with fail
        refine (SD.out ()).mono ?_
        rintro e w1 ⟨rfl, q, f⟩
        have P1 : Hid _ := ST.out w1 q f
        clear q f ST SD
        go_wp2
        go_roundw
        case rel => exact ⟨k + 1, by omega, by go_num, P1⟩
        case measure => simp [intOf]; omega
      · obtain rfl : k = n := by have := HN.out; omega
        have P1 : Hid (CX wr s [sq 0 k, sq 0 0] ∧ Below s w wr ∧ s ≤ wr.heap.size) := p
        clear p hk
        obtain ⟨wo, rfl⟩ : ∃ wo, wo = wr := ⟨_, rfl⟩
        go_wp2
        go_loopw [10] (fun i wr => ∃ j : Nat, (j : Int) ≤ a1 ∧ i = .int .i64 ((j : Int) + 1) ∧ Hid (CX wr s [sq j k, sq 0 j] ∧ Below s w wr ∧ s ≤ wr.heap.size)) (fun i _ => a1.toNat + 1 - (intOf i).toNat)
        case atStart => exact ⟨0, by omega, by go_num, P1⟩
        case round =>
          obtain ⟨j, hj, rfl, p⟩ := hrel
          clear P1
          by_cases c : (j : Int) < a1
          · have MV : Hid (∀ _ : Unit, _) := fun _ => cmove_any 0 1 p.out.1
            obtain ⟨e1, e2, e3⟩ := move_sq (m := j) (n := k) (by have := HN.out; omega)
            rw [e1, e2, e3] at MV
            have ST : Hid (∀ w1 : World, CX w1 s [sq (j + 1) k, sq 0 (j + 1)] → Fr wr.heap.size (cz s [sq j k, sq 0 j].length) wr w1 → CX w1 s [sq (j + 1) k, sq 0 (j + 1)] ∧ Below s w w1 ∧ s ≤ w1.heap.size) := fun w1 q f => ⟨q, cz_below p.out.2.1 f p.out.2.2 (Nat.le_refl _)⟩
            clear p e1 e2 e3
            go_wp2_with fail
            refine (MV.out ()).mono ?_
            rintro e w1 ⟨rfl, q, f⟩
            have P1 : Hid _ := ST.out w1 q f
            clear q f ST MV
            go_wp2
            go_roundw
            case rel => exact ⟨j + 1, by omega, by go_num, P1⟩
            case measure => simp [intOf]; omega
          · obtain rfl : j = m := by have := HM.out; omega
            have P2 : Hid (CX wr s (le3 k j 0) ∧ Below s w wr ∧ s ≤ wr.heap.size) := by unfold le3; rw [show max j 0 = j by omega]; exact p
            clear p hj
            obtain ⟨wo2, rfl⟩ : ∃ wo2, wo2 = wr := ⟨_, rfl⟩
            go_wp2
            go_loopw [13] (fun i wr => ∃ t : Nat, (t : Int) ≤ a0 ∧ i = .int .i64 ((t : Int) + 1) ∧ Hid (CX wr s (le3 k j t) ∧ Below s w wr ∧ s ≤ wr.heap.size)) (fun i _ => a0.toNat + 1 - (intOf i).toNat)
            case atStart => exact ⟨0, by omega, by go_num, P2⟩
            case round =>
              obtain ⟨t, ht, rfl, p⟩ := hrel
              clear P2
              by_cases c : (t : Int) < a0
              · obtain ⟨e1, e2, e3⟩ := take_sq (n := k) (m := j) (t := t) (by have := HN.out; omega)
                have TK : Hid (∀ _ : Unit, _) := fun _ => ctake_any (if t < j then 1 else 0) p.out.1
                rw [e1, e2, e3] at TK
                have ST : Hid (∀ w1 : World, CX w1 s (le3 k j (t + 1)) → Fr wr.heap.size (cz s (le3 k j t).length) wr w1 → Hid (CX w1 s (le3 k j (t + 1)) ∧ Below s w w1 ∧ s ≤ w1.heap.size) ∧ Hid (Calls Tryd.prog 33 #[.pointer (some ⟨s + 3, 0, none⟩), .int .i64 ((t : Int) + 1)] w1 fun e w' => e = .returned (.bool false) ∧ w' = w1)) := fun w1 q f => by
                  refine ⟨⟨q, cz_below p.out.2.1 f p.out.2.2 (Nat.le_refl _)⟩, ?_⟩
                  have := chas_any ((t : Int) + 1) q
                  rwa [has_sq] at this
                clear p e1 e2 e3
                by_cases d : t < j
                · rw [if_pos d] at TK
                  have d2 : (t : Int) + 1 ≤ a1 := by have := HM.out; omega
                  clear d
                  go_wp2_with fail
                  refine (TK.out ()).mono ?_
                  rintro e w1 ⟨rfl, q, f⟩
                  obtain ⟨P1, HA⟩ := ST.out w1 q f
                  clear q f ST TK
                  go_wp2_with fail
                  refine HA.out.mono ?_
                  rintro e w2 ⟨rfl, rfl⟩
                  go_wp2
                  go_roundw
                  case rel => exact ⟨t + 1, by omega, by go_num, P1⟩
                  case measure => simp [intOf]; omega
                · rw [if_neg d] at TK
                  have d2 : ¬ (t : Int) + 1 ≤ a1 := by have := HM.out; omega
                  clear d
                  go_wp2_with fail
                  refine (TK.out ()).mono ?_
                  rintro e w1 ⟨rfl, q, f⟩
                  obtain ⟨P1, HA⟩ := ST.out w1 q f
                  clear q f ST TK
                  go_wp2_with fail
                  refine HA.out.mono ?_
                  rintro e w2 ⟨rfl, rfl⟩
                  go_wp2
                  go_roundw
                  case rel => exact ⟨t + 1, by omega, by go_num, P1⟩
                  case measure => simp [intOf]; omega
              · obtain rfl : t = k := by have := HN.out; omega
                obtain ⟨e1, e2⟩ := load_sq (n := t) (m := j) (by have := HN.out; have := HM.out; omega)
                have L0 : Hid (∀ _ : Unit, _) := fun _ => cload_any 0 p.out.1
                have L1 : Hid (∀ _ : Unit, _) := fun _ => cload_any 1 p.out.1
                rw [e1] at L0
                rw [e2] at L1
                have B1 : Hid (Below s w wr) := p.out.2.1
                clear p e1 e2
                go_wp2_with fail
                refine (L0.out ()).mono ?_
                rintro e w1 ⟨rfl, rfl⟩
                go_wp2_with fail
                refine (L1.out ()).mono ?_
                rintro e w1 ⟨rfl, rfl⟩
                go_wp2_with fail
                refine (KN.out _ B1.out).mono ?_
                rintro e u2 ⟨rfl, b2⟩
                go_wp2
                go_ret
                exact ⟨rfl, B1.out.trans (b2.mono (by have := B1.out.size; have := HS.out; omega))⟩

set_option maxRecDepth 100000 in
theorem lifted (os : Os) (started : os.Started) (H : Type) (enc : TypeId × Value → H) :
    ReturnsInHanded {} Tryd.checked os 7 .any (fun w args => (Rows.callOnceSpec.pre enc Tryd.prog Tryd.f7 [] false w args ∧ laidMetH Tryd.prog laidTab w) ∧ sizedMet enc Tryd.prog Tryd.f7 (OpenSpec.ofChange Rows.callOnceSpec) false w args)
      (Rows.callOnceSpec.post enc Tryd.prog Tryd.f7 false true false false) := by
  refine returnsInHanded_of_change_and (C := Tryd.checked) (X := fun w _ => laidMetH Tryd.prog laidTab w) (fun _ _ _ hh h => h.of_heap hh) own started (by kernel_rfl) Tryd.func7
    (ChangeSpec.witness_shaped (enc := enc) (C := Tryd.checked) (os := os) (X := fun w _ => laidMetH Tryd.prog laidTab w) false (World.doorLaid Tryd.prog 400 os) #[.int .i64 0, .int .i64 0] 8 rfl (World.shaped_of_RefB (by kernel_rfl) (by kernel_rfl)) (by kernel_rfl) (by kernel_rfl) (by kernel_rfl) (door_met os _)) ?_
  intro W base args ds gs before hval0 hW _ _ hL _
  have hval : ∀ (j : Nat) t v, Tryd.f7.params[j]? = some t → args[j]? = some v → Value.okWide Tryd.prog W .any base t v := hval0
  have hW' := hW
  obtain ⟨p, q, hA0, hV, rfl, hfz, hnd⟩ := hW
  have hA : DataW.TrodAll enc Tryd.prog W 0 (fun _ => true) true Tryd.f7.params.toList args.toList ds p := hA0
  rw [Tryd.params7] at hA hval
  obtain ⟨v0, vs0, d0, ds0, p0, q0, hargs, rfl, rfl, h0, r0⟩ := trodAll_cons hA
  obtain ⟨v1, vs1, d1, ds1, p1, q1, rfl, rfl, rfl, h1, r1⟩ := trodAll_cons r0
  obtain ⟨rfl, rfl, rfl⟩ := trodAll_nil r1
  obtain rfl : args = #[v0, v1] := by cases args; simp_all
  obtain ⟨rfl, rfl⟩ := trodVars_none hV
  obtain ⟨a0, rfl, rfl, rfl, w0⟩ := open_int Tryd.underlying3 (hval 0 3 v0 rfl rfl) h0
  obtain ⟨a1, rfl, rfl, rfl, w1⟩ := open_int Tryd.underlying3 (hval 1 3 v1 rfl rfl) h1
  obtain ⟨hT, hS⟩ := of_laid hL
  clear hA0 hval0
  refine (walk a0 a1 W w0 w1 hT hS).mono fun e W' ⟨he, bel⟩ => ?_
  subst he
  exact ⟨_, rfl, _, _, _, [], _, [], hW', trodAll_mk1 (shut_bool Tryd.underlying4 _), (trodAll_cons_mk (shut_int Tryd.underlying3 w0) (trodAll_cons_mk (shut_int Tryd.underlying3 w1) trodAll_mk0)), rfl, bel.frame _, fun h => by cases h⟩

theorem over : Rows.CallOnceSaid :=
  OpenClaim.holds_of_wide 7 Tryd.f7 rfl rfl rfl rfl rfl rfl rfl ⟨rfl, rfl, rfl, rfl, rfl⟩ rfl rfl rfl rfl rfl (by kernel_rfl) Tryd.func7 (by kernel_rfl)
    (of_decide_eq_true (by kernel_rfl)) (by unfold Func.isWrapper; first | (rw [if_pos (by decide +kernel)]; kernel_rfl) | (rw [if_neg (by decide +kernel)]; exact ⟨rfl, rfl⟩))
    (fun os started H enc _ => lifted os started H enc)
end Go.Proofs.YtofdhljgchefgaaDoor.callOnce

namespace Go.Proofs.YtofdhljgchefgaaDoor
open Go
theorem callOnce_card : Rows.CallOnceCardSaid :=
  Claim7.holds_tied_plain_at .later [] [.data] true (true, "c2ca43f4ea73c02762d5147dd1f7580f6374eb27a6182fd3484bba9f58af2859") false
    callOnce.over (fun _ h => by cases h) (by kernel_rfl) (fun _ h => by cases h) callOnce_row_tie rfl ⟨rfl, rfl⟩ (by kernel_rfl) rfl
    (fun f fn hf hfn => by
      obtain rfl : f = 7 := Option.some.inj ((show Tryd.prog.funcNamed "davit/davitlaw18.CallOnce" = some 7 by kernel_rfl).symm.trans hf) |>.symm
      obtain rfl : fn = Tryd.f7 := (Option.some.inj (Tryd.func7.symm.trans hfn)).symm
      exact ⟨by kernel_rfl, fun j t ht => by
        rw [Tryd.params7] at ht
        have hm : t ∈ [3, 3] := by simpa using Array.mem_of_getElem? ht
        have hall : ([3, 3].all fun u => !Tryd.prog.wantsStandIn u) = true := by kernel_rfl
        exact (show Tryd.prog.wantsStandIn t = false by simpa using List.all_eq_true.1 hall t hm)⟩)
    (by kernel_rfl)
#print axioms callOnce_card
end Go.Proofs.YtofdhljgchefgaaDoor
