/- Proved: for every mask m and every number from, davitlaw01.MaskRound(m, from) returns true: Next, taken as many times as there are cores, tells each one once; no condition but that the listed table is as the program's text lays it, which the card ties. -/
import Derived.Test.YtojpeanakjefoaaDoorRows
import Derived.Test.YtojpeanakjefoaaDoorTie
import Derived.Test.YtojpeanakjefoaaDoorCards
import Derived.Test.YtojpeanakjefoaaDoorMt
import Derived.Test.YtojpeanakjefoaaDoorMr
import Derived.WalkKit
import Derived.ProofKit
import Derived.LaidMore
import Derived.OpenShut
import Derived.Stop.Joined
import Derived.ShutString
import Derived.ChangeOld
import Derived.Below
import Derived.SevenTiedAt
namespace Go.Proofs.YtojpeanakjefoaaDoor.maskRound
open Go.ChangeShapes Go.WideShapes Go.ChangeAt Go.RowKit
open Mm
set_option linter.unusedVariables false

set_option maxHeartbeats 2000000 in
theorem walk (a0 : Int) (a1 : Int) (w : World) (w0 : (Lit.int .u64 a0).wf = true) (w1 : (Lit.int .i64 a1).wf = true) (ht : Tab w) (hs : 0 < w.heap.size) :
    Calls Tryd.prog 7 #[.int .u64 a0, .int .i64 a1] w fun e w' => e = .returned (.bool true) ∧ Below w.heap.size w w' := by
  obtain ⟨x, rfl⟩ := Int.eq_ofNat_of_zero_le (show 0 ≤ a0 from (bounds_u64 w0).1)
  have hx : x < 18446744073709551616 := by have := (bounds_u64 w0).2; omega
  have hf := (bounds_i64 w1).1
  have HX : Hid (x < 18446744073709551616) := hx
  have HT : Hid (Tab w) := ht
  have HS : Hid (0 < w.heap.size) := hs
  have CM : Hid (∀ w, _) := fun w => many_any x w hx
  have HL : Hid ((ls x).length ≤ 64) := ls_le x
  obtain ⟨N, hN⟩ : ∃ N, (ls x).length = N := ⟨_, rfl⟩
  have HN : Hid ((ls x).length = N) := hN
  rw [hN] at CM
  have hNl : (N : Int) ≤ 64 := by have := HL.out; omega
  clear w0 w1 hx ht hs hN
  go_enter Tryd.func7, Tryd.ntmps7
  go_wp2_with fail
  go_loopw [6, 7, 8] (fun sv av iv wr => ∃ (k : Nat) (a : Int) (S : Nat), (k : Int) ≤ N ∧ -9223372036854775808 ≤ a ∧ Hid (S = wl 0 (sn x a1 k)) ∧ Hid (0 < (ls x).length → hd (nx x a) = rd x a1 k ∧ er (nx x a) = 0) ∧ Hid (Below w.heap.size w wr) ∧ sv = .int .u64 S ∧ av = .int .i64 a ∧ iv = .int .i64 k) (fun _ _ iv _ => N - (intOf iv).toNat)
  case atStart => exact ⟨0, a1, 0, by omega, hf, rfl, fun h0 => round_start x a1 h0, Below.refl _ _, rfl, rfl, rfl⟩
  case round =>
    obtain ⟨k, a, S, hk, ha, hS, hnx, hb, rfl, rfl, rfl⟩ := hrel
    by_cases h : (k : Int) < N
    · have hpos : 0 < (ls x).length := by have := HN.out; omega
      have hkN : k < (ls x).length := by have := HN.out; omega
      obtain ⟨e1, e2⟩ := hnx.out hpos
      have ri := rd_in x a1 k hpos
      have hSl : S < 18446744073709551616 := by rw [hS.out]; exact wl_lt _ _ (by omega)
      have CN : Hid (∀ w, _ → _) := fun w ht => next_any x a w HX.out ha ht
      rw [e1, e2] at CN
      have C1 : Hid (∀ w, _) := fun w => has_any S (rd x a1 k : Nat) w hSl
      rw [show tb S (rd x a1 k : Nat) = false by rw [hS.out]; exact seen_not x a1 k hkN] at C1
      have C2 : Hid (∀ w, _) := fun w => has_any x (rd x a1 k : Nat) w HX.out
      rw [ri.2] at C2
      have CW : Hid (∀ v w, _ → _) := fun v w hr => with_any S [(rd x a1 k : Int)] v w hSl (by simp) hr
      have hw : Hid (wl S [(rd x a1 k : Int)] = wl 0 (sn x a1 (k + 1))) := by
        rw [seen_succ, wl_snoc, ← hS.out]
        rfl
      have hst : Hid (0 < (ls x).length → hd (nx x (rd x a1 k : Nat)) = rd x a1 (k + 1) ∧ er (nx x (rd x a1 k : Nat)) = 0) := fun h0 => round_step x a1 k h0
      have hT : Hid (Tab wr) := HT.out.below HS.out hb.out
      generalize wl S [(rd x a1 k : Int)] = S2 at *
      generalize rd x a1 k = n at *
      clear hpos hkN e1 e2 ri hSl hS hnx
      go_wp2_with fail
      refine (CM.out _).mono ?_
      rintro e w' ⟨rfl, rfl⟩
      go_wp2_with fail
      refine (CN.out _ hT.out).mono ?_
      rintro e w' ⟨rfl, rfl⟩
      go_wp2_with fail
      refine (C1.out _).mono ?_
      rintro e w' ⟨rfl, rfl⟩
      go_wp2_with fail
      refine (C2.out _).mono ?_
      rintro e w' ⟨rfl, rfl⟩
      go_wp2_with fail
      refine (CW.out _ _ (row1 _ n)).mono ?_
      rintro e w2 ⟨rfl, rfl⟩
      have hb2 : Hid (Below w.heap.size w _) := hb.out.alloc hb.out.size (.cells #[.int .i64 (n : Int)] 3)
      go_wp2
      go_roundw
      case rel => exact ⟨k + 1, n, S2, by omega, by omega, hw, hst, hb2, rfl, rfl, by go_num⟩
      case measure => simp [intOf]; omega
    · have e : S = x := by
        have g := HN.out
        rw [hS.out, show k = (ls x).length by omega]
        exact seen_all x a1 HX.out
      subst e
      have hT : Hid (Tab wr) := HT.out.below HS.out hb.out
      have hS2 : Hid (0 < wr.heap.size) := Nat.lt_of_lt_of_le HS.out hb.out.size
      clear hS hnx
      go_wp2_with fail
      refine (CM.out _).mono ?_
      rintro e w' ⟨rfl, rfl⟩
      go_wp2_with fail
      refine (known_yes _ hT.out hS2.out).mono ?_
      rintro e u ⟨rfl, b5⟩
      have B5 : Hid (Below w.heap.size w u) := hb.out.trans (b5.mono hb.out.size)
      clear b5
      go_wp2
      go_ret
      exact ⟨rfl, B5.out⟩

set_option maxRecDepth 100000 in
theorem lifted (os : Os) (started : os.Started) (H : Type) (enc : TypeId × Value → H) :
    ReturnsInHanded {} Tryd.checked os 7 .any (fun w args => (Rows.maskRoundSpec.pre enc Tryd.prog Tryd.f7 [] false w args ∧ laidMetH Tryd.prog laidTab w) ∧ sizedMet enc Tryd.prog Tryd.f7 (OpenSpec.ofChange Rows.maskRoundSpec) false w args)
      (Rows.maskRoundSpec.post enc Tryd.prog Tryd.f7 false true false false) := by
  refine returnsInHanded_of_change_and (C := Tryd.checked) (X := fun w _ => laidMetH Tryd.prog laidTab w) (fun _ _ _ hh h => h.of_heap hh) own started (by kernel_rfl) Tryd.func7
    (ChangeSpec.witness_shaped (enc := enc) (C := Tryd.checked) (os := os) (X := fun w _ => laidMetH Tryd.prog laidTab w) false (World.doorLaid Tryd.prog 400 os) #[.int .u64 0, .int .i64 0] 8 rfl (World.shaped_of_RefB (by kernel_rfl) (by kernel_rfl)) (by kernel_rfl) (by kernel_rfl) (by kernel_rfl) (door_met os _)) ?_
  intro W base args ds gs before hval0 hW _ _ hL _
  have hval : ∀ (j : Nat) t v, Tryd.f7.params[j]? = some t → args[j]? = some v → Value.okWide Tryd.prog W .any base t v := hval0
  have hW' := hW
  obtain ⟨p, q, hA0, hV, rfl, hfz, hnd⟩ := hW
  have hA : DataW.TrodAll enc Tryd.prog W 0 (fun _ => true) true Tryd.f7.params.toList args.toList ds p := hA0
  rw [Tryd.params7] at hA hval
  obtain ⟨v0, vs0, d0, ds0, p0, q0, hargs, rfl, rfl, h0, r0⟩ := trodAll_cons hA
  obtain ⟨v1, vs1, d1, ds1, p1, q1, rfl, rfl, rfl, h1, r1⟩ := trodAll_cons r0
  obtain ⟨rfl, rfl, rfl⟩ := trodAll_nil r1
  obtain rfl : args = #[v0, v1] := by cases args; simp_all
  obtain ⟨rfl, rfl⟩ := trodVars_none hV
  obtain ⟨a0, rfl, rfl, rfl, w0⟩ := open_int Tryd.underlying22 (hval 0 22 v0 rfl rfl) h0
  obtain ⟨a1, rfl, rfl, rfl, w1⟩ := open_int Tryd.underlying3 (hval 1 3 v1 rfl rfl) h1
  obtain ⟨hT, hS⟩ := of_laid hL
  clear hA0 hval0
  refine (walk a0 a1 W w0 w1 hT hS).mono fun e W' ⟨he, bel⟩ => ?_
  subst he
  exact ⟨_, rfl, _, _, _, [], _, [], hW', trodAll_mk1 (shut_bool Tryd.underlying4 _), (trodAll_cons_mk (shut_int Tryd.underlying22 w0) (trodAll_cons_mk (shut_int Tryd.underlying3 w1) trodAll_mk0)), rfl, bel.frame _, fun h => by cases h⟩

theorem over : Rows.MaskRoundSaid :=
  OpenClaim.holds_of_wide 7 Tryd.f7 rfl rfl rfl rfl rfl rfl rfl ⟨rfl, rfl, rfl, rfl, rfl⟩ rfl rfl rfl rfl rfl (by kernel_rfl) Tryd.func7 (by kernel_rfl)
    (of_decide_eq_true (by kernel_rfl)) (by unfold Func.isWrapper; first | (rw [if_pos (by decide +kernel)]; kernel_rfl) | (rw [if_neg (by decide +kernel)]; exact ⟨rfl, rfl⟩))
    (fun os started H enc _ => lifted os started H enc)
end Go.Proofs.YtojpeanakjefoaaDoor.maskRound

namespace Go.Proofs.YtojpeanakjefoaaDoor
open Go
theorem maskRound_card : Rows.MaskRoundCardSaid :=
  Claim7.holds_tied_plain_at .later [] [.data] true (true, "8c36869085a7bb1645b169c838f61ecb09e7bffe6c27c335601dd159cbf912a3") false
    maskRound.over (fun _ h => by cases h) (by kernel_rfl) (fun _ h => by cases h) maskRound_row_tie rfl ⟨rfl, rfl⟩ (by kernel_rfl) rfl
    (fun f fn hf hfn => by
      obtain rfl : f = 7 := Option.some.inj ((show Tryd.prog.funcNamed "davit/davitlaw01.MaskRound" = some 7 by kernel_rfl).symm.trans hf) |>.symm
      obtain rfl : fn = Tryd.f7 := (Option.some.inj (Tryd.func7.symm.trans hfn)).symm
      exact ⟨by kernel_rfl, fun j t ht => by
        rw [Tryd.params7] at ht
        have hm : t ∈ [22, 3] := by simpa using Array.mem_of_getElem? ht
        have hall : ([22, 3].all fun u => !Tryd.prog.wantsStandIn u) = true := by kernel_rfl
        exact (show Tryd.prog.wantsStandIn t = false by simpa using List.all_eq_true.1 hall t hm)⟩)
    (by kernel_rfl)
#print axioms maskRound_card
end Go.Proofs.YtojpeanakjefoaaDoor
