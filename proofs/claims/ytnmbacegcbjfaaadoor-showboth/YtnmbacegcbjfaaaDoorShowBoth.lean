/- Proved: for every record and every text, davitlaw33.ShowBoth returns true: a record's line is read back as the record, a record of no kind has no line, and what is read of a text of up to 200 bytes is written so; no condition but that the listed variables are as the program's text lays them, which the card ties. -/
import Derived.Test.YtnmbacegcbjfaaaDoorRows
import Derived.Test.YtnmbacegcbjfaaaDoorTie
import Derived.Test.YtnmbacegcbjfaaaDoorCards
import Derived.Test.YtnmbacegcbjfaaaDoorMws
import Derived.Test.YtnmbacegcbjfaaaDoorFo
import Derived.Test.YtnmbacegcbjfaaaDoorSx2
import Derived.WalkKit
import Derived.ProofKit
import Derived.OpenShut
import Derived.Stop.Joined
import Derived.ShutString
import Derived.ChangeOld
import Derived.Below
import Derived.Carry
import Derived.LaidMore
import Derived.SevenTiedAt
import Derived.ChangeMaps5
import Derived.Test.YtnmbacegcbjfaaaDoorFt
namespace Go.Proofs.YtnmbacegcbjfaaaDoor.showBoth
open Go.ChangeShapes Go.WideShapes Go.ChangeAt Go.RowKit
open Wd Sv
set_option linter.unusedVariables false
set_option linter.unusedSimpArgs false

set_option maxRecDepth 100000 in
set_option maxHeartbeats 4000000 in
theorem walk (X0 : Nat → Int) (l1 : List UInt8) (w : World) (z0 : ∀ j, j < [1, 1, 1, 1, 1].length → kwf ([1, 1, 1, 1, 1].getD j 1) (X0 j)) (m1 : (sb l1).size ≤ maxLen) (g : GW w) :
    Calls Tryd.prog 5 #[.agg #[.int .i64 (X0 0), .int .i64 (X0 1), .int .i64 (X0 2), .int .i64 (X0 3), .int .i64 (X0 4)], .string (sb l1)] w fun e w' => e = .returned (.bool true) ∧ Below w.heap.size w w' := by
  have w0 := z0 0 (by decide)
  have w1 := z0 1 (by decide)
  have w2 := z0 2 (by decide)
  have w3 := z0 3 (by decide)
  have w4 := z0 4 (by decide)
  simp only [kwf, List.getD_cons_zero, List.getD_cons_succ, if_true, if_false, reduceIte, Nat.reduceEqDiff] at w0 w1 w2 w3 w4
  exact both_law ⟨X0 0, X0 1, X0 2, X0 3, X0 4⟩ ⟨bounds_i64 w0, bounds_i64 w1, bounds_i64 w2, bounds_i64 w3, bounds_i64 w4⟩ l1 w g

set_option maxRecDepth 100000 in
theorem lifted (os : Os) (started : os.Started) (H : Type) (enc : TypeId × Value → H) :
    ReturnsInHanded {} Tryd.checked os 5 .any (fun w args => (Rows.showBothSpec.pre enc Tryd.prog Tryd.f5 [] false w args ∧ laidMetH Tryd.prog laidTab w) ∧ sizedMet enc Tryd.prog Tryd.f5 (OpenSpec.ofChange Rows.showBothSpec) false w args)
      (Rows.showBothSpec.post enc Tryd.prog Tryd.f5 false true false false) := by
  refine handed_shaped (C := Tryd.checked) (X := fun w _ => laidMetH Tryd.prog laidTab w) (fun _ _ _ hh h => h.of_heap hh) own started (by kernel_rfl) Tryd.func5
    (ChangeSpec.witness_shaped (enc := enc) (C := Tryd.checked) (os := os) (X := fun w _ => laidMetH Tryd.prog laidTab w) false (World.laidAll Tryd.prog os laidTab) #[.agg #[.int .i64 0, .int .i64 0, .int .i64 0, .int .i64 0, .int .i64 0], .string (sb [])] 8 (World.laidAll_os _ _ _) (World.shaped_of_ZipB (by kernel_rfl) (by kernel_rfl)) (by kernel_rfl) (by kernel_rfl) (by kernel_rfl) (laid_met os _)) ?_
  intro W base args ds gs before hval0 hW hL hSh
  have hval : ∀ (j : Nat) t v, Tryd.f5.params[j]? = some t → args[j]? = some v → Value.okWide Tryd.prog W .any base t v := hval0
  have hW' := hW
  obtain ⟨p, q, hA0, hV, rfl, hfz, hnd⟩ := hW
  have hA : DataW.TrodAll enc Tryd.prog W 0 (fun _ => true) true Tryd.f5.params.toList args.toList ds p := hA0
  rw [Tryd.params5] at hA hval
  obtain ⟨v0, vs0, d0, ds0, p0, q0, hargs, rfl, rfl, h0, r0⟩ := trodAll_cons hA
  obtain ⟨v1, vs1, d1, ds1, p1, q1, rfl, rfl, rfl, h1, r1⟩ := trodAll_cons r0
  obtain ⟨rfl, rfl, rfl⟩ := trodAll_nil r1
  obtain rfl : args = #[v0, v1] := by cases args; simp_all
  obtain ⟨rfl, rfl⟩ := trodVars_none hV
  have k0 := h0
  have lt0 : ∀ x ∈ p0, x.block < W.heap.size := by obtain ⟨m, hm⟩ := k0; exact DataW.trod_lt m _ _ _ hm
  obtain ⟨X0, e0, z0⟩ := open_rec [1, 1, 1, 1, 1] Tryd.underlying28 (by kernel_rfl) rfl (fun | 0, _ => ⟨_, rfl, rfl, by kernel_rfl, Tryd.underlying3⟩ | 1, _ => ⟨_, rfl, rfl, by kernel_rfl, Tryd.underlying3⟩ | 2, _ => ⟨_, rfl, rfl, by kernel_rfl, Tryd.underlying3⟩ | 3, _ => ⟨_, rfl, rfl, by kernel_rfl, Tryd.underlying2⟩ | 4, _ => ⟨_, rfl, rfl, by kernel_rfl, Tryd.underlying26⟩ | n + 5, h => absurd h (by simp only [List.length]; omega)) (hval 0 28 v0 rfl rfl) h0
  have e0 : v0 = .agg #[.int .i64 (X0 0), .int .i64 (X0 1), .int .i64 (X0 2), .int .i64 (X0 3), .int .i64 (X0 4)] := e0
  subst e0
  obtain ⟨s1, rfl, rfl, rfl, m1⟩ := Go.ChangeMaps.open_string Tryd.underlying9 (hval 1 9 v1 rfl rfl) h1
  obtain ⟨l1, rfl⟩ : ∃ l, s1 = sb l := ⟨_, sb_eta s1⟩
  have hg := of_laid hL hSh
  clear hA0 hval0
  refine (walk X0 l1 W z0 m1 hg).mono fun e W' ⟨he, bel⟩ => ?_
  subst he
  exact ⟨_, rfl, _, _, _, [], _, [], hW', trodAll_mk1 (shut_bool Tryd.underlying4 _), (trodAll_cons_mk (Below.trod laidOut (by kernel_rfl) (of_decide_eq_true (by kernel_rfl)) k0 bel lt0) (trodAll_cons_mk (Go.ChangeMaps.shut_string Tryd.underlying9 m1) trodAll_mk0)), rfl, bel.frame _, fun h => by cases h⟩

theorem over : Rows.ShowBothSaid :=
  OpenClaim.holds_of_wide 5 Tryd.f5 rfl rfl rfl rfl rfl rfl rfl ⟨rfl, rfl, rfl, rfl, rfl⟩ rfl rfl rfl rfl rfl (by kernel_rfl) Tryd.func5 (by kernel_rfl)
    (of_decide_eq_true (by kernel_rfl)) (by unfold Func.isWrapper; first | (rw [if_pos (by decide +kernel)]; kernel_rfl) | (rw [if_neg (by decide +kernel)]; exact ⟨rfl, rfl⟩))
    (fun os started H enc _ => lifted os started H enc)
end Go.Proofs.YtnmbacegcbjfaaaDoor.showBoth

namespace Go.Proofs.YtnmbacegcbjfaaaDoor
open Go
theorem showBoth_card : Rows.ShowBothCardSaid :=
  Claim7.holds_tied_plain_at .later [] [.data, .data, .data, .sentinel, .sentinel, .data] true (true, "9ecff85403913690ff622071a0d6a40385766ac7ca31309025196955cd97f44f") true
    showBoth.over (fun _ h => by cases h) (by kernel_rfl) (fun _ h => by cases h) showBoth_row_tie rfl ⟨rfl, rfl⟩ (by kernel_rfl) rfl
    (fun f fn hf hfn => by
      obtain rfl : f = 5 := Option.some.inj ((show Tryd.prog.funcNamed "davit/davitlaw33.ShowBoth" = some 5 by kernel_rfl).symm.trans hf) |>.symm
      obtain rfl : fn = Tryd.f5 := (Option.some.inj (Tryd.func5.symm.trans hfn)).symm
      exact ⟨by kernel_rfl, fun j t ht => by
        rw [Tryd.params5] at ht
        have hm : t ∈ [28, 9] := by simpa using Array.mem_of_getElem? ht
        have hall : ([28, 9].all fun u => !Tryd.prog.wantsStandIn u) = true := by kernel_rfl
        exact (show Tryd.prog.wantsStandIn t = false by simpa using List.all_eq_true.1 hall t hm)⟩)
    (by kernel_rfl)
#print axioms showBoth_card
end Go.Proofs.YtnmbacegcbjfaaaDoor
