/- Proved: for every slice of records and every mask, davitlaw33.ShowLines returns true: of up to 700 records Line writes the first twenty and Lines all as the document does, Mask names the bits as the document does, and of longer lists the fixed calls answer as they must; no condition but that the listed variables are as the program's text lays them, which the card ties. -/
import Derived.Test.YtnmbacegcbjfaaaDoorRows
import Derived.Test.YtnmbacegcbjfaaaDoorTie
import Derived.Test.YtnmbacegcbjfaaaDoorCards
import Derived.Test.YtnmbacegcbjfaaaDoorMws
import Derived.Test.YtnmbacegcbjfaaaDoorFo
import Derived.Test.YtnmbacegcbjfaaaDoorSx3
import Derived.WalkKit
import Derived.ProofKit
import Derived.OpenShut
import Derived.Stop.Joined
import Derived.ShutString
import Derived.ChangeOld
import Derived.Below
import Derived.Carry
import Derived.LaidMore
import Derived.SevenTiedAt
import Derived.Test.YtnmbacegcbjfaaaDoorFt
namespace Go.Proofs.YtnmbacegcbjfaaaDoor.showLines
open Go.ChangeShapes Go.WideShapes Go.ChangeAt Go.RowKit
open Wd Sv
set_option linter.unusedVariables false
set_option linter.unusedSimpArgs false

set_option maxRecDepth 100000 in
set_option maxHeartbeats 4000000 in
theorem walk (a0 : Option Addr) (len0 cap0 : Nat) (X0 : Nat → Nat → Int) (a1 : Int) (w : World) (w0 : TRow w (.slice a0 len0 cap0) len0 [1, 1, 1, 1, 1] X0) (z0 : ∀ i, i < len0 → ∀ j, j < [1, 1, 1, 1, 1].length → kwf ([1, 1, 1, 1, 1].getD j 1) (X0 i j)) (w1 : (Lit.int .u64 a1).wf = true) (g : GW w) :
    Calls Tryd.prog 3 #[.slice a0 len0 cap0, .int .u64 a1] w fun e w' => e = .returned (.bool true) ∧ Below w.heap.size w w' := by
  obtain ⟨m, hm⟩ := Int.eq_ofNat_of_zero_le (bounds_u64 w1).1
  subst hm
  have hE : ∀ i, i < len0 → (⟨X0 i 0, X0 i 1, X0 i 2, X0 i 3, X0 i 4⟩ : Sv.R).wf := fun i hi => by
    have w0 := z0 i hi 0 (by decide)
    have w1 := z0 i hi 1 (by decide)
    have w2 := z0 i hi 2 (by decide)
    have w3 := z0 i hi 3 (by decide)
    have w4 := z0 i hi 4 (by decide)
    simp only [kwf, List.getD_cons_zero, List.getD_cons_succ, reduceIte, Nat.reduceEqDiff] at w0 w1 w2 w3 w4
    exact ⟨bounds_i64 w0, bounds_i64 w1, bounds_i64 w2, bounds_i64 w3, bounds_i64 w4⟩
  refine lines_law ((List.range len0).map fun i => ⟨X0 i 0, X0 i 1, X0 i 2, X0 i 3, X0 i 4⟩) ?_ a0 len0 cap0 m (by have := (bounds_u64 w1).2; omega) w g ?_ (by simp)
  · intro e he
    obtain ⟨i, hi, rfl⟩ := List.mem_map.1 he
    exact hE i (by simpa using hi)
  · rcases w0 with ⟨rfl, a, c, hv⟩ | ⟨b, off, c, hv, hlt, hc⟩
    · exact Or.inl ⟨rfl, a, c, hv⟩
    · refine Or.inr ⟨b, off, c, by rw [hv]; simp, hlt, fun i hi j hj => ?_⟩
      have hi' : i < len0 := by simpa using hi
      have hj5 : j < 5 := hj
      have h := hc i hi' j hj
      refine h.trans ?_
      have hg : ((List.range len0).map fun i => (⟨X0 i 0, X0 i 1, X0 i 2, X0 i 3, X0 i 4⟩ : Sv.R)).getD i rlay.z = ⟨X0 i 0, X0 i 1, X0 i 2, X0 i 3, X0 i 4⟩ := by simp [List.getD, hi']
      rw [hg]
      obtain rfl | rfl | rfl | rfl | rfl : j = 0 ∨ j = 1 ∨ j = 2 ∨ j = 3 ∨ j = 4 := by omega
      all_goals rfl

set_option maxRecDepth 100000 in
theorem lifted (os : Os) (started : os.Started) (H : Type) (enc : TypeId × Value → H) :
    ReturnsInHanded {} Tryd.checked os 3 .any (fun w args => (Rows.showLinesSpec.pre enc Tryd.prog Tryd.f3 [] false w args ∧ laidMetH Tryd.prog laidTab w) ∧ sizedMet enc Tryd.prog Tryd.f3 (OpenSpec.ofChange Rows.showLinesSpec) false w args)
      (Rows.showLinesSpec.post enc Tryd.prog Tryd.f3 false true false false) := by
  refine handed_shaped (C := Tryd.checked) (X := fun w _ => laidMetH Tryd.prog laidTab w) (fun _ _ _ hh h => h.of_heap hh) own started (by kernel_rfl) Tryd.func3
    (ChangeSpec.witness_shaped (enc := enc) (C := Tryd.checked) (os := os) (X := fun w _ => laidMetH Tryd.prog laidTab w) false (World.laidAll Tryd.prog os laidTab) #[.slice none 0 0, .int .u64 0] 8 (World.laidAll_os _ _ _) (World.shaped_of_ZipB (by kernel_rfl) (by kernel_rfl)) (by kernel_rfl) (by kernel_rfl) (by kernel_rfl) (laid_met os _)) ?_
  intro W base args ds gs before hval0 hW hL hSh
  have hval : ∀ (j : Nat) t v, Tryd.f3.params[j]? = some t → args[j]? = some v → Value.okWide Tryd.prog W .any base t v := hval0
  have hW' := hW
  obtain ⟨p, q, hA0, hV, rfl, hfz, hnd⟩ := hW
  have hA : DataW.TrodAll enc Tryd.prog W 0 (fun _ => true) true Tryd.f3.params.toList args.toList ds p := hA0
  rw [Tryd.params3] at hA hval
  obtain ⟨v0, vs0, d0, ds0, p0, q0, hargs, rfl, rfl, h0, r0⟩ := trodAll_cons hA
  obtain ⟨v1, vs1, d1, ds1, p1, q1, rfl, rfl, rfl, h1, r1⟩ := trodAll_cons r0
  obtain ⟨rfl, rfl, rfl⟩ := trodAll_nil r1
  obtain rfl : args = #[v0, v1] := by cases args; simp_all
  obtain ⟨rfl, rfl⟩ := trodVars_none hV
  obtain ⟨a0, len0, cap0, rfl⟩ := okWide_slice Tryd.underlying22 (hval 0 22 v0 rfl rfl)
  have k0 := h0
  have lt0 : ∀ x ∈ p0, x.block < W.heap.size := by obtain ⟨m, hm⟩ := k0; exact DataW.trod_lt m _ _ _ hm
  obtain ⟨X0, w0, z0⟩ : ∃ X : Nat → Nat → Int, TRow W (.slice a0 len0 cap0) len0 [1, 1, 1, 1, 1] X ∧ ∀ i, i < len0 → ∀ j, j < [1, 1, 1, 1, 1].length → kwf ([1, 1, 1, 1, 1].getD j 1) (X i j) := by
    obtain ⟨fuel, hf⟩ := h0
    exact open_recx [1, 1, 1, 1, 1] Tryd.underlying22 Tryd.underlying28 (by kernel_rfl) rfl (by decide) (fun | 0, _ => ⟨_, rfl, rfl, by kernel_rfl, Tryd.underlying3⟩ | 1, _ => ⟨_, rfl, rfl, by kernel_rfl, Tryd.underlying3⟩ | 2, _ => ⟨_, rfl, rfl, by kernel_rfl, Tryd.underlying3⟩ | 3, _ => ⟨_, rfl, rfl, by kernel_rfl, Tryd.underlying2⟩ | 4, _ => ⟨_, rfl, rfl, by kernel_rfl, Tryd.underlying26⟩ | n + 5, h => absurd h (by simp only [List.length]; omega)) hf
  obtain ⟨a1, rfl, rfl, rfl, w1⟩ := open_int Tryd.underlying23 (hval 1 23 v1 rfl rfl) h1
  have hg := of_laid hL hSh
  clear hA0 hval0
  refine (walk a0 len0 cap0 X0 a1 W w0 z0 w1 hg).mono fun e W' ⟨he, bel⟩ => ?_
  subst he
  exact ⟨_, rfl, _, _, _, [], _, [], hW', trodAll_mk1 (shut_bool Tryd.underlying4 _), (trodAll_cons_mk (Below.trod laidOut (by kernel_rfl) (of_decide_eq_true (by kernel_rfl)) k0 bel lt0) (trodAll_cons_mk (shut_int Tryd.underlying23 w1) trodAll_mk0)), rfl, bel.frame _, fun h => by cases h⟩

theorem over : Rows.ShowLinesSaid :=
  OpenClaim.holds_of_wide 3 Tryd.f3 rfl rfl rfl rfl rfl rfl rfl ⟨rfl, rfl, rfl, rfl, rfl⟩ rfl rfl rfl rfl rfl (by kernel_rfl) Tryd.func3 (by kernel_rfl)
    (of_decide_eq_true (by kernel_rfl)) (by unfold Func.isWrapper; first | (rw [if_pos (by decide +kernel)]; kernel_rfl) | (rw [if_neg (by decide +kernel)]; exact ⟨rfl, rfl⟩))
    (fun os started H enc _ => lifted os started H enc)
end Go.Proofs.YtnmbacegcbjfaaaDoor.showLines

namespace Go.Proofs.YtnmbacegcbjfaaaDoor
open Go
theorem showLines_card : Rows.ShowLinesCardSaid :=
  Claim7.holds_tied_plain_at .later [] [.data, .data, .data, .sentinel, .sentinel, .data] true (true, "9ecff85403913690ff622071a0d6a40385766ac7ca31309025196955cd97f44f") true
    showLines.over (fun _ h => by cases h) (by kernel_rfl) (fun _ h => by cases h) showLines_row_tie rfl ⟨rfl, rfl⟩ (by kernel_rfl) rfl
    (fun f fn hf hfn => by
      obtain rfl : f = 3 := Option.some.inj ((show Tryd.prog.funcNamed "davit/davitlaw33.ShowLines" = some 3 by kernel_rfl).symm.trans hf) |>.symm
      obtain rfl : fn = Tryd.f3 := (Option.some.inj (Tryd.func3.symm.trans hfn)).symm
      exact ⟨by kernel_rfl, fun j t ht => by
        rw [Tryd.params3] at ht
        have hm : t ∈ [22, 23] := by simpa using Array.mem_of_getElem? ht
        have hall : ([22, 23].all fun u => !Tryd.prog.wantsStandIn u) = true := by kernel_rfl
        exact (show Tryd.prog.wantsStandIn t = false by simpa using List.all_eq_true.1 hall t hm)⟩)
    (by kernel_rfl)
#print axioms showLines_card
end Go.Proofs.YtnmbacegcbjfaaaDoor
