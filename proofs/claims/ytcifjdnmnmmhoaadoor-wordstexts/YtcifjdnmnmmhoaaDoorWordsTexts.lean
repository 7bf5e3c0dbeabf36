/- Proved: for every slice of events, davitlaw32.WordsTexts returns true: of up to 650 events Text writes what the document's Text writes, and Read reads them back; no condition but that the listed variables are as the program's text lays them, which the card ties. -/
import Derived.Test.YtcifjdnmnmmhoaaDoorRows
import Derived.Test.YtcifjdnmnmmhoaaDoorTie
import Derived.Test.YtcifjdnmnmmhoaaDoorCards
import Derived.Test.YtcifjdnmnmmhoaaDoorMwu
import Derived.Test.YtcifjdnmnmmhoaaDoorFo
import Derived.Test.YtcifjdnmnmmhoaaDoorWd24
import Derived.WalkKit
import Derived.ProofKit
import Derived.OpenShut
import Derived.Stop.Joined
import Derived.ShutString
import Derived.ChangeOld
import Derived.Below
import Derived.Carry
import Derived.LaidMore
import Derived.SevenTiedAt
import Derived.Test.YtcifjdnmnmmhoaaDoorFt
namespace Go.Proofs.YtcifjdnmnmmhoaaDoor.wordsTexts
open Go.ChangeShapes Go.WideShapes Go.ChangeAt Go.RowKit
open Wd
set_option linter.unusedVariables false
set_option linter.unusedSimpArgs false

set_option maxRecDepth 100000 in
set_option maxHeartbeats 4000000 in
theorem walk (a0 : Option Addr) (len0 cap0 : Nat) (X0 : Nat → Nat → Int) (w : World) (w0 : TRow w (.slice a0 len0 cap0) len0 [1, 1, 1, 2, 1] X0) (z0 : ∀ i, i < len0 → ∀ j, j < [1, 1, 1, 2, 1].length → kwf ([1, 1, 1, 2, 1].getD j 1) (X0 i j)) (g : GW w) :
    Calls Tryd.prog 5 #[.slice a0 len0 cap0] w fun e w' => e = .returned (.bool true) ∧ Below w.heap.size w w' := by
  have hm : ∀ i, i < len0 → 0 ≤ X0 i 3 ∧ X0 i 3 ≤ 18446744073709551615 := fun i hi => by
    have := z0 i hi 3 (by decide)
    simp only [kwf, List.getD_cons_zero, List.getD_cons_succ, reduceIte, Nat.reduceEqDiff] at this
    exact bounds_u64 this
  have hE : ∀ i, i < len0 → (⟨X0 i 0, X0 i 1, X0 i 2, (X0 i 3).toNat, X0 i 4⟩ : V).wf := fun i hi => by
    have w0 := z0 i hi 0 (by decide)
    have w1 := z0 i hi 1 (by decide)
    have w2 := z0 i hi 2 (by decide)
    have w4 := z0 i hi 4 (by decide)
    have w3 := hm i hi
    simp only [kwf, List.getD_cons_zero, List.getD_cons_succ, reduceIte, Nat.reduceEqDiff] at w0 w1 w2 w4
    exact ⟨bounds_i64 w0, bounds_i64 w1, bounds_i64 w2, by show (X0 i 3).toNat < 18446744073709551616; omega, bounds_i64 w4⟩
  refine texts_law ((List.range len0).map fun i => ⟨X0 i 0, X0 i 1, X0 i 2, (X0 i 3).toNat, X0 i 4⟩) ?_ a0 len0 cap0 w g ?_ (by simp)
  · intro e he
    obtain ⟨i, hi, rfl⟩ := List.mem_map.1 he
    exact hE i (by simpa using hi)
  · rcases w0 with ⟨rfl, a, c, hv⟩ | ⟨b, off, c, hv, hlt, hc⟩
    · exact Or.inl ⟨rfl, a, c, hv⟩
    · refine Or.inr ⟨b, off, c, by rw [hv]; simp, hlt, fun i hi j hj => ?_⟩
      have hi' : i < len0 := by simpa using hi
      have hj5 : j < 5 := hj
      have h := hc i hi' j hj
      refine h.trans ?_
      have hg : ((List.range len0).map fun i => (⟨X0 i 0, X0 i 1, X0 i 2, (X0 i 3).toNat, X0 i 4⟩ : V)).getD i vl.z = ⟨X0 i 0, X0 i 1, X0 i 2, (X0 i 3).toNat, X0 i 4⟩ := by simp [List.getD, hi']
      rw [hg]
      have hx : ((X0 i 3).toNat : Int) = X0 i 3 := Int.toNat_of_nonneg (hm i hi').1
      match j, hj5 with
      | 0, _ => rfl
      | 1, _ => rfl
      | 2, _ => rfl
      | 3, _ => show some (Value.int .u64 (X0 i 3)) = some (.int .u64 ((X0 i 3).toNat : Int)); rw [hx]
      | 4, _ => rfl

set_option maxRecDepth 100000 in
theorem lifted (os : Os) (started : os.Started) (H : Type) (enc : TypeId × Value → H) :
    ReturnsInHanded {} Tryd.checked os 5 .any (fun w args => (Rows.wordsTextsSpec.pre enc Tryd.prog Tryd.f5 [] false w args ∧ laidMetH Tryd.prog laidTab w) ∧ sizedMet enc Tryd.prog Tryd.f5 (OpenSpec.ofChange Rows.wordsTextsSpec) false w args)
      (Rows.wordsTextsSpec.post enc Tryd.prog Tryd.f5 false true false false) := by
  refine handed_shaped (C := Tryd.checked) (X := fun w _ => laidMetH Tryd.prog laidTab w) (fun _ _ _ hh h => h.of_heap hh) own started (by kernel_rfl) Tryd.func5
    (ChangeSpec.witness_shaped (enc := enc) (C := Tryd.checked) (os := os) (X := fun w _ => laidMetH Tryd.prog laidTab w) false (World.laidAll Tryd.prog os laidTab) #[.slice none 0 0] 8 (World.laidAll_os _ _ _) (World.shaped_of_ZipB (by kernel_rfl) (by kernel_rfl)) (by kernel_rfl) (by kernel_rfl) (by kernel_rfl) (laid_met os _)) ?_
  intro W base args ds gs before hval0 hW hL hSh
  have hval : ∀ (j : Nat) t v, Tryd.f5.params[j]? = some t → args[j]? = some v → Value.okWide Tryd.prog W .any base t v := hval0
  have hW' := hW
  obtain ⟨p, q, hA0, hV, rfl, hfz, hnd⟩ := hW
  have hA : DataW.TrodAll enc Tryd.prog W 0 (fun _ => true) true Tryd.f5.params.toList args.toList ds p := hA0
  rw [Tryd.params5] at hA hval
  obtain ⟨v0, vs0, d0, ds0, p0, q0, hargs, rfl, rfl, h0, r0⟩ := trodAll_cons hA
  obtain ⟨rfl, rfl, rfl⟩ := trodAll_nil r0
  obtain rfl : args = #[v0] := by cases args; simp_all
  obtain ⟨rfl, rfl⟩ := trodVars_none hV
  obtain ⟨a0, len0, cap0, rfl⟩ := okWide_slice Tryd.underlying35 (hval 0 35 v0 rfl rfl)
  have k0 := h0
  have lt0 : ∀ x ∈ p0, x.block < W.heap.size := by obtain ⟨m, hm⟩ := k0; exact DataW.trod_lt m _ _ _ hm
  obtain ⟨X0, w0, z0⟩ : ∃ X : Nat → Nat → Int, TRow W (.slice a0 len0 cap0) len0 [1, 1, 1, 2, 1] X ∧ ∀ i, i < len0 → ∀ j, j < [1, 1, 1, 2, 1].length → kwf ([1, 1, 1, 2, 1].getD j 1) (X i j) := by
    obtain ⟨fuel, hf⟩ := h0
    exact open_recx [1, 1, 1, 2, 1] Tryd.underlying35 Tryd.underlying24 (by kernel_rfl) rfl (by decide) (fun | 0, _ => ⟨_, rfl, rfl, by kernel_rfl, Tryd.underlying3⟩ | 1, _ => ⟨_, rfl, rfl, by kernel_rfl, Tryd.underlying3⟩ | 2, _ => ⟨_, rfl, rfl, by kernel_rfl, Tryd.underlying3⟩ | 3, _ => ⟨_, rfl, rfl, by kernel_rfl, Tryd.underlying22⟩ | 4, _ => ⟨_, rfl, rfl, by kernel_rfl, Tryd.underlying2⟩ | n + 5, h => absurd h (by simp only [List.length]; omega)) hf
  have hg := of_laid hL hSh
  clear hA0 hval0
  refine (walk a0 len0 cap0 X0 W w0 z0 hg).mono fun e W' ⟨he, bel⟩ => ?_
  subst he
  exact ⟨_, rfl, _, _, _, [], _, [], hW', trodAll_mk1 (shut_bool Tryd.underlying4 _), (trodAll_cons_mk (Below.trod laidOut (by kernel_rfl) (of_decide_eq_true (by kernel_rfl)) k0 bel lt0) trodAll_mk0), rfl, bel.frame _, fun h => by cases h⟩

theorem over : Rows.WordsTextsSaid :=
  OpenClaim.holds_of_wide 5 Tryd.f5 rfl rfl rfl rfl rfl rfl rfl ⟨rfl, rfl, rfl, rfl, rfl⟩ rfl rfl rfl rfl rfl (by kernel_rfl) Tryd.func5 (by kernel_rfl)
    (of_decide_eq_true (by kernel_rfl)) (by unfold Func.isWrapper; first | (rw [if_pos (by decide +kernel)]; kernel_rfl) | (rw [if_neg (by decide +kernel)]; exact ⟨rfl, rfl⟩))
    (fun os started H enc _ => lifted os started H enc)
end Go.Proofs.YtcifjdnmnmmhoaaDoor.wordsTexts

namespace Go.Proofs.YtcifjdnmnmmhoaaDoor
open Go
theorem wordsTexts_card : Rows.WordsTextsCardSaid :=
  Claim7.holds_tied_plain_at .later [] [.data, .data, .data, .data, .sentinel, .sentinel, .data, .pinned] true (true, "6e693179d95d678ced87532db4f628cc0500c29e7111fd40297451856e3d4aae") true
    wordsTexts.over (fun _ h => by cases h) (by kernel_rfl) (fun _ h => by cases h) wordsTexts_row_tie rfl ⟨rfl, rfl⟩ (by kernel_rfl) rfl
    (fun f fn hf hfn => by
      obtain rfl : f = 5 := Option.some.inj ((show Tryd.prog.funcNamed "davit/davitlaw32.WordsTexts" = some 5 by kernel_rfl).symm.trans hf) |>.symm
      obtain rfl : fn = Tryd.f5 := (Option.some.inj (Tryd.func5.symm.trans hfn)).symm
      exact ⟨by kernel_rfl, fun j t ht => by
        rw [Tryd.params5] at ht
        have hm : t ∈ [35] := by simpa using Array.mem_of_getElem? ht
        have hall : ([35].all fun u => !Tryd.prog.wantsStandIn u) = true := by kernel_rfl
        exact (show Tryd.prog.wantsStandIn t = false by simpa using List.all_eq_true.1 hall t hm)⟩)
    (by kernel_rfl)
#print axioms wordsTexts_card
end Go.Proofs.YtcifjdnmnmmhoaaDoor
