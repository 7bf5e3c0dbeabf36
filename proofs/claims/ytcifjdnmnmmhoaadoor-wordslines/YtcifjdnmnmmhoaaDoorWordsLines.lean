/- Proved: for every event and every whole number, davitlaw32.WordsLines returns true: Line writes what the document's Line writes, Name names what the document names, and Parse reads the line back; no condition but that the listed variables are as the program's text lays them, which the card ties. -/
import Derived.Test.YtcifjdnmnmmhoaaDoorRows
import Derived.Test.YtcifjdnmnmmhoaaDoorTie
import Derived.Test.YtcifjdnmnmmhoaaDoorCards
import Derived.Test.YtcifjdnmnmmhoaaDoorMwu
import Derived.Test.YtcifjdnmnmmhoaaDoorFo
import Derived.Test.YtcifjdnmnmmhoaaDoorWd21
import Derived.WalkKit
import Derived.ProofKit
import Derived.OpenShut
import Derived.Stop.Joined
import Derived.ShutString
import Derived.ChangeOld
import Derived.Below
import Derived.Carry
import Derived.LaidMore
import Derived.SevenTiedAt
import Derived.Test.YtcifjdnmnmmhoaaDoorFt
namespace Go.Proofs.YtcifjdnmnmmhoaaDoor.wordsLines
open Go.ChangeShapes Go.WideShapes Go.ChangeAt Go.RowKit
open Wd
set_option linter.unusedVariables false
set_option linter.unusedSimpArgs false

set_option maxRecDepth 100000 in
set_option maxHeartbeats 4000000 in
theorem walk (X0 : Nat → Int) (a1 : Int) (w : World) (z0 : ∀ j, j < [1, 1, 1, 2, 1].length → kwf ([1, 1, 1, 2, 1].getD j 1) (X0 j)) (w1 : (Lit.int .i64 a1).wf = true) (g : GW w) :
    Calls Tryd.prog 3 #[.agg #[.int .i64 (X0 0), .int .i64 (X0 1), .int .i64 (X0 2), .int .u64 (X0 3), .int .i64 (X0 4)], .int .i64 a1] w fun e w' => e = .returned (.bool true) ∧ Below w.heap.size w w' := by
  obtain ⟨m, hm⟩ := Int.eq_ofNat_of_zero_le (show 0 ≤ X0 3 from by have := z0 3 (by decide); simp only [kwf] at this; exact (bounds_u64 this).1)
  have w0 := z0 0 (by decide)
  have w1 := z0 1 (by decide)
  have w2 := z0 2 (by decide)
  have w3 := z0 3 (by decide)
  have w4 := z0 4 (by decide)
  simp only [kwf, List.getD_cons_zero, List.getD_cons_succ, if_true, if_false, reduceIte, Nat.reduceEqDiff] at w0 w1 w2 w3 w4
  have b3 := (bounds_u64 w3).2
  have := lines_law ⟨X0 0, X0 1, X0 2, m, X0 4⟩ ⟨bounds_i64 w0, bounds_i64 w1, bounds_i64 w2, by show m < 18446744073709551616; omega, bounds_i64 w4⟩ a1 w g
  dsimp only [V.vals] at this
  rw [hm]
  exact this

set_option maxRecDepth 100000 in
theorem lifted (os : Os) (started : os.Started) (H : Type) (enc : TypeId × Value → H) :
    ReturnsInHanded {} Tryd.checked os 3 .any (fun w args => (Rows.wordsLinesSpec.pre enc Tryd.prog Tryd.f3 [] false w args ∧ laidMetH Tryd.prog laidTab w) ∧ sizedMet enc Tryd.prog Tryd.f3 (OpenSpec.ofChange Rows.wordsLinesSpec) false w args)
      (Rows.wordsLinesSpec.post enc Tryd.prog Tryd.f3 false true false false) := by
  refine handed_shaped (C := Tryd.checked) (X := fun w _ => laidMetH Tryd.prog laidTab w) (fun _ _ _ hh h => h.of_heap hh) own started (by kernel_rfl) Tryd.func3
    (ChangeSpec.witness_shaped (enc := enc) (C := Tryd.checked) (os := os) (X := fun w _ => laidMetH Tryd.prog laidTab w) false (World.laidAll Tryd.prog os laidTab) #[.agg #[.int .i64 0, .int .i64 0, .int .i64 0, .int .u64 0, .int .i64 0], .int .i64 0] 8 (World.laidAll_os _ _ _) (World.shaped_of_ZipB (by kernel_rfl) (by kernel_rfl)) (by kernel_rfl) (by kernel_rfl) (by kernel_rfl) (laid_met os _)) ?_
  intro W base args ds gs before hval0 hW hL hSh
  have hval : ∀ (j : Nat) t v, Tryd.f3.params[j]? = some t → args[j]? = some v → Value.okWide Tryd.prog W .any base t v := hval0
  have hW' := hW
  obtain ⟨p, q, hA0, hV, rfl, hfz, hnd⟩ := hW
  have hA : DataW.TrodAll enc Tryd.prog W 0 (fun _ => true) true Tryd.f3.params.toList args.toList ds p := hA0
  rw [Tryd.params3] at hA hval
  obtain ⟨v0, vs0, d0, ds0, p0, q0, hargs, rfl, rfl, h0, r0⟩ := trodAll_cons hA
  obtain ⟨v1, vs1, d1, ds1, p1, q1, rfl, rfl, rfl, h1, r1⟩ := trodAll_cons r0
  obtain ⟨rfl, rfl, rfl⟩ := trodAll_nil r1
  obtain rfl : args = #[v0, v1] := by cases args; simp_all
  obtain ⟨rfl, rfl⟩ := trodVars_none hV
  have k0 := h0
  have lt0 : ∀ x ∈ p0, x.block < W.heap.size := by obtain ⟨m, hm⟩ := k0; exact DataW.trod_lt m _ _ _ hm
  obtain ⟨X0, e0, z0⟩ := open_rec [1, 1, 1, 2, 1] Tryd.underlying24 (by kernel_rfl) rfl (fun | 0, _ => ⟨_, rfl, rfl, by kernel_rfl, Tryd.underlying3⟩ | 1, _ => ⟨_, rfl, rfl, by kernel_rfl, Tryd.underlying3⟩ | 2, _ => ⟨_, rfl, rfl, by kernel_rfl, Tryd.underlying3⟩ | 3, _ => ⟨_, rfl, rfl, by kernel_rfl, Tryd.underlying22⟩ | 4, _ => ⟨_, rfl, rfl, by kernel_rfl, Tryd.underlying2⟩ | n + 5, h => absurd h (by simp only [List.length]; omega)) (hval 0 24 v0 rfl rfl) h0
  have e0 : v0 = .agg #[.int .i64 (X0 0), .int .i64 (X0 1), .int .i64 (X0 2), .int .u64 (X0 3), .int .i64 (X0 4)] := e0
  subst e0
  obtain ⟨a1, rfl, rfl, rfl, w1⟩ := open_int Tryd.underlying3 (hval 1 3 v1 rfl rfl) h1
  have hg := of_laid hL hSh
  clear hA0 hval0
  refine (walk X0 a1 W z0 w1 hg).mono fun e W' ⟨he, bel⟩ => ?_
  subst he
  exact ⟨_, rfl, _, _, _, [], _, [], hW', trodAll_mk1 (shut_bool Tryd.underlying4 _), (trodAll_cons_mk (Below.trod laidOut (by kernel_rfl) (of_decide_eq_true (by kernel_rfl)) k0 bel lt0) (trodAll_cons_mk (shut_int Tryd.underlying3 w1) trodAll_mk0)), rfl, bel.frame _, fun h => by cases h⟩

theorem over : Rows.WordsLinesSaid :=
  OpenClaim.holds_of_wide 3 Tryd.f3 rfl rfl rfl rfl rfl rfl rfl ⟨rfl, rfl, rfl, rfl, rfl⟩ rfl rfl rfl rfl rfl (by kernel_rfl) Tryd.func3 (by kernel_rfl)
    (of_decide_eq_true (by kernel_rfl)) (by unfold Func.isWrapper; first | (rw [if_pos (by decide +kernel)]; kernel_rfl) | (rw [if_neg (by decide +kernel)]; exact ⟨rfl, rfl⟩))
    (fun os started H enc _ => lifted os started H enc)
end Go.Proofs.YtcifjdnmnmmhoaaDoor.wordsLines

namespace Go.Proofs.YtcifjdnmnmmhoaaDoor
open Go
theorem wordsLines_card : Rows.WordsLinesCardSaid :=
  Claim7.holds_tied_plain_at .later [] [.data, .data, .data, .data, .sentinel, .sentinel, .data, .pinned] true (true, "6e693179d95d678ced87532db4f628cc0500c29e7111fd40297451856e3d4aae") true
    wordsLines.over (fun _ h => by cases h) (by kernel_rfl) (fun _ h => by cases h) wordsLines_row_tie rfl ⟨rfl, rfl⟩ (by kernel_rfl) rfl
    (fun f fn hf hfn => by
      obtain rfl : f = 3 := Option.some.inj ((show Tryd.prog.funcNamed "davit/davitlaw32.WordsLines" = some 3 by kernel_rfl).symm.trans hf) |>.symm
      obtain rfl : fn = Tryd.f3 := (Option.some.inj (Tryd.func3.symm.trans hfn)).symm
      exact ⟨by kernel_rfl, fun j t ht => by
        rw [Tryd.params3] at ht
        have hm : t ∈ [24, 3] := by simpa using Array.mem_of_getElem? ht
        have hall : ([24, 3].all fun u => !Tryd.prog.wantsStandIn u) = true := by kernel_rfl
        exact (show Tryd.prog.wantsStandIn t = false by simpa using List.all_eq_true.1 hall t hm)⟩)
    (by kernel_rfl)
#print axioms wordsLines_card
end Go.Proofs.YtcifjdnmnmmhoaaDoor
