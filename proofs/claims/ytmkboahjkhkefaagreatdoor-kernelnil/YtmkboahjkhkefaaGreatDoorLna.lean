/- Of the law's proof: the walk, and that the call returns so from every start. -/
import Derived.Test.YtmkboahjkhkefaaGreatDoorRows
import Derived.Test.YtmkboahjkhkefaaGreatDoorTie
import Derived.Test.YtmkboahjkhkefaaGreatDoorCards
import Derived.Test.YtmkboahjkhkefaaGreatDoorQKmu
import Derived.Test.YtmkboahjkhkefaaGreatDoorQKwm
import Derived.WalkKit
import Derived.ProofKit
import Derived.OpenShut
import Derived.Stop.Joined
import Derived.ShutString
import Derived.ChangeOld
import Derived.Below
import Derived.Carry
import Derived.LaidMore
import Derived.SevenTiedAt
namespace Go.Proofs.YtmkboahjkhkefaaGreatDoor.kernelNil
open Go.ChangeShapes Go.WideShapes Go.ChangeAt Go.RowKit
open Aff
set_option linter.unusedVariables false
set_option linter.unusedSimpArgs false

set_option maxRecDepth 100000 in
set_option maxHeartbeats 4000000 in
theorem walk (X0 : Nat → Int) (w : World) (z0 : ∀ j, j < [1, 1, 1, 2, 1].length → kwf ([1, 1, 1, 2, 1].getD j 1) (X0 j)) (ht : Tab w) (hs : 0 < w.heap.size) :
    Calls Tryz.prog 7 #[.agg #[.int .i64 (X0 0), .int .i64 (X0 1), .int .i64 (X0 2), .int .u64 (X0 3), .int .i64 (X0 4)]] w fun e w' => e = .returned (.bool true) ∧ Below w.heap.size w w' := by
  exact Krn.nil_walk (X0 0) (X0 1) (X0 2) (X0 3) (X0 4) w ht hs

set_option maxRecDepth 100000 in
theorem lifted (os : Os) (started : os.Started) (H : Type) (enc : TypeId × Value → H) :
    ReturnsInHanded {} Tryz.checked os 7 .any (fun w args => (Rows.kernelNilSpec.pre enc Tryz.prog Tryz.f7 [] false w args ∧ laidMetH Tryz.prog laidTab w) ∧ sizedMet enc Tryz.prog Tryz.f7 (OpenSpec.ofChange Rows.kernelNilSpec) false w args)
      (Rows.kernelNilSpec.post enc Tryz.prog Tryz.f7 false true false false) := by
  refine returnsInHanded_of_change_and (C := Tryz.checked) (X := fun w _ => laidMetH Tryz.prog laidTab w) (fun _ _ _ hh h => h.of_heap hh) own started (by kernel_rfl) Tryz.func7
    (ChangeSpec.witness_shaped (enc := enc) (C := Tryz.checked) (os := os) (X := fun w _ => laidMetH Tryz.prog laidTab w) false (World.doorLaid Tryz.prog 400 os) #[.agg #[.int .i64 0, .int .i64 0, .int .i64 0, .int .u64 0, .int .i64 0]] 8 rfl (World.shaped_of_RefB (by kernel_rfl) (by kernel_rfl)) (by kernel_rfl) (by kernel_rfl) (by kernel_rfl) (door_met os _)) ?_
  intro W base args ds gs before hval0 hW _ _ hL _
  have hval : ∀ (j : Nat) t v, Tryz.f7.params[j]? = some t → args[j]? = some v → Value.okWide Tryz.prog W .any base t v := hval0
  have hW' := hW
  obtain ⟨p, q, hA0, hV, rfl, hfz, hnd⟩ := hW
  have hA : DataW.TrodAll enc Tryz.prog W 0 (fun _ => true) true Tryz.f7.params.toList args.toList ds p := hA0
  rw [Tryz.params7] at hA hval
  obtain ⟨v0, vs0, d0, ds0, p0, q0, hargs, rfl, rfl, h0, r0⟩ := trodAll_cons hA
  obtain ⟨rfl, rfl, rfl⟩ := trodAll_nil r0
  obtain rfl : args = #[v0] := by cases args; simp_all
  obtain ⟨rfl, rfl⟩ := trodVars_none hV
  have k0 := h0
  have lt0 : ∀ x ∈ p0, x.block < W.heap.size := by obtain ⟨m, hm⟩ := k0; exact DataW.trod_lt m _ _ _ hm
  obtain ⟨X0, e0, z0⟩ := open_rec [1, 1, 1, 2, 1] Tryz.underlying34 (by kernel_rfl) rfl (fun | 0, _ => ⟨_, rfl, rfl, by kernel_rfl, Tryz.underlying3⟩ | 1, _ => ⟨_, rfl, rfl, by kernel_rfl, Tryz.underlying3⟩ | 2, _ => ⟨_, rfl, rfl, by kernel_rfl, Tryz.underlying3⟩ | 3, _ => ⟨_, rfl, rfl, by kernel_rfl, Tryz.underlying28⟩ | 4, _ => ⟨_, rfl, rfl, by kernel_rfl, Tryz.underlying2⟩ | n + 5, h => absurd h (by simp only [List.length]; omega)) (hval 0 34 v0 rfl rfl) h0
  have e0 : v0 = .agg #[.int .i64 (X0 0), .int .i64 (X0 1), .int .i64 (X0 2), .int .u64 (X0 3), .int .i64 (X0 4)] := e0
  subst e0
  obtain ⟨hT, hS⟩ := of_laid hL
  clear hA0 hval0
  refine (walk X0 W z0 hT hS).mono fun e W' ⟨he, bel⟩ => ?_
  subst he
  exact ⟨_, rfl, _, _, _, [], _, [], hW', trodAll_mk1 (shut_bool Tryz.underlying4 _), (trodAll_cons_mk (Below.trod laidOut (by kernel_rfl) (of_decide_eq_true (by kernel_rfl)) k0 bel lt0) trodAll_mk0), rfl, bel.frame _, fun h => by cases h⟩

end Go.Proofs.YtmkboahjkhkefaaGreatDoor.kernelNil
