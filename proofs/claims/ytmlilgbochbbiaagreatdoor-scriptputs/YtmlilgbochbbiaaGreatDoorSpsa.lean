/- Of the law's proof: the walk, and that the call returns so from every start. -/
import Derived.Test.YtmlilgbochbbiaaGreatDoorRows
import Derived.Test.YtmlilgbochbbiaaGreatDoorTie
import Derived.Test.YtmlilgbochbbiaaGreatDoorCards
import Derived.Test.YtmlilgbochbbiaaGreatDoorZke
import Derived.Test.YtmlilgbochbbiaaGreatDoorScp
import Derived.WalkKit
import Derived.ProofKit
import Derived.OpenShut
import Derived.Stop.Joined
import Derived.ShutString
import Derived.ChangeOld
import Derived.Below
import Derived.Carry
import Derived.LaidMore
import Derived.SevenTiedAt
namespace Go.Proofs.YtmlilgbochbbiaaGreatDoor.scriptPuts
open Go.ChangeShapes Go.WideShapes Go.ChangeAt Go.RowKit
open Wir Scr
set_option linter.unusedVariables false
set_option linter.unusedSimpArgs false

set_option maxRecDepth 100000 in
set_option maxHeartbeats 4000000 in
theorem walk (c0 : Int) (a0 : Option Addr) (len0 cap0 : Nat) (X0 : Nat → Nat → Int) (c1 : Int) (a1 : Option Addr) (len1 cap1 : Nat) (X1 : Nat → Nat → Int) (w : World) (v0 : (Lit.int .i64 c0).wf = true) (w0 : TRow w (.slice a0 len0 cap0) len0 [1, 1, 1, 2, 1] X0) (z0 : ∀ i, i < len0 → ∀ j, j < [1, 1, 1, 2, 1].length → kwf ([1, 1, 1, 2, 1].getD j 1) (X0 i j)) (v1 : (Lit.int .i64 c1).wf = true) (w1 : TRow w (.slice a1 len1 cap1) len1 [1, 1, 1, 2, 1] X1) (z1 : ∀ i, i < len1 → ∀ j, j < [1, 1, 1, 2, 1].length → kwf ([1, 1, 1, 2, 1].getD j 1) (X1 i j)) (ht : Tab w) (hs : 0 < w.heap.size) :
    Calls Tryz.prog 3 #[.agg #[.int .i64 c0, .slice a0 len0 cap0], .agg #[.int .i64 c1, .slice a1 len1 cap1]] w fun e w' => e = .returned (.bool true) ∧ Below w.heap.size w w' := by
  exact Scr.puts_walk c0 a0 len0 cap0 X0 c1 a1 len1 cap1 X1 w v0 w0 z0 v1 w1 z1 ht hs

set_option maxRecDepth 100000 in
theorem lifted (os : Os) (started : os.Started) (H : Type) (enc : TypeId × Value → H) :
    ReturnsInHanded {} Tryz.checked os 3 .any (fun w args => (Rows.scriptPutsSpec.pre enc Tryz.prog Tryz.f3 [] false w args ∧ laidMetH Tryz.prog laidTab w) ∧ sizedMet enc Tryz.prog Tryz.f3 (OpenSpec.ofChange Rows.scriptPutsSpec) false w args)
      (Rows.scriptPutsSpec.post enc Tryz.prog Tryz.f3 false true false false) := by
  refine returnsInHanded_of_change_and (C := Tryz.checked) (X := fun w _ => laidMetH Tryz.prog laidTab w) (fun _ _ _ hh h => h.of_heap hh) own started (by kernel_rfl) Tryz.func3
    (ChangeSpec.witness_shaped (enc := enc) (C := Tryz.checked) (os := os) (X := fun w _ => laidMetH Tryz.prog laidTab w) false (World.doorLaid Tryz.prog 400 os) #[.agg #[.int .i64 0, .slice none 0 0], .agg #[.int .i64 0, .slice none 0 0]] 8 rfl (World.shaped_of_RefB (by kernel_rfl) (by kernel_rfl)) (by kernel_rfl) (by kernel_rfl) (by kernel_rfl) (door_met os _)) ?_
  intro W base args ds gs before hval0 hW _ _ hL _
  have hval : ∀ (j : Nat) t v, Tryz.f3.params[j]? = some t → args[j]? = some v → Value.okWide Tryz.prog W .any base t v := hval0
  have hW' := hW
  obtain ⟨p, q, hA0, hV, rfl, hfz, hnd⟩ := hW
  have hA : DataW.TrodAll enc Tryz.prog W 0 (fun _ => true) true Tryz.f3.params.toList args.toList ds p := hA0
  rw [Tryz.params3] at hA hval
  obtain ⟨v0, vs0, d0, ds0, p0, q0, hargs, rfl, rfl, h0, r0⟩ := trodAll_cons hA
  obtain ⟨v1, vs1, d1, ds1, p1, q1, rfl, rfl, rfl, h1, r1⟩ := trodAll_cons r0
  obtain ⟨rfl, rfl, rfl⟩ := trodAll_nil r1
  obtain rfl : args = #[v0, v1] := by cases args; simp_all
  obtain ⟨rfl, rfl⟩ := trodVars_none hV
  have k0 := h0
  have lt0 : ∀ x ∈ p0, x.block < W.heap.size := by obtain ⟨m, hm⟩ := k0; exact DataW.trod_lt m _ _ _ hm
  obtain ⟨c0, a0, len0, cap0, e0, u0, X0, w0, z0⟩ := open_scr [1, 1, 1, 2, 1] Tryz.underlying24 (by kernel_rfl) rfl rfl (by kernel_rfl) (by kernel_rfl) Tryz.underlying3 Tryz.underlying22 Tryz.underlying50 (by kernel_rfl) rfl (by decide) (fun | 0, _ => ⟨_, rfl, rfl, by kernel_rfl, Tryz.underlying3⟩ | 1, _ => ⟨_, rfl, rfl, by kernel_rfl, Tryz.underlying3⟩ | 2, _ => ⟨_, rfl, rfl, by kernel_rfl, Tryz.underlying3⟩ | 3, _ => ⟨_, rfl, rfl, by kernel_rfl, Tryz.underlying48⟩ | 4, _ => ⟨_, rfl, rfl, by kernel_rfl, Tryz.underlying2⟩ | n + 5, h => absurd h (by simp only [List.length]; omega)) (hval 0 24 v0 rfl rfl) h0
  subst e0
  have k1 := h1
  have lt1 : ∀ x ∈ p1, x.block < W.heap.size := by obtain ⟨m, hm⟩ := k1; exact DataW.trod_lt m _ _ _ hm
  obtain ⟨c1, a1, len1, cap1, e1, u1, X1, w1, z1⟩ := open_scr [1, 1, 1, 2, 1] Tryz.underlying24 (by kernel_rfl) rfl rfl (by kernel_rfl) (by kernel_rfl) Tryz.underlying3 Tryz.underlying22 Tryz.underlying50 (by kernel_rfl) rfl (by decide) (fun | 0, _ => ⟨_, rfl, rfl, by kernel_rfl, Tryz.underlying3⟩ | 1, _ => ⟨_, rfl, rfl, by kernel_rfl, Tryz.underlying3⟩ | 2, _ => ⟨_, rfl, rfl, by kernel_rfl, Tryz.underlying3⟩ | 3, _ => ⟨_, rfl, rfl, by kernel_rfl, Tryz.underlying48⟩ | 4, _ => ⟨_, rfl, rfl, by kernel_rfl, Tryz.underlying2⟩ | n + 5, h => absurd h (by simp only [List.length]; omega)) (hval 1 24 v1 rfl rfl) h1
  subst e1
  obtain ⟨hT, hS⟩ := of_laid hL
  clear hA0 hval0
  refine (walk c0 a0 len0 cap0 X0 c1 a1 len1 cap1 X1 W u0 w0 z0 u1 w1 z1 hT hS).mono fun e W' ⟨he, bel⟩ => ?_
  subst he
  exact ⟨_, rfl, _, _, _, [], _, [], hW', trodAll_mk1 (shut_bool Tryz.underlying4 _), (trodAll_cons_mk (Below.trod laidOut (by kernel_rfl) (of_decide_eq_true (by kernel_rfl)) k0 bel lt0) (trodAll_cons_mk (Below.trod laidOut (by kernel_rfl) (of_decide_eq_true (by kernel_rfl)) k1 bel lt1) trodAll_mk0)), rfl, bel.frame _, fun h => by cases h⟩

end Go.Proofs.YtmlilgbochbbiaaGreatDoor.scriptPuts
