/- Of the law's proof: the walk, and that the call returns so from every start. -/
import Derived.Test.YtfdmcbcomknebaaGreatDoorRows
import Derived.Test.YtfdmcbcomknebaaGreatDoorTie
import Derived.Test.YtfdmcbcomknebaaGreatDoorCards
import Derived.Test.YtfdmcbcomknebaaGreatDoorZke
import Derived.Test.YtfdmcbcomknebaaGreatDoorAuD
import Derived.Test.YtfdmcbcomknebaaGreatDoorAuF
import Derived.WalkKit
import Derived.ProofKit
import Derived.OpenShut
import Derived.Stop.Joined
import Derived.ShutString
import Derived.ChangeOld
import Derived.Below
import Derived.Carry
import Derived.LaidMore
import Derived.SevenTiedAt
namespace Go.Proofs.YtfdmcbcomknebaaGreatDoor.auditRules
open Go.ChangeShapes Go.WideShapes Go.ChangeAt Go.RowKit
open Krn
set_option linter.unusedVariables false
set_option linter.unusedSimpArgs false

set_option maxRecDepth 100000 in
set_option maxHeartbeats 4000000 in
theorem walk (p0 : Aud.Pic) (u4 u5 u6 u7 u8 u9 u10 : Value) (a1 : Int) (w : World) (w0 : Aud.PV w p0 u4 u5 u6 u7 u8 u9 u10) (w1 : (Lit.int .i64 a1).wf = true) (ht : Tab w) (hs : 0 < w.heap.size) :
    Calls Tryz.prog 3 #[.agg #[.int .i64 p0.cp, .int .u64 (p0.on : Int), .int .u64 (p0.ac : Int), .int .u64 (p0.pw : Int), u4, u5, u6, u7, u8, u9, u10, .bool p0.bu, .bool p0.up, .int .i64 p0.cc, .int .i64 p0.by'], .int .i64 a1] w fun e w' => e = .returned (.bool true) ∧ Below w.heap.size w w' := by
  exact Aud.rules_walk p0 u4 u5 u6 u7 u8 u9 u10 a1 w w0 (fun u bu => Aud.known_yes u (Krn.tab_keep ht hs (Fr.of_below bu) (by simp)) (Nat.le_trans hs bu.size))

set_option maxRecDepth 100000 in
theorem lifted (os : Os) (started : os.Started) (H : Type) (enc : TypeId × Value → H) :
    ReturnsInHanded {} Tryz.checked os 3 .any (fun w args => (Rows.auditRulesSpec.pre enc Tryz.prog Tryz.f3 [] false w args ∧ laidMetH Tryz.prog laidTab w) ∧ sizedMet enc Tryz.prog Tryz.f3 (OpenSpec.ofChange Rows.auditRulesSpec) false w args)
      (Rows.auditRulesSpec.post enc Tryz.prog Tryz.f3 false true false false) := by
  refine returnsInHanded_of_change_and (C := Tryz.checked) (X := fun w _ => laidMetH Tryz.prog laidTab w) (fun _ _ _ hh h => h.of_heap hh) own started (by kernel_rfl) Tryz.func3
    (ChangeSpec.witness_shaped (enc := enc) (C := Tryz.checked) (os := os) (X := fun w _ => laidMetH Tryz.prog laidTab w) false (World.doorLaid Tryz.prog 400 os) #[.agg #[.int .i64 0, .int .u64 0, .int .u64 0, .int .u64 0, .slice none 0 0, .slice none 0 0, .slice none 0 0, .slice none 0 0, .slice none 0 0, .slice none 0 0, .slice none 0 0, .bool false, .bool false, .int .i64 0, .int .i64 0], .int .i64 0] 8 rfl (World.shaped_of_RefB (by kernel_rfl) (by kernel_rfl)) (by kernel_rfl) (by kernel_rfl) (by kernel_rfl) (door_met os _)) ?_
  intro W base args ds gs before hval0 hW _ _ hL _
  have hval : ∀ (j : Nat) t v, Tryz.f3.params[j]? = some t → args[j]? = some v → Value.okWide Tryz.prog W .any base t v := hval0
  have hW' := hW
  obtain ⟨p, q, hA0, hV, rfl, hfz, hnd⟩ := hW
  have hA : DataW.TrodAll enc Tryz.prog W 0 (fun _ => true) true Tryz.f3.params.toList args.toList ds p := hA0
  rw [Tryz.params3] at hA hval
  obtain ⟨v0, vs0, d0, ds0, p0, q0, hargs, rfl, rfl, h0, r0⟩ := trodAll_cons hA
  obtain ⟨v1, vs1, d1, ds1, p1, q1, rfl, rfl, rfl, h1, r1⟩ := trodAll_cons r0
  obtain ⟨rfl, rfl, rfl⟩ := trodAll_nil r1
  obtain rfl : args = #[v0, v1] := by cases args; simp_all
  obtain ⟨rfl, rfl⟩ := trodVars_none hV
  have k0 := h0
  have lt0 : ∀ x ∈ p0, x.block < W.heap.size := by obtain ⟨m, hm⟩ := k0; exact DataW.trod_lt m _ _ _ hm
  obtain ⟨g0, e0, z0⟩ := Aud.open_mix Aud.kinds Tryz.underlying26 (by kernel_rfl) rfl (fun | 0, _ => ⟨_, rfl, rfl, by kernel_rfl, Or.inl ⟨by decide, Tryz.underlying3⟩⟩ | 1, _ => ⟨_, rfl, rfl, by kernel_rfl, Or.inl ⟨by decide, Tryz.underlying22⟩⟩ | 2, _ => ⟨_, rfl, rfl, by kernel_rfl, Or.inl ⟨by decide, Tryz.underlying22⟩⟩ | 3, _ => ⟨_, rfl, rfl, by kernel_rfl, Or.inl ⟨by decide, Tryz.underlying22⟩⟩ | 4, _ => ⟨_, rfl, rfl, by kernel_rfl, Or.inr ⟨by decide, _, _, Tryz.underlying23, Tryz.underlying48, by kernel_rfl, rfl, fun | 0, _ => ⟨_, rfl, rfl, by kernel_rfl, Tryz.underlying3⟩ | 1, _ => ⟨_, rfl, rfl, by kernel_rfl, Tryz.underlying3⟩ | 2, _ => ⟨_, rfl, rfl, by kernel_rfl, Tryz.underlying3⟩ | n + 3, h => absurd h (by omega)⟩⟩ | 5, _ => ⟨_, rfl, rfl, by kernel_rfl, Or.inr ⟨by decide, _, _, Tryz.underlying24, Tryz.underlying121, by kernel_rfl, rfl, fun | 0, _ => ⟨_, rfl, rfl, by kernel_rfl, Tryz.underlying3⟩ | 1, _ => ⟨_, rfl, rfl, by kernel_rfl, Tryz.underlying3⟩ | 2, _ => ⟨_, rfl, rfl, by kernel_rfl, Tryz.underlying3⟩ | n + 3, h => absurd h (by omega)⟩⟩ | 6, _ => ⟨_, rfl, rfl, by kernel_rfl, Or.inr ⟨by decide, _, _, Tryz.underlying24, Tryz.underlying121, by kernel_rfl, rfl, fun | 0, _ => ⟨_, rfl, rfl, by kernel_rfl, Tryz.underlying3⟩ | 1, _ => ⟨_, rfl, rfl, by kernel_rfl, Tryz.underlying3⟩ | 2, _ => ⟨_, rfl, rfl, by kernel_rfl, Tryz.underlying3⟩ | n + 3, h => absurd h (by omega)⟩⟩ | 7, _ => ⟨_, rfl, rfl, by kernel_rfl, Or.inr ⟨by decide, _, _, Tryz.underlying24, Tryz.underlying121, by kernel_rfl, rfl, fun | 0, _ => ⟨_, rfl, rfl, by kernel_rfl, Tryz.underlying3⟩ | 1, _ => ⟨_, rfl, rfl, by kernel_rfl, Tryz.underlying3⟩ | 2, _ => ⟨_, rfl, rfl, by kernel_rfl, Tryz.underlying3⟩ | n + 3, h => absurd h (by omega)⟩⟩ | 8, _ => ⟨_, rfl, rfl, by kernel_rfl, Or.inr ⟨by decide, _, _, Tryz.underlying24, Tryz.underlying121, by kernel_rfl, rfl, fun | 0, _ => ⟨_, rfl, rfl, by kernel_rfl, Tryz.underlying3⟩ | 1, _ => ⟨_, rfl, rfl, by kernel_rfl, Tryz.underlying3⟩ | 2, _ => ⟨_, rfl, rfl, by kernel_rfl, Tryz.underlying3⟩ | n + 3, h => absurd h (by omega)⟩⟩ | 9, _ => ⟨_, rfl, rfl, by kernel_rfl, Or.inr ⟨by decide, _, _, Tryz.underlying24, Tryz.underlying121, by kernel_rfl, rfl, fun | 0, _ => ⟨_, rfl, rfl, by kernel_rfl, Tryz.underlying3⟩ | 1, _ => ⟨_, rfl, rfl, by kernel_rfl, Tryz.underlying3⟩ | 2, _ => ⟨_, rfl, rfl, by kernel_rfl, Tryz.underlying3⟩ | n + 3, h => absurd h (by omega)⟩⟩ | 10, _ => ⟨_, rfl, rfl, by kernel_rfl, Or.inr ⟨by decide, _, _, Tryz.underlying24, Tryz.underlying121, by kernel_rfl, rfl, fun | 0, _ => ⟨_, rfl, rfl, by kernel_rfl, Tryz.underlying3⟩ | 1, _ => ⟨_, rfl, rfl, by kernel_rfl, Tryz.underlying3⟩ | 2, _ => ⟨_, rfl, rfl, by kernel_rfl, Tryz.underlying3⟩ | n + 3, h => absurd h (by omega)⟩⟩ | 11, _ => ⟨_, rfl, rfl, by kernel_rfl, Or.inl ⟨by decide, Tryz.underlying4⟩⟩ | 12, _ => ⟨_, rfl, rfl, by kernel_rfl, Or.inl ⟨by decide, Tryz.underlying4⟩⟩ | 13, _ => ⟨_, rfl, rfl, by kernel_rfl, Or.inl ⟨by decide, Tryz.underlying3⟩⟩ | 14, _ => ⟨_, rfl, rfl, by kernel_rfl, Or.inl ⟨by decide, Tryz.underlying3⟩⟩ | n + 15, h => absurd h (by simp only [Aud.kinds, List.length]; omega)) (hval 0 26 v0 rfl rfl) h0
  obtain ⟨pic0, u4, u5, u6, u7, u8, u9, u10, y0, w0⟩ := Aud.pic_of z0
  have e0 : v0 = _ := e0.trans y0
  unfold Aud.pv at e0
  subst e0
  obtain ⟨a1, rfl, rfl, rfl, w1⟩ := open_int Tryz.underlying3 (hval 1 3 v1 rfl rfl) h1
  obtain ⟨hT, hS⟩ := of_laid hL
  clear hA0 hval0
  refine (walk pic0 u4 u5 u6 u7 u8 u9 u10 a1 W w0 w1 hT hS).mono fun e W' ⟨he, bel⟩ => ?_
  subst he
  exact ⟨_, rfl, _, _, _, [], _, [], hW', trodAll_mk1 (shut_bool Tryz.underlying4 _), (trodAll_cons_mk (Below.trod laidOut (by kernel_rfl) (of_decide_eq_true (by kernel_rfl)) k0 bel lt0) (trodAll_cons_mk (shut_int Tryz.underlying3 w1) trodAll_mk0)), rfl, bel.frame _, fun h => by cases h⟩

end Go.Proofs.YtfdmcbcomknebaaGreatDoor.auditRules
