/- Proved: for all floats a and b and every list l of floats, davitlaw25.MeterOrders(a, b, l) returns true: which of two floats goes ahead, whether they are alike, and the first and the last one of any (at most 200, as the law itself says) are what the document says, and l is left alone; no condition. -/
import Derived.Test.YtmelbbojanomiaaRows
import Derived.Test.YtmelbbojanomiaaFo
import Derived.Test.YtmelbbojanomiaaMeK
import Derived.Test.YtmelbbojanomiaaMeB
import Derived.Test.YtmelbbojanomiaaMeC
import Derived.WalkKit
import Derived.ProofKit
import Derived.OpenShut
import Derived.Stop.Joined
import Derived.ShutString
import Derived.ChangeOld
import Derived.Below
import Derived.Carry
import Derived.Test.YtmelbbojanomiaaOro
import Derived.WalkLawsBesides
namespace Go.Proofs.Ytmelbbojanomiaa.meterOrders
open Go.ChangeShapes Go.WideShapes Go.ChangeAt Go.RowKit
open Mt Flo
set_option linter.unusedVariables false
set_option linter.unusedSimpArgs false

theorem own : ownKnob Try.prog.godebug = none := by kernel_rfl
theorem laidOut : laidOutB Try.prog = true := by kernel_rfl

set_option maxRecDepth 100000 in
set_option maxHeartbeats 4000000 in
theorem walk (a0 : Nat) (a1 : Nat) (a2 : Option Addr) (len2 cap2 : Nat) (xs2 : List Nat) (w : World) (w0 : a0 < 18446744073709551616) (w1 : a1 < 18446744073709551616) (w2 : ORow fl w (.slice a2 len2 cap2) xs2) (l2 : xs2.length = len2) (z2 : ∀ n ∈ xs2, n < 18446744073709551616) :
    Calls Try.prog 5 #[.float .f64 a0, .float .f64 a1, .slice a2 len2 cap2] w fun e w' => e = .returned (.bool true) ∧ Below w.heap.size w w' := by
  have KN : Hid (∀ w, _) := fun w => mknown_yes w
  have Z : Hid (∀ x ∈ xs2, x < 18446744073709551616) := z2
  have HR : Hid (ORow fl w (.slice a2 len2 cap2) xs2) := w2
  have HL : Hid (xs2.length = len2) := l2
  have C1 : Hid (∀ w, _) := fun w => order_any a0 a1 w w0 w1
  have C2 : Hid (∀ w, _) := fun w => reforder_any a0 a1 w w0 w1
  have C3 : Hid (∀ w, _) := fun w => same_any a0 a1 w w0 w1
  have C4 : Hid (∀ w, _) := fun w => refsame_any a0 a1 w w0 w1
  have C5 : Hid (∀ x y u, x < 18446744073709551616 → y < 18446744073709551616 → _) := fun x y u hx hy => refsame_any x y u hx hy
  generalize od a0 a1 = d at *
  generalize (ky a0 == ky a1) = q at *
  clear w0 w1 w2 z2 l2
  by_cases big : (200 : Int) < len2
  · go_enter Try.func5, Try.ntmps5
    go_wp2_with fail
    refine (KN.out _).mono ?_
    rintro e u ⟨rfl, b⟩
    have B : Hid (Below w.heap.size w u) := b
    clear b
    go_wp2
    go_ret
    exact ⟨rfl, B.out⟩
  have hl : (xs2.length : Int) ≤ 1000 := by have := HL.out; omega
  have M1 : Hid (∀ _ : Unit, _) := fun _ => most_any xs2 _ w HR.out Z.out hl
  have M2 : Hid (∀ _ : Unit, _) := fun _ => refmost_any xs2 _ w HR.out Z.out hl
  have M3 : Hid (∀ u, Sm u w → _) := fun u s => least_any xs2 _ u (HR.out.heap s.1) Z.out hl
  have M4 : Hid (∀ u, Sm u w → _) := fun u s => refleast_any xs2 _ u (HR.out.heap s.1) Z.out hl
  have V1 := bst_lt 1 xs2 Z.out
  have V2 := bst_lt (-1) xs2 Z.out
  have Y1 : Hid (∀ w, _) := fun w => C5.out (bst 1 xs2) (bst 1 xs2) w V1 V1
  have Y2 : Hid (∀ w, _) := fun w => C5.out (bst (-1) xs2) (bst (-1) xs2) w V2 V2
  generalize bst 1 xs2 = t1 at *
  generalize bst (-1) xs2 = t2 at *
  simp only [beq_self_eq_true] at Y1 Y2
  clear C5 V1 V2 hl
  go_enter Try.func5, Try.ntmps5
  go_wp2_with fail
  refine (C1.out _).mono ?_
  rintro e w' ⟨rfl, rfl⟩
  go_wp2_with fail
  refine (C2.out _).mono ?_
  rintro e w' ⟨rfl, rfl⟩
  go_wp2_with fail
  refine (C3.out _).mono ?_
  rintro e w' ⟨rfl, rfl⟩
  go_wp2_with fail
  refine (C4.out _).mono ?_
  rintro e w' ⟨rfl, rfl⟩
  go_wp2_with fail
  refine (M1.out ()).mono ?_
  rintro e w' ⟨rfl, rfl⟩
  go_wp2_with fail
  refine (M2.out ()).mono ?_
  rintro e u1 ⟨rfl, s1⟩
  have S1 : Hid (Sm u1 w') := s1
  clear s1
  go_wp2_with fail
  refine (Y1.out _).mono ?_
  rintro e w'' ⟨rfl, e0⟩
  subst e0
  go_wp2_with fail
  refine (M3.out _ S1.out).mono ?_
  rintro e w'' ⟨rfl, e0⟩
  subst e0
  go_wp2_with fail
  refine (M4.out _ S1.out).mono ?_
  rintro e u2 ⟨rfl, s2⟩
  have S2 : Hid (Below w'.heap.size w' u2) := s2.below (S1.out.below (Below.refl _ _))
  clear s2
  go_wp2_with fail
  refine (Y2.out _).mono ?_
  rintro e w'' ⟨rfl, e0⟩
  subst e0
  go_wp2_with fail
  refine (KN.out _).mono ?_
  rintro e u3 ⟨rfl, b3⟩
  have B3 : Hid (Below w'.heap.size w' u3) := S2.out.trans (b3.mono S2.out.size)
  clear b3
  go_wp2
  go_ret
  exact ⟨rfl, B3.out⟩

set_option maxRecDepth 100000 in
theorem lifted (os : Os) (started : os.Started) (H : Type) (enc : TypeId × Value → H) :
    ReturnsInHanded {} Try.checked os 5 .any (Rows.meterOrdersSpec.pre6 enc Try.prog Try.f5 Rows.meterOrdersRow.domain false) (Rows.meterOrdersSpec.post enc Try.prog Try.f5 false true false false) := by
  refine returnsInHanded_of_change (C := Try.checked) own started (by kernel_rfl) Try.func5
    (ChangeSpec.witness6 (enc := enc) (C := Try.checked) false ⟨#[], #[.float .f64 0, .float .f64 0, .slice none 0 0], []⟩ 8 (by kernel_rfl) (by kernel_rfl) (by kernel_rfl) (by kernel_rfl)) ?_
  intro W base args ds gs before hval0 hW hcnd _
  have hval : ∀ (j : Nat) t v, Try.f5.params[j]? = some t → args[j]? = some v → Value.okWide Try.prog W .any base t v := hval0
  have hW' := hW
  obtain ⟨p, q, hA0, hV, rfl, hfz, hnd⟩ := hW
  have hA : DataW.TrodAll enc Try.prog W 0 (fun _ => true) true Try.f5.params.toList args.toList ds p := hA0
  rw [Try.params5] at hA hval
  obtain ⟨v0, vs0, d0, ds0, p0, q0, hargs, rfl, rfl, h0, r0⟩ := trodAll_cons hA
  obtain ⟨v1, vs1, d1, ds1, p1, q1, rfl, rfl, rfl, h1, r1⟩ := trodAll_cons r0
  obtain ⟨v2, vs2, d2, ds2, p2, q2, rfl, rfl, rfl, h2, r2⟩ := trodAll_cons r1
  obtain ⟨rfl, rfl, rfl⟩ := trodAll_nil r2
  obtain rfl : args = #[v0, v1, v2] := by cases args; simp_all
  obtain ⟨rfl, rfl⟩ := trodVars_none hV
  obtain ⟨a0, rfl, rfl, rfl, wf0⟩ := open_float Try.underlying38 (hval 0 38 v0 rfl rfl) h0
  have w0 : a0 < 18446744073709551616 := by simpa [Lit.wf] using wf0
  obtain ⟨a1, rfl, rfl, rfl, wf1⟩ := open_float Try.underlying38 (hval 1 38 v1 rfl rfl) h1
  have w1 : a1 < 18446744073709551616 := by simpa [Lit.wf] using wf1
  obtain ⟨a2, len2, cap2, rfl⟩ := okWide_slice Try.underlying44 (hval 2 44 v2 rfl rfl)
  have k2 := h2
  have lt2 : ∀ x ∈ p2, x.block < W.heap.size := by obtain ⟨m, hm⟩ := k2; exact DataW.trod_lt m _ _ _ hm
  obtain ⟨xs2, w2, l2, z2⟩ : ∃ xs, ORow fl W (.slice a2 len2 cap2) xs ∧ xs.length = len2 ∧ ∀ n ∈ xs, n < 18446744073709551616 := by
    obtain ⟨fuel, hf⟩ := h2
    exact open_ones (fun n => n < 18446744073709551616) Try.underlying44 (by kernel_rfl) (trod_fl Try.underlying38) hf
  clear hA0 hval0
  refine (walk a0 a1 a2 len2 cap2 xs2 W w0 w1 w2 l2 z2).mono fun e W' ⟨he, bel⟩ => ?_
  subst he
  exact ⟨_, rfl, _, _, _, [], _, [], hW', trodAll_mk1 (shut_bool Try.underlying4 _), (trodAll_cons_mk (shut_float Try.underlying38 wf0) (trodAll_cons_mk (shut_float Try.underlying38 wf1) (trodAll_cons_mk (Below.trod laidOut (by kernel_rfl) (of_decide_eq_true (by kernel_rfl)) k2 bel lt2) trodAll_mk0))), rfl, bel.frame _, fun h => by cases h⟩

theorem over : Rows.MeterOrdersSaid :=
  OpenClaim.holds_of_wide 5 Try.f5 rfl rfl rfl rfl rfl rfl rfl ⟨rfl, rfl, rfl, rfl, rfl⟩ rfl rfl rfl rfl rfl (by kernel_rfl) Try.func5 (by kernel_rfl)
    (of_decide_eq_true (by kernel_rfl)) (by unfold Func.isWrapper; first | (rw [if_pos (by decide +kernel)]; kernel_rfl) | (rw [if_neg (by decide +kernel)]; exact ⟨rfl, rfl⟩))
    (fun os started H enc _ => lifted os started H enc)
end Go.Proofs.Ytmelbbojanomiaa.meterOrders

namespace Go.Proofs.Ytmelbbojanomiaa
open Go
theorem meterOrders_holds : Rows.MeterOrdersSaid := meterOrders.over
#print axioms meterOrders_holds
end Go.Proofs.Ytmelbbojanomiaa
