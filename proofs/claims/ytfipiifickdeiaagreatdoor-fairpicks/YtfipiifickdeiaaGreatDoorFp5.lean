/- What fair's Still tells of a kernel. -/
import Derived.Test.YtfipiifickdeiaaGreatDoorRows
import Derived.Test.YtfipiifickdeiaaGreatDoorKfp
import Derived.WalkKit
import Derived.ProofKit
import Derived.OpenShut
import Derived.BigQuiet
import Derived.BigGuard
import Derived.Carry
namespace Go.Proofs.YtfipiifickdeiaaGreatDoor.Krn
open Go.ChangeShapes Go.WideShapes Go.ChangeAt Go.RowKit
open Mm
set_option linter.unusedVariables false

section
variable {B : Nat} {w0 : World} {A : List (Nat × List Value × TypeId)} {a : KA} {m : Nat} {S : KS} {w : World}
set_option maxRecDepth 100000 in
theorem k_Irqs (h : KX B w0 A a m S w) :
    Calls Tryz.prog 56 #[.pointer (some ⟨a.k, 0, none⟩)] w fun e w' => e = .returned (.pointer (some ⟨a.iq, 0, none⟩)) ∧ w' = w := by
  have c6 := h.c6
  have C : Hid (∀ _ : Unit, _) := fun _ => k_all a w
  clear h
  go_enter Tryz.func56, Tryz.ntmps56
  go_wp2_with fail
  refine (C.out ()).mono ?_
  rintro e w1 ⟨rfl, rfl⟩
  go_wp2
  go_ret
  exact ⟨rfl, rfl⟩
/-- No interrupt is ready. -/
def quietI (S : KS) : Prop := ∀ k : Nat, k < 16 → Bm.rdB S.i (k : Int) = false
set_option maxRecDepth 100000 in
set_option maxHeartbeats 4000000 in
theorem irqs_quiet (h : KX B w0 A a m S w) (q : quietI S) : Calls Tryz.prog 34 #[.pointer (some ⟨a.k, 0, none⟩)] w fun e w' => e = .returned (.bool false) ∧ KX B w0 A a m S w' := by
  have H0 : Hid (KX B w0 A a m S w) := h
  have Q : Hid (quietI S) := q
  clear h q
  go_enter Tryz.func34, Tryz.ntmps34
  go_wp2
  go_loopw [4] (fun i wr => ∃ k : Nat, (k : Int) ≤ 16 ∧ Hid (KX B w0 A a m S wr) ∧ i = .int .i64 (k : Int)) (fun i _ => 17 - (intOf i).toNat)
  case atStart => exact ⟨0, by omega, H0.out, rfl⟩
  case round =>
    obtain ⟨k, hk, hm, rfl⟩ := hrel
    by_cases e : (k : Int) < 16
    · have C1 : Hid (∀ _ : Unit, _) := fun _ => k_Irqs hm.out
      have C2 : Hid (∀ _ : Unit, _) := fun _ => iq_ready hm.out (k : Int)
      rw [Q.out k (by omega)] at C2
      clear hm
      go_wp2_with fail
      refine (C1.out ()).mono ?_
      rintro e w1 ⟨rfl, rfl⟩
      go_wp2_with fail
      refine (C2.out ()).mono ?_
      rintro e w2 ⟨rfl, k2⟩
      have K2 : Hid (KX B w0 A a m S w2) := k2
      clear k2 C1 C2
      go_wp2
      go_roundw
      case rel => exact ⟨k + 1, by omega, K2.out, by go_num⟩
      case measure => simp [intOf]; omega
    · have e2 : k = 16 := by omega
      subst e2
      go_wp2
      go_ret
      exact ⟨rfl, hm.out⟩
/-- Whether a core has something that waits; whether any of two has. -/
def cwB (S : KS) (c : Int) : Bool := decide ((0 : Int) < ((Cm.clL S.cl c).length : Int)) || (decide ((0 : Int) < ((Cm.wlL 2 S.wk c).length : Int)) || Tim.txR 2 S.now S.t c)
def cwA (S : KS) : Bool := (List.range 2).any (fun c => cwB S (c : Int)) || decide ((0 : Int) < ((Cm.wlL 2 S.wk (-1)).length : Int))
set_option maxRecDepth 100000 in
set_option maxHeartbeats 4000000 in
theorem cores_wait (h : KX B w0 A a m S w) (n2 : a.n = 2) : Calls Tryz.prog 35 #[.pointer (some ⟨a.k, 0, none⟩)] w fun e w' => e = .returned (.bool (cwA S)) ∧ KX B w0 A a m S w' := by
  have H0 : Hid (KX B w0 A a m S w) := h
  have C0 : Hid (∀ _ : Unit, _) := fun _ => k_Cpus h
  rw [n2] at C0
  obtain ⟨R, hR⟩ : ∃ R, cwA S = R := ⟨_, rfl⟩
  have HR : Hid (cwA S = R) := hR
  rw [hR]
  clear h hR
  go_enter Tryz.func35, Tryz.ntmps35
  go_wp2_with fail
  refine (C0.out ()).mono ?_
  rintro e w' ⟨rfl, rfl⟩
  go_wp2
  go_loopw [6] (fun i wr => ∃ k : Nat, (k : Int) ≤ 2 ∧ Hid (KX B w0 A a m S wr ∧ ∀ j, j < k → cwB S (j : Int) = false) ∧ i = .int .i64 (k : Int)) (fun i _ => 3 - (intOf i).toNat)
  case atStart => exact ⟨0, by omega, ⟨H0.out, fun j hj => by omega⟩, rfl⟩
  case round =>
    obtain ⟨k, hk, hm, rfl⟩ := hrel
    by_cases e : (k : Int) < 2
    · have C1 : Hid (∀ v, KX B w0 A a m S v → _) := fun v q => k_Calls q
      have C2 : Hid (∀ v, KX B w0 A a m S v → _) := fun v q => cl_load q (k : Int)
      have C3 : Hid (∀ v, KX B w0 A a m S v → _) := fun v q => k_Works q
      have C4 : Hid (∀ v, KX B w0 A a m S v → _) := fun v q => wk_load q (k : Int)
      have C5 : Hid (∀ v, KX B w0 A a m S v → _) := fun v q => k_Timers q
      have C6 : Hid (∀ v, KX B w0 A a m S v → _) := fun v q => tm_ready q (k : Int)
      rw [n2] at C4 C6
      have K0 : Hid (KX B w0 A a m S wr) := hm.out.1
      have YES : Hid (cwB S (k : Int) = true → R = true) := fun q => by
        rw [← HR.out]
        unfold cwA
        rw [List.any_eq_true.2 ⟨k, List.mem_range.2 (by omega), q⟩]
        rfl
      have NO : Hid (cwB S (k : Int) = false → ∀ j, j < k + 1 → cwB S (j : Int) = false) := fun q j hj => by
        by_cases q2 : j = k
        · rw [q2]; exact q
        · exact hm.out.2 j (by omega)
      have DF : Hid (cwB S (k : Int) = (decide ((0 : Int) < ((Cm.clL S.cl (k : Int)).length : Int)) || (decide ((0 : Int) < ((Cm.wlL 2 S.wk (k : Int)).length : Int)) || Tim.txR 2 S.now S.t (k : Int)))) := rfl
      clear hm
      generalize ((Cm.clL S.cl (k : Int)).length : Int) = n1 at *
      generalize ((Cm.wlL 2 S.wk (k : Int)).length : Int) = n3 at *
      generalize Tim.txR 2 S.now S.t (k : Int) = t at *
      by_cases p1 : (0 : Int) < n1
      · have e1 : decide ((0 : Int) < n1) = true := decide_eq_true p1
        have r0 := YES.out (by rw [DF.out, e1]; rfl)
        subst r0
        clear YES NO DF
        go_wp2_with fail
        refine (C1.out _ K0.out).mono ?_
        rintro e w1 ⟨rfl, rfl⟩
        go_wp2_with fail
        refine (C2.out _ K0.out).mono ?_
        rintro e w2 ⟨rfl, k2⟩
        have K2 : Hid (KX B w0 A a m S w2) := k2
        clear k2
        go_wp2
        go_ret
        exact ⟨rfl, K2.out⟩
      · have e1 : decide ((0 : Int) < n1) = false := decide_eq_false p1
        rw [e1, Bool.false_or] at DF
        by_cases p2 : (0 : Int) < n3
        · have e2 : decide ((0 : Int) < n3) = true := decide_eq_true p2
          have r0 := YES.out (by rw [DF.out, e2]; rfl)
          subst r0
          clear YES NO DF
          go_wp2_with fail
          refine (C1.out _ K0.out).mono ?_
          rintro e w1 ⟨rfl, rfl⟩
          go_wp2_with fail
          refine (C2.out _ K0.out).mono ?_
          rintro e w2 ⟨rfl, k2⟩
          have K2 : Hid (KX B w0 A a m S w2) := k2
          clear k2
          go_wp2_with fail
          refine (C3.out _ K2.out).mono ?_
          rintro e w3 ⟨rfl, rfl⟩
          go_wp2_with fail
          refine (C4.out _ K2.out).mono ?_
          rintro e w4 ⟨rfl, k4⟩
          have K4 : Hid (KX B w0 A a m S w4) := k4
          clear k4
          go_wp2
          go_ret
          exact ⟨rfl, K4.out⟩
        · have e2 : decide ((0 : Int) < n3) = false := decide_eq_false p2
          rw [e2, Bool.false_or] at DF
          go_wp2_with fail
          refine (C1.out _ K0.out).mono ?_
          rintro e w1 ⟨rfl, rfl⟩
          go_wp2_with fail
          refine (C2.out _ K0.out).mono ?_
          rintro e w2 ⟨rfl, k2⟩
          have K2 : Hid (KX B w0 A a m S w2) := k2
          clear k2
          go_wp2_with fail
          refine (C3.out _ K2.out).mono ?_
          rintro e w3 ⟨rfl, rfl⟩
          go_wp2_with fail
          refine (C4.out _ K2.out).mono ?_
          rintro e w4 ⟨rfl, k4⟩
          have K4 : Hid (KX B w0 A a m S w4) := k4
          clear k4
          go_wp2_with fail
          refine (C5.out _ K4.out).mono ?_
          rintro e w5 ⟨rfl, rfl⟩
          go_wp2_with fail
          refine (C6.out _ K4.out).mono ?_
          rintro e w6 ⟨rfl, k6⟩
          have K6 : Hid (KX B w0 A a m S w6) := k6
          clear k6
          cases t
          · have NN : Hid (∀ j, j < k + 1 → cwB S (j : Int) = false) := NO.out DF.out
            clear YES NO DF
            go_wp2
            go_roundw
            case rel => exact ⟨k + 1, by omega, ⟨K6.out, NN.out⟩, by go_num⟩
            case measure => simp [intOf]; omega
          · have r0 := YES.out DF.out
            subst r0
            clear YES NO DF
            go_wp2
            go_ret
            exact ⟨rfl, K6.out⟩
    · have e2 : k = 2 := by omega
      subst e2
      have K0 : Hid (KX B w0 A a m S wr) := hm.out.1
      have C1 : Hid (∀ _ : Unit, _) := fun _ => k_Works hm.out.1
      have C2 : Hid (∀ _ : Unit, _) := fun _ => wk_load hm.out.1 (-1)
      rw [n2] at C2
      have r0 : R = decide ((0 : Int) < ((Cm.wlL 2 S.wk (-1)).length : Int)) := by
        rw [← HR.out]
        unfold cwA
        rw [show (List.range 2).any (fun c => cwB S (c : Int)) = false from List.any_eq_false.2 fun j hj => by rw [hm.out.2 j (List.mem_range.1 hj)]; simp]
        exact Bool.false_or _
      clear hm HR
      generalize ((Cm.wlL 2 S.wk (-1)).length : Int) = n9 at *
      have R0 : Hid (R = _) := r0
      clear r0
      go_wp2_with fail
      refine (C1.out ()).mono ?_
      rintro e w1 ⟨rfl, rfl⟩
      go_wp2_with fail
      refine (C2.out ()).mono ?_
      rintro e w2 ⟨rfl, k2⟩
      have K2 : Hid (KX B w0 A a m S w2) := k2
      clear k2
      go_wp2
      go_ret
      exact ⟨by rw [R0.out]; rfl, K2.out⟩
set_option maxRecDepth 100000 in
set_option maxHeartbeats 4000000 in
theorem still_any (h : KX B w0 A a m S w) (n2 : a.n = 2) (q : quietI S) (hr : S.R.isSome = false) : Calls Tryz.prog 10 #[.pointer (some ⟨a.k, 0, none⟩)] w fun e w' => e = .returned (.bool (!cwA S)) ∧ KX B w0 A a m S w' := by
  have K0 : Hid (KX B w0 A a m S w) := h
  have C1 : Hid (∀ _ : Unit, _) := fun _ => k_Desk h
  have C2 : Hid (∀ _ : Unit, _) := fun _ => dk_busy h
  rw [hr] at C2
  have C3 : Hid (∀ v, KX B w0 A a m S v → _) := fun v k => irqs_quiet k q
  have C4 : Hid (∀ v, KX B w0 A a m S v → _) := fun v k => cores_wait k n2
  clear h q hr
  generalize cwA S = R at *
  go_enter Tryz.func10, Tryz.ntmps10
  go_wp2_with fail
  refine (C1.out ()).mono ?_
  rintro e w1 ⟨rfl, rfl⟩
  go_wp2_with fail
  refine (C2.out ()).mono ?_
  rintro e w2 ⟨rfl, k2⟩
  have K2 : Hid (KX B w0 A a m S w2) := k2
  clear k2
  go_wp2_with fail
  refine (C3.out _ K2.out).mono ?_
  rintro e w3 ⟨rfl, k3⟩
  have K3 : Hid (KX B w0 A a m S w3) := k3
  clear k3
  go_wp2_with fail
  refine (C4.out _ K3.out).mono ?_
  rintro e w4 ⟨rfl, k4⟩
  have K4 : Hid (KX B w0 A a m S w4) := k4
  clear k4
  go_wp2
  go_ret
  exact ⟨rfl, K4.out⟩
end
end Go.Proofs.YtfipiifickdeiaaGreatDoor.Krn
