/- What the calls on floats answer, of the program and of the document: Order, Same, Rate, and Go's own IsNaN, NaN, Inf, Signbit; for all floats. -/
import Derived.Test.YtmelbbojanomiaaRows
import Derived.Test.YtmelbbojanomiaaFlo
import Derived.Test.YtmelbbojanomiaaFg
import Derived.WalkKit
import Derived.ProofKit
import Derived.OpenShut
import Derived.BigQuiet
import Derived.Laws.Externs
import Derived.Laws.Bits64
import Derived.WalkLawsBesides
namespace Go.Proofs.Ytmelbbojanomiaa
open Go.ChangeShapes Go.WideShapes Go.ChangeAt Go.RowKit
open Flo

theorem bits_run (x : Nat) (w : World) : (callFunc 63 #[.float .f64 x]).run Try.prog w = .ok (.value (.int .u64 (x : Int))) w := by
  rw [run_callFunc_extern Try.func63 (by kernel_rfl) (by kernel_rfl) (by kernel_rfl) (e := Extern.MathFloatBits.float64bits) (by kernel_rfl)]
  rfl
theorem from_run (n : Int) (w : World) : (callFunc 64 #[.int .u64 n]).run Try.prog w = .ok (.value (.float .f64 n.toNat)) w := by
  rw [run_callFunc_extern Try.func64 (by kernel_rfl) (by kernel_rfl) (by kernel_rfl) (e := Extern.MathFloatBits.float64frombits) (by kernel_rfl)]
  rfl

theorem all_less (x : Nat) (hx : x < 18446744073709551616) : bits .xor .u64 IntKind.u64.max (x : Int) = ((18446744073709551615 - x : Nat) : Int) := by
  have e : (18446744073709551615 : Nat) ^^^ x = 18446744073709551615 - x := by
    apply Nat.eq_of_testBit_eq
    intro i
    have h := Nat.testBit_two_pow_sub_succ (n := 64) (x := x) hx i
    rw [show 2 ^ 64 - (x + 1) = 18446744073709551615 - x by omega] at h
    rw [Nat.testBit_xor, h, show (18446744073709551615 : Nat) = 2 ^ 64 - 1 from rfl, Nat.testBit_two_pow_sub_one]
    by_cases hi : i < 64
    · simp [hi]
    · simp [hi, Nat.testBit_lt_two_pow (Nat.lt_of_lt_of_le hx (Nat.pow_le_pow_right (by omega : 0 < 2) (by omega : 64 ≤ i)))]
  have h := bits_xor_u64_nat 18446744073709551615 x (by omega) hx
  rw [e] at h
  exact h

theorem isnan_any (x : Nat) (w : World) (hx : x < 18446744073709551616) : Calls Try.prog 50 #[.float .f64 x] w fun e w' => e = .returned (.bool (isN x)) ∧ w' = w := by
  have E : (FloatKind.f64.format.order x x != some .eq) = isN x := self_ne x hx
  clear hx
  go_enter Try.func50, Try.ntmps50
  go_wp2
  go_ret
  exact ⟨rfl, rfl⟩

theorem nan_any (w : World) : Calls Try.prog 49 #[] w fun e w' => e = .returned (.float .f64 9221120237041090561) ∧ w' = w := by
  have R := from_run 9221120237041090561 w
  go_enter Try.func49, Try.ntmps49
  go_wp2
  go_ret
  exact ⟨rfl, rfl⟩
theorem inf_above (w : World) : Calls Try.prog 48 #[.int .i64 1] w fun e w' => e = .returned (.float .f64 9218868437227405312) ∧ w' = w := by
  have R := from_run 9218868437227405312 w
  go_enter Try.func48, Try.ntmps48
  go_wp2
  go_ret
  exact ⟨rfl, rfl⟩
theorem inf_below (w : World) : Calls Try.prog 48 #[.int .i64 (-1)] w fun e w' => e = .returned (.float .f64 18442240474082181120) ∧ w' = w := by
  have R := from_run 18442240474082181120 w
  go_enter Try.func48, Try.ntmps48
  go_wp2
  go_ret
  exact ⟨rfl, rfl⟩
theorem signbit_any (x : Nat) (w : World) (hx : x < 18446744073709551616) : Calls Try.prog 52 #[.float .f64 x] w fun e w' => e = .returned (.bool (ng x)) ∧ w' = w := by
  have R := bits_run x w
  have E := sign_is x hx
  obtain ⟨y, hy⟩ : ∃ y, IntKind.i64.wrap (x : Int) = y := ⟨_, rfl⟩
  rw [hy] at E
  clear hx
  go_enter Try.func52, Try.ntmps52
  go_wp2
  go_ret
  exact ⟨rfl, rfl⟩

theorem ahead_any (a b : Bool) (w : World) : Calls Try.prog 51 #[.bool a, .bool b] w fun e w' => e = .returned (.int .i64 (ah a b)) ∧ w' = w := by
  cases a <;> cases b <;> (go_enter Try.func51, Try.ntmps51; go_wp2; go_ret; exact ⟨rfl, rfl⟩)

theorem key_any (x : Nat) (w : World) (hx : x < 18446744073709551616) : Calls Try.prog 47 #[.float .f64 x] w fun e w' => e = .returned (.int .u64 (ky x : Nat)) ∧ w' = w := by
  have R := bits_run x w
  have E : (FloatKind.f64.format.order x x != some .eq) = isN x := self_ne x hx
  obtain ⟨k, hk⟩ : ∃ k, ky x = k := ⟨_, rfl⟩
  have HK : Hid (ky x = k) := hk
  rw [hk]
  unfold ky at hk
  cases h1 : isN x with
  | true =>
    rw [h1] at hk E
    simp only [if_true] at hk
    subst hk
    clear hx
    go_enter Try.func47, Try.ntmps47
    go_wp2
    go_ret
    exact ⟨rfl, rfl⟩
  | false =>
    rw [h1] at hk E
    cases h2 : ng x with
    | true =>
      rw [h2] at hk
      simp only [if_true, if_false, Bool.false_eq_true] at hk
      have h3 : 9223372036854775808 ≤ x := by simpa [ng] using h2
      have s1 : ((x : Int) / 9223372036854775808 == 1) = true := by rw [beq_iff_eq]; omega
      have s2 : bits .xor .u64 IntKind.u64.max (x : Int) = (k : Int) := by rw [← hk]; exact all_less x hx
      clear hx h3 hk HK h1 h2
      go_enter Try.func47, Try.ntmps47
      go_wp2
      go_ret
      exact ⟨rfl, rfl⟩
    | false =>
      rw [h2] at hk
      simp only [if_false, Bool.false_eq_true] at hk
      have h3 : x < 9223372036854775808 := by simpa [ng] using h2
      have s1 : ((x : Int) / 9223372036854775808 == 1) = false := by rw [beq_eq_false_iff_ne]; omega
      have s2 : IntKind.u64.wrap ((x : Int) + 9223372036854775808) = (k : Int) := by rw [← hk, IntKind.wrap_u64]; omega
      clear hx h3 hk HK h1 h2
      go_enter Try.func47, Try.ntmps47
      go_wp2
      go_ret
      exact ⟨rfl, rfl⟩

theorem refsame_any (x y : Nat) (w : World) (hx : x < 18446744073709551616) (hy : y < 18446744073709551616) : Calls Try.prog 22 #[.float .f64 x, .float .f64 y] w fun e w' => e = .returned (.bool (ky x == ky y)) ∧ w' = w := by
  have C1 : Hid (∀ w, _) := fun w => key_any x w hx
  have C2 : Hid (∀ w, _) := fun w => key_any y w hy
  obtain ⟨b, hb⟩ : ∃ b, (ky x == ky y) = b := ⟨_, rfl⟩
  have hb2 : ((ky x : Int) == (ky y : Int)) = b := by
    rw [← hb]
    by_cases h : ky x = ky y
    · rw [h]; simp
    · rw [beq_eq_false_iff_ne.2 h, beq_eq_false_iff_ne]; omega
  rw [hb]
  clear hx hy hb
  generalize ky x = k at *
  generalize ky y = l at *
  go_enter Try.func22, Try.ntmps22
  go_wp2_with fail
  refine (C1.out _).mono ?_
  rintro e w' ⟨rfl, rfl⟩
  go_wp2_with fail
  refine (C2.out _).mono ?_
  rintro e w' ⟨rfl, rfl⟩
  go_wp2
  go_ret
  exact ⟨rfl, rfl⟩

theorem reforder_any (x y : Nat) (w : World) (hx : x < 18446744073709551616) (hy : y < 18446744073709551616) : Calls Try.prog 30 #[.float .f64 x, .float .f64 y] w fun e w' => e = .returned (.int .i64 (od x y)) ∧ w' = w := by
  have C1 : Hid (∀ w, _) := fun w => key_any x w hx
  have C2 : Hid (∀ w, _) := fun w => key_any y w hy
  obtain ⟨b, hb⟩ : ∃ b, od x y = b := ⟨_, rfl⟩
  rw [hb]
  unfold od at hb
  clear hx hy
  generalize ky x = k at *
  generalize ky y = l at *
  by_cases h1 : k < l
  · rw [if_pos h1] at hb
    subst hb
    have e1 : (k : Int) < l := by omega
    clear h1
    go_enter Try.func30, Try.ntmps30
    go_wp2_with fail
    refine (C1.out _).mono ?_
    rintro e w' ⟨rfl, rfl⟩
    go_wp2_with fail
    refine (C2.out _).mono ?_
    rintro e w' ⟨rfl, rfl⟩
    go_wp2
    go_ret
    exact ⟨rfl, rfl⟩
  · rw [if_neg h1] at hb
    have e1 : ¬ (k : Int) < l := by omega
    by_cases h2 : l < k
    · rw [if_pos h2] at hb
      subst hb
      have e2 : (l : Int) < k := by omega
      clear h1 h2
      go_enter Try.func30, Try.ntmps30
      go_wp2_with fail
      refine (C1.out _).mono ?_
      rintro e w' ⟨rfl, rfl⟩
      go_wp2_with fail
      refine (C2.out _).mono ?_
      rintro e w' ⟨rfl, rfl⟩
      go_wp2_with fail
      refine (C1.out _).mono ?_
      rintro e w' ⟨rfl, rfl⟩
      go_wp2_with fail
      refine (C2.out _).mono ?_
      rintro e w' ⟨rfl, rfl⟩
      go_wp2
      go_ret
      exact ⟨rfl, rfl⟩
    · rw [if_neg h2] at hb
      subst hb
      have e2 : ¬ (l : Int) < k := by omega
      clear h1 h2
      go_enter Try.func30, Try.ntmps30
      go_wp2_with fail
      refine (C1.out _).mono ?_
      rintro e w' ⟨rfl, rfl⟩
      go_wp2_with fail
      refine (C2.out _).mono ?_
      rintro e w' ⟨rfl, rfl⟩
      go_wp2_with fail
      refine (C1.out _).mono ?_
      rintro e w' ⟨rfl, rfl⟩
      go_wp2_with fail
      refine (C2.out _).mono ?_
      rintro e w' ⟨rfl, rfl⟩
      go_wp2
      go_ret
      exact ⟨rfl, rfl⟩

theorem order_any (x y : Nat) (w : World) (hx : x < 18446744073709551616) (hy : y < 18446744073709551616) : Calls Try.prog 29 #[.float .f64 x, .float .f64 y] w fun e w' => e = .returned (.int .i64 (od x y)) ∧ w' = w := by
  have C1 : Hid (∀ w, _) := fun w => isnan_any x w hx
  have C2 : Hid (∀ w, _) := fun w => isnan_any y w hy
  by_cases hn : (isN x || isN y) = true
  · rw [od_nan x y hx hy hn]
    have A : Hid (∀ w, _) := fun w => ahead_any (!isN x) (!isN y) w
    generalize isN x = p at *
    generalize isN y = q at *
    clear hx hy
    cases p with
    | true =>
      clear hn
      go_enter Try.func29, Try.ntmps29
      go_wp2_with fail
      refine (C1.out _).mono ?_
      rintro e w' ⟨rfl, rfl⟩
      go_wp2_with fail
      refine (C1.out _).mono ?_
      rintro e w' ⟨rfl, rfl⟩
      go_wp2_with fail
      refine (C2.out _).mono ?_
      rintro e w' ⟨rfl, rfl⟩
      go_wp2_with fail
      refine (A.out _).mono ?_
      rintro e w' ⟨rfl, rfl⟩
      go_wp2
      go_ret
      exact ⟨rfl, rfl⟩
    | false =>
      simp only [Bool.false_or] at hn
      subst hn
      go_enter Try.func29, Try.ntmps29
      go_wp2_with fail
      refine (C1.out _).mono ?_
      rintro e w' ⟨rfl, rfl⟩
      go_wp2_with fail
      refine (C2.out _).mono ?_
      rintro e w' ⟨rfl, rfl⟩
      go_wp2_with fail
      refine (C1.out _).mono ?_
      rintro e w' ⟨rfl, rfl⟩
      go_wp2_with fail
      refine (C2.out _).mono ?_
      rintro e w' ⟨rfl, rfl⟩
      go_wp2_with fail
      refine (A.out _).mono ?_
      rintro e w' ⟨rfl, rfl⟩
      go_wp2
      go_ret
      exact ⟨rfl, rfl⟩
  · have n1 : isN x = false := by cases h : isN x <;> simp_all
    have n2 : isN y = false := by cases h : isN y <;> simp_all
    have L : (FloatKind.f64.format.order x y == some .lt) = decide (sr x < sr y) := lt_is x y hx hy n1 n2
    have G : (FloatKind.f64.format.order x y == some .gt) = decide (sr y < sr x) := gt_is x y hx hy n1 n2
    have S1 : Hid (∀ w, _) := fun w => signbit_any x w hx
    have S2 : Hid (∀ w, _) := fun w => signbit_any y w hy
    have A : Hid (∀ w, _) := fun w => ahead_any (ng x) (ng y) w
    by_cases h1 : sr x < sr y
    · rw [od_lt x y hx hy n1 n2 h1]
      rw [decide_eq_true h1] at L
      rw [n1] at C1
      rw [n2] at C2
      clear hx hy hn n1 n2 h1 G
      go_enter Try.func29, Try.ntmps29
      go_wp2_with fail
      refine (C1.out _).mono ?_
      rintro e w' ⟨rfl, rfl⟩
      go_wp2_with fail
      refine (C2.out _).mono ?_
      rintro e w' ⟨rfl, rfl⟩
      go_wp2
      go_ret
      exact ⟨rfl, rfl⟩
    · rw [decide_eq_false h1] at L
      by_cases h2 : sr y < sr x
      · rw [od_gt x y hx hy n1 n2 h2]
        rw [decide_eq_true h2] at G
        rw [n1] at C1
        rw [n2] at C2
        clear hx hy hn n1 n2 h1 h2
        go_enter Try.func29, Try.ntmps29
        go_wp2_with fail
        refine (C1.out _).mono ?_
        rintro e w' ⟨rfl, rfl⟩
        go_wp2_with fail
        refine (C2.out _).mono ?_
        rintro e w' ⟨rfl, rfl⟩
        go_wp2
        go_ret
        exact ⟨rfl, rfl⟩
      · rw [od_eq x y hx hy n1 n2 h1 h2]
        rw [decide_eq_false h2] at G
        rw [n1] at C1
        rw [n2] at C2
        clear hx hy hn n1 n2 h1 h2
        go_enter Try.func29, Try.ntmps29
        go_wp2_with fail
        refine (C1.out _).mono ?_
        rintro e w' ⟨rfl, rfl⟩
        go_wp2_with fail
        refine (C2.out _).mono ?_
        rintro e w' ⟨rfl, rfl⟩
        go_wp2_with fail
        refine (S1.out _).mono ?_
        rintro e w' ⟨rfl, rfl⟩
        go_wp2_with fail
        refine (S2.out _).mono ?_
        rintro e w' ⟨rfl, rfl⟩
        go_wp2_with fail
        refine (A.out _).mono ?_
        rintro e w' ⟨rfl, rfl⟩
        go_wp2
        go_ret
        exact ⟨rfl, rfl⟩

theorem rate_any (a b : Int) (w : World) : Calls Try.prog 27 #[.int .i64 a, .int .i64 b] w fun e w' => ∃ r, e = .returned (.float .f64 r) ∧ r < 18446744073709551616 ∧ ky r = rt a b ∧ Sm w' w := by
  cases h : Ieee.double.div (ni a) (ni b) with
  | some r =>
    have Q : ∀ (w : World) t, (binOp .quo t (.float .f64 (floatOfInt .f64 a)) (.float .f64 (floatOfInt .f64 b))).run Try.prog w = .ok (.float .f64 r) w := fun w t => run_float_arith w .quo t .f64 _ _ r h
    have K : Hid (r < 18446744073709551616 ∧ ky r = rt a b) := ⟨quo_lt h, (rt_some h).symm⟩
    clear h
    go_enter Try.func27, Try.ntmps27
    go_wp2
    go_ret
    exact ⟨_, rfl, K.out.1, K.out.2, rfl, rfl, rfl, rfl⟩
  | none =>
    have Q : ∀ (w : World) t, (binOp .quo t (.float .f64 (floatOfInt .f64 a)) (.float .f64 (floatOfInt .f64 b))).run Try.prog w = .ok (.float .f64 (nb w (ni a) (ni b))) w.drew := fun w t => run_quo_none w t _ _ h
    have K : Hid (∀ w : World, nb w (ni a) (ni b) < 18446744073709551616 ∧ ky (nb w (ni a) (ni b)) = rt a b) := fun w => ⟨(nb_is w _ _).1, by rw [rt_none h]; exact (ky_nan _ (nb_is w _ _).1).2 (nb_is w _ _).2⟩
    clear h
    go_enter Try.func27, Try.ntmps27
    go_wp2
    go_ret
    exact ⟨_, rfl, (K.out _).1, (K.out _).2, rfl, rfl, rfl, rfl⟩

theorem refrate_any (a b : Int) (w : World) : Calls Try.prog 28 #[.int .i64 a, .int .i64 b] w fun e w' => ∃ r, e = .returned (.float .f64 r) ∧ r < 18446744073709551616 ∧ ky r = rt a b ∧ Sm w' w := by
  by_cases hb : b = 0
  · subst hb
    rcases Int.lt_trichotomy a 0 with h | rfl | h
    · have K : Hid ((18442240474082181120 : Nat) < 18446744073709551616 ∧ ky 18442240474082181120 = rt a 0) := ⟨by omega, (rt_below a h).symm⟩
      have n1 : ¬ 0 < a := by omega
      have I : Hid (∀ w, _) := fun w => inf_below w
      go_enter Try.func28, Try.ntmps28
      go_wp2_with fail
      refine (I.out _).mono ?_
      rintro e w' ⟨rfl, rfl⟩
      go_wp2
      go_ret
      exact ⟨_, rfl, K.out.1, K.out.2, rfl, rfl, rfl, rfl⟩
    · have K : Hid ((9221120237041090561 : Nat) < 18446744073709551616 ∧ ky 9221120237041090561 = rt 0 0) := ⟨by omega, by rw [rt_none div_none]; decide +kernel⟩
      have I : Hid (∀ w, _) := fun w => nan_any w
      go_enter Try.func28, Try.ntmps28
      go_wp2_with fail
      refine (I.out _).mono ?_
      rintro e w' ⟨rfl, rfl⟩
      go_wp2
      go_ret
      exact ⟨_, rfl, K.out.1, K.out.2, rfl, rfl, rfl, rfl⟩
    · have K : Hid ((9218868437227405312 : Nat) < 18446744073709551616 ∧ ky 9218868437227405312 = rt a 0) := ⟨by omega, (rt_above a h).symm⟩
      have I : Hid (∀ w, _) := fun w => inf_above w
      go_enter Try.func28, Try.ntmps28
      go_wp2_with fail
      refine (I.out _).mono ?_
      rintro e w' ⟨rfl, rfl⟩
      go_wp2
      go_ret
      exact ⟨_, rfl, K.out.1, K.out.2, rfl, rfl, rfl, rfl⟩
  · have b0 : (b == 0) = false := beq_eq_false_iff_ne.2 hb
    cases h : Ieee.double.div (ni a) (ni b) with
    | some r =>
      have Q : ∀ (w : World) t, (binOp .quo t (.float .f64 (floatOfInt .f64 a)) (.float .f64 (floatOfInt .f64 b))).run Try.prog w = .ok (.float .f64 r) w := fun w t => run_float_arith w .quo t .f64 _ _ r h
      have K : Hid (r < 18446744073709551616 ∧ ky r = rt a b) := ⟨quo_lt h, (rt_some h).symm⟩
      clear h hb
      go_enter Try.func28, Try.ntmps28
      go_wp2
      go_ret
      exact ⟨_, rfl, K.out.1, K.out.2, rfl, rfl, rfl, rfl⟩
    | none =>
      have Q : ∀ (w : World) t, (binOp .quo t (.float .f64 (floatOfInt .f64 a)) (.float .f64 (floatOfInt .f64 b))).run Try.prog w = .ok (.float .f64 (nb w (ni a) (ni b))) w.drew := fun w t => run_quo_none w t _ _ h
      have K : Hid (∀ w : World, nb w (ni a) (ni b) < 18446744073709551616 ∧ ky (nb w (ni a) (ni b)) = rt a b) := fun w => ⟨(nb_is w _ _).1, by rw [rt_none h]; exact (ky_nan _ (nb_is w _ _).1).2 (nb_is w _ _).2⟩
      clear h hb
      go_enter Try.func28, Try.ntmps28
      go_wp2
      go_ret
      exact ⟨_, rfl, (K.out _).1, (K.out _).2, rfl, rfl, rfl, rfl⟩
end Go.Proofs.Ytmelbbojanomiaa
