/- What mask's bit, Has, Less, And, Or, Not, Within, Many, Upto, above, First, Last and Next, and the document's Has, With, Less and Upto answer, for every mask and every number. -/
import Derived.Test.YtojpeanakjefoaaDoorRows
import Derived.Test.YtojpeanakjefoaaDoorMb
import Derived.WalkKit
import Derived.ProofKit
import Derived.OpenShut
import Derived.Laws.Bits64b
import Derived.Laws.BitsAllLaws
namespace Go.Proofs.YtojpeanakjefoaaDoor
open Go.ChangeShapes Go.WideShapes Go.ChangeAt Go.RowKit
open Mm

set_option maxHeartbeats 400000 in
theorem bit_any (c : Int) (w : World) :
    Calls Tryd.prog 37 #[.int .i64 c] w fun e w' => e = .returned (.int .u64 (bv c : Nat)) ∧ w' = w := by
  by_cases h : 0 ≤ c ∧ c < 64
  · obtain ⟨k, rfl⟩ := Int.eq_ofNat_of_zero_le h.1
    have hw : IntKind.u64.wrap ((2 : Int) ^ k) = ((2 ^ k : Nat) : Int) := by
      have := wrapN (2 ^ k) (by have := bv_lt (k : Int); rw [bv_some _ h] at this; simpa using this)
      simpa using this
    have hk : (k : Int) < 64 := h.2
    rw [bv_some _ h, Int.toNat_natCast]
    generalize 2 ^ k = P at *
    clear h
    go_enter Tryd.func37, Tryd.ntmps37
    go_wp2
    go_ret
    exact ⟨rfl, rfl⟩
  · rw [bv_none c h]
    by_cases h1 : c < 0
    · go_enter Tryd.func37, Tryd.ntmps37
      go_wp2
      go_ret
      exact ⟨rfl, rfl⟩
    · have h2 : (64 : Int) ≤ c := by omega
      clear h
      go_enter Tryd.func37, Tryd.ntmps37
      go_wp2
      go_ret
      exact ⟨rfl, rfl⟩

set_option maxHeartbeats 400000 in
theorem has_any (m : Nat) (c : Int) (w : World) (hm : m < 18446744073709551616) :
    Calls Tryd.prog 17 #[.int .u64 m, .int .i64 c] w fun e w' => e = .returned (.bool (tb m c)) ∧ w' = w := by
  have B : Hid (∀ w, _) := fun w => bit_any c w
  have hb := bits_and_u64_nat m (bv c) hm (bv_lt c)
  have hz := and_bv m c
  generalize m &&& bv c = P at *
  generalize bv c = b at *
  cases ht : tb m c with
  | false =>
    rw [ht] at hz
    have : P = 0 := by rw [hz]
    subst this
    clear hz ht hm
    go_enter Tryd.func17, Tryd.ntmps17
    go_wp2_with (go_at_call 37; refine (B.out _).mono ?_; rintro e w' ⟨rfl, rfl⟩)
    go_ret
    exact ⟨rfl, rfl⟩
  | true =>
    rw [ht] at hz
    have hP : ((P : Int) != 0) = true := by
      rw [bne_iff_ne]
      intro e
      have : P = 0 := by omega
      rw [hz] at this
      cases this
    clear hz ht hm
    go_enter Tryd.func17, Tryd.ntmps17
    go_wp2_with (go_at_call 37; refine (B.out _).mono ?_; rintro e w' ⟨rfl, rfl⟩)
    go_ret
    exact ⟨rfl, rfl⟩

set_option maxHeartbeats 400000 in
theorem refhas_any (m : Nat) (c : Int) (w : World) (hm : m < 18446744073709551616) :
    Calls Tryd.prog 18 #[.int .u64 m, .int .i64 c] w fun e w' => e = .returned (.bool (tb m c)) ∧ w' = w := by
  by_cases h : 0 ≤ c ∧ c < 64
  · obtain ⟨k, rfl⟩ := Int.eq_ofNat_of_zero_le h.1
    have e := tb_some m k h
    rw [Int.toNat_natCast, Nat.testBit_eq_decide_div_mod_eq] at e
    obtain ⟨d, hd⟩ : ∃ d, m / 2 ^ k = d := ⟨_, rfl⟩
    have hd' : (m : Int) / 2 ^ k = (d : Int) := by rw [← hd]; simp
    rw [hd] at e
    have hk : (k : Int) < 64 := h.2
    have hdl : (d : Int) ≤ 18446744073709551615 := by
      have : d ≤ m := by rw [← hd]; exact Nat.div_le_self _ _
      omega
    rw [e]
    clear e h hm hd
    by_cases h1 : d % 2 = 1
    · have h2 : ((d : Int) % 2 == 1) = true := by rw [beq_iff_eq]; omega
      simp only [h1, decide_true]
      clear h1
      go_enter Tryd.func18, Tryd.ntmps18
      go_wp2
      go_ret
      exact ⟨rfl, rfl⟩
    · have h2 : ((d : Int) % 2 == 1) = false := by rw [beq_eq_false_iff_ne]; omega
      simp only [h1, decide_false]
      clear h1
      go_enter Tryd.func18, Tryd.ntmps18
      go_wp2
      go_ret
      exact ⟨rfl, rfl⟩
  · rw [tb_none m c h]
    by_cases h1 : c < 0
    · go_enter Tryd.func18, Tryd.ntmps18
      go_wp2
      go_ret
      exact ⟨rfl, rfl⟩
    · have h2 : (64 : Int) ≤ c := by omega
      clear h
      go_enter Tryd.func18, Tryd.ntmps18
      go_wp2
      go_ret
      exact ⟨rfl, rfl⟩

set_option maxHeartbeats 400000 in
theorem refwith_any (m : Nat) (c : Int) (w : World) (hm : m < 18446744073709551616) :
    Calls Tryd.prog 9 #[.int .u64 m, .int .i64 c] w fun e w' => e = .returned (.int .u64 (m ||| bv c : Nat)) ∧ w' = w := by
  by_cases h : 0 ≤ c ∧ c < 64
  · obtain ⟨k, rfl⟩ := Int.eq_ofNat_of_zero_le h.1
    have R : Hid (∀ w, _) := fun w => refhas_any m k w hm
    have hk : (k : Int) < 64 := h.2
    cases ht : tb m k with
    | true =>
      rw [or_bv_same m k ht]
      rw [ht] at R
      clear ht h hm
      go_enter Tryd.func9, Tryd.ntmps9
      go_wp2_with (go_at_call 18; refine (R.out _).mono ?_; rintro e w' ⟨rfl, rfl⟩)
      go_ret
      exact ⟨rfl, rfl⟩
    | false =>
      have s := or_bv_sum m k hm ht
      have l := or_lt hm (bv_lt (k : Int))
      rw [s] at l
      have hw : IntKind.u64.wrap ((m : Int) + IntKind.u64.wrap ((2 : Int) ^ k)) = ((m + bv k : Nat) : Int) := by
        have a : IntKind.u64.wrap ((2 : Int) ^ k) = ((bv k : Nat) : Int) := by
          have := wrapN (bv k) (bv_lt k)
          rw [bv_some _ h, Int.toNat_natCast] at this ⊢
          simpa using this
        rw [a, ← Int.natCast_add]
        exact wrapN _ l
      rw [s]
      rw [ht] at R
      obtain ⟨S, hS⟩ : ∃ S, m + bv k = S := ⟨_, rfl⟩
      rw [hS] at hw ⊢
      clear ht h hm s l hS
      go_enter Tryd.func9, Tryd.ntmps9
      go_wp2_with (go_at_call 18; refine (R.out _).mono ?_; rintro e w' ⟨rfl, rfl⟩)
      go_ret
      exact ⟨rfl, rfl⟩
  · rw [bv_none c h, Nat.or_zero]
    by_cases h1 : c < 0
    · go_enter Tryd.func9, Tryd.ntmps9
      go_wp2
      go_ret
      exact ⟨rfl, rfl⟩
    · have h2 : (64 : Int) ≤ c := by omega
      clear h
      go_enter Tryd.func9, Tryd.ntmps9
      go_wp2
      go_ret
      exact ⟨rfl, rfl⟩

set_option maxHeartbeats 400000 in
theorem less_any (m : Nat) (c : Int) (w : World) (hm : m < 18446744073709551616) :
    Calls Tryd.prog 15 #[.int .u64 m, .int .i64 c] w fun e w' => e = .returned (.int .u64 (nt m (bv c) : Nat)) ∧ w' = w := by
  have B : Hid (∀ w, _) := fun w => bit_any c w
  have hb := u64_andNot_nat m (bv c) hm (bv_lt c)
  rw [← nt] at hb
  generalize nt m (bv c) = P at *
  generalize bv c = b at *
  clear hm
  go_enter Tryd.func15, Tryd.ntmps15
  go_wp2_with (go_at_call 37; refine (B.out _).mono ?_; rintro e w' ⟨rfl, rfl⟩)
  go_ret
  exact ⟨rfl, rfl⟩

set_option maxHeartbeats 400000 in
theorem refless_any (m : Nat) (c : Int) (w : World) (hm : m < 18446744073709551616) :
    Calls Tryd.prog 16 #[.int .u64 m, .int .i64 c] w fun e w' => e = .returned (.int .u64 (nt m (bv c) : Nat)) ∧ w' = w := by
  have R : Hid (∀ w, _) := fun w => refhas_any m c w hm
  cases ht : tb m c with
  | false =>
    rw [nt_bv_same m c hm ht]
    rw [ht] at R
    clear ht hm
    go_enter Tryd.func16, Tryd.ntmps16
    go_wp2_with (go_at_call 18; refine (R.out _).mono ?_; rintro e w' ⟨rfl, rfl⟩)
    go_ret
    exact ⟨rfl, rfl⟩
  | true =>
    have h : 0 ≤ c ∧ c < 64 := by
      by_cases h : 0 ≤ c ∧ c < 64
      · exact h
      · rw [tb_none m c h] at ht; cases ht
    obtain ⟨k, rfl⟩ := Int.eq_ofNat_of_zero_le h.1
    have s := nt_bv_sub m k hm ht
    have hk : (k : Int) < 64 := h.2
    have hw : IntKind.u64.wrap ((m : Int) - IntKind.u64.wrap ((2 : Int) ^ k)) = ((nt m (bv k) : Nat) : Int) := by
      have a : IntKind.u64.wrap ((2 : Int) ^ k) = ((bv k : Nat) : Int) := by
        have := wrapN (bv k) (bv_lt k)
        rw [bv_some _ h, Int.toNat_natCast] at this ⊢
        simpa using this
      rw [a, IntKind.wrap_u64]
      omega
    rw [ht] at R
    generalize nt m (bv k) = S at *
    clear ht h hm s
    go_enter Tryd.func16, Tryd.ntmps16
    go_wp2_with (go_at_call 18; refine (R.out _).mono ?_; rintro e w' ⟨rfl, rfl⟩)
    go_ret
    exact ⟨rfl, rfl⟩

set_option maxHeartbeats 400000 in
theorem and_any (a b : Nat) (w : World) (ha : a < 18446744073709551616) (hb : b < 18446744073709551616) :
    Calls Tryd.prog 19 #[.int .u64 a, .int .u64 b] w fun e w' => e = .returned (.int .u64 (a &&& b : Nat)) ∧ w' = w := by
  have h := bits_and_u64_nat a b ha hb
  generalize a &&& b = P at *
  clear ha hb
  go_enter Tryd.func19, Tryd.ntmps19
  go_wp2
  go_ret
  exact ⟨rfl, rfl⟩

set_option maxHeartbeats 400000 in
theorem or_any (a b : Nat) (w : World) (ha : a < 18446744073709551616) (hb : b < 18446744073709551616) :
    Calls Tryd.prog 21 #[.int .u64 a, .int .u64 b] w fun e w' => e = .returned (.int .u64 (a ||| b : Nat)) ∧ w' = w := by
  have h := bits_or_u64_nat a b ha hb
  generalize a ||| b = P at *
  clear ha hb
  go_enter Tryd.func21, Tryd.ntmps21
  go_wp2
  go_ret
  exact ⟨rfl, rfl⟩

set_option maxHeartbeats 400000 in
theorem not_any (a b : Nat) (w : World) (ha : a < 18446744073709551616) (hb : b < 18446744073709551616) :
    Calls Tryd.prog 23 #[.int .u64 a, .int .u64 b] w fun e w' => e = .returned (.int .u64 (nt a b : Nat)) ∧ w' = w := by
  have h := u64_andNot_nat a b ha hb
  rw [← nt] at h
  generalize nt a b = P at *
  clear ha hb
  go_enter Tryd.func23, Tryd.ntmps23
  go_wp2
  go_ret
  exact ⟨rfl, rfl⟩

set_option maxHeartbeats 400000 in
theorem within_any (a b : Nat) (w : World) (ha : a < 18446744073709551616) (hb : b < 18446744073709551616) :
    Calls Tryd.prog 25 #[.int .u64 a, .int .u64 b] w fun e w' => e = .returned (.bool ((nt a b : Int) == 0)) ∧ w' = w := by
  have N : Hid (∀ w, _) := fun w => not_any a b w ha hb
  generalize nt a b = P at *
  clear ha hb
  go_enter Tryd.func25, Tryd.ntmps25
  go_wp2_with (go_at_call 23; refine (N.out _).mono ?_; rintro e w' ⟨rfl, rfl⟩)
  go_ret
  exact ⟨rfl, rfl⟩

set_option maxHeartbeats 400000 in
theorem many_any (a : Nat) (w : World) (ha : a < 18446744073709551616) :
    Calls Tryd.prog 33 #[.int .u64 a] w fun e w' => e = .returned (.int .i64 ((ls a).length : Nat)) ∧ w' = w := by
  have N : Hid (∀ w, _) := fun w => ones_any a w ha
  generalize (ls a).length = P at *
  clear ha
  go_enter Tryd.func33, Tryd.ntmps33
  go_wp2_with (go_at_call 41; refine (N.out _).mono ?_; rintro e w' ⟨rfl, rfl⟩)
  go_ret
  exact ⟨rfl, rfl⟩

set_option maxHeartbeats 400000 in
theorem upto_any (n : Int) (w : World) :
    Calls Tryd.prog 12 #[.int .i64 n] w fun e w' => e = .returned (.int .u64 (up n : Nat)) ∧ w' = w := by
  by_cases h1 : n < 1
  · rw [show up n = 0 from if_pos h1]
    go_enter Tryd.func12, Tryd.ntmps12
    go_wp2
    go_ret
    exact ⟨rfl, rfl⟩
  · by_cases h2 : 64 ≤ n
    · rw [show up n = 18446744073709551615 from (if_neg h1).trans (if_pos h2)]
      go_enter Tryd.func12, Tryd.ntmps12
      go_wp2
      go_ret
      exact ⟨rfl, rfl⟩
    · have e : up n = bv n - 1 := by rw [bv_some n (by omega)]; exact (if_neg h1).trans (if_neg h2)
      have p : 0 < bv n := by rw [bv_some n (by omega)]; exact Nat.two_pow_pos _
      have l := bv_lt n
      have B : Hid (∀ w, _) := fun w => bit_any n w
      rw [e]
      generalize bv n = b at *
      have hw : IntKind.u64.wrap ((b : Int) - 1) = ((b - 1 : Nat) : Int) := by rw [IntKind.wrap_u64]; omega
      obtain ⟨c, hc⟩ : ∃ c, b - 1 = c := ⟨_, rfl⟩
      rw [hc] at hw ⊢
      clear e l p hc
      go_enter Tryd.func12, Tryd.ntmps12
      go_wp2_with (go_at_call 37; refine (B.out _).mono ?_; rintro e w' ⟨rfl, rfl⟩)
      go_ret
      exact ⟨rfl, rfl⟩

set_option maxHeartbeats 400000 in
theorem refupto_any (n : Int) (w : World) :
    Calls Tryd.prog 13 #[.int .i64 n] w fun e w' => e = .returned (.int .u64 (up n : Nat)) ∧ w' = w := by
  obtain ⟨U, hU⟩ : ∃ U, up n = U := ⟨_, rfl⟩
  have HU : Hid (up n = U) := hU
  rw [hU]
  clear hU
  have R : Hid (∀ (m : Nat) (c : Int) (w : World), m < 18446744073709551616 → _) := fun m c w hm => refwith_any m c w hm
  go_enter Tryd.func13, Tryd.ntmps13
  go_wp2_with fail
  go_loop [3, 4] (fun m i => ∃ k M : Nat, (k : Int) ≤ 64 ∧ Hid (k = 0 ∨ (k : Int) ≤ n) ∧ Hid (M = up (k : Int)) ∧ i = .int .i64 k ∧ m = .int .u64 M) (fun _ i => 64 - (intOf i).toNat)
  case atStart => exact ⟨0, 0, by omega, Or.inl rfl, rfl, rfl, rfl⟩
  case round =>
    obtain ⟨k, M, hk, hn, hM, rfl, rfl⟩ := hrel
    by_cases c1 : (k : Int) < n
    · by_cases c2 : (k : Int) < 64
      · have s : Hid (M ||| bv k = up ((k + 1 : Nat) : Int)) := by rw [hM.out]; exact up_succ k (by omega)
        have C : Hid (∀ w, _) := fun w => R.out M k w (by rw [hM.out]; exact up_lt _)
        generalize M ||| bv k = M2 at *
        go_wp2_with (go_at_call 9; refine (C.out _).mono ?_; rintro e w' ⟨rfl, rfl⟩)
        go_round
        case rel => exact ⟨k + 1, M2, by omega, Or.inr (by omega), s, by go_num, rfl⟩
        case measure => simp [intOf]; omega
      · have e : M = U := by
          rw [hM.out, ← HU.out]
          have a : up (k : Int) = 18446744073709551615 := (if_neg (show ¬(k : Int) < 1 by omega)).trans (if_pos (show (64 : Int) ≤ k by omega))
          have b : up n = 18446744073709551615 := (if_neg (show ¬n < 1 by omega)).trans (if_pos (show 64 ≤ n by omega))
          rw [a, b]
        subst e
        go_wp2
        go_ret
        exact ⟨rfl, rfl⟩
    · have e : M = U := by
        rw [hM.out, ← HU.out]
        rcases hn.out with h | h
        · subst h
          have a : up n = 0 := if_pos (show n < 1 by omega)
          rw [a]
          rfl
        · rw [show (k : Int) = n by omega]
      subst e
      go_wp2
      go_ret
      exact ⟨rfl, rfl⟩
end Go.Proofs.YtojpeanakjefoaaDoor
