/- What mask's bit, Has, Not, Many and Upto answer, for every mask and every number. -/
import Derived.Test.YthhgmnkgeombhaaRows
import Derived.Test.YthhgmnkgeombhaaMq
import Derived.WalkKit
import Derived.ProofKit
import Derived.OpenShut
import Derived.BigQuiet
import Derived.Laws.Bits64b
import Derived.Laws.BitsAllLaws
namespace Go.Proofs.Ythhgmnkgeombhaa
open Go.ChangeShapes Go.WideShapes Go.ChangeAt Go.RowKit
open Mm

set_option maxRecDepth 100000 in
set_option maxHeartbeats 400000 in
theorem kbit_any (c : Int) (w : World) :
    Calls Try.prog 57 #[.int .i64 c] w fun e w' => e = .returned (.int .u64 (bv c : Nat)) ∧ w' = w := by
  by_cases h : 0 ≤ c ∧ c < 64
  · obtain ⟨k, rfl⟩ := Int.eq_ofNat_of_zero_le h.1
    have hw : IntKind.u64.wrap ((2 : Int) ^ k) = ((2 ^ k : Nat) : Int) := by
      have := wrapN (2 ^ k) (by have := bv_lt (k : Int); rw [bv_some _ h] at this; simpa using this)
      simpa using this
    have hk : (k : Int) < 64 := h.2
    rw [bv_some _ h, Int.toNat_natCast]
    generalize 2 ^ k = P at *
    clear h
    go_enter Try.func57, Try.ntmps57
    go_wp2
    go_ret
    exact ⟨rfl, rfl⟩
  · rw [bv_none c h]
    by_cases h1 : c < 0
    · go_enter Try.func57, Try.ntmps57
      go_wp2
      go_ret
      exact ⟨rfl, rfl⟩
    · have h2 : (64 : Int) ≤ c := by omega
      clear h
      go_enter Try.func57, Try.ntmps57
      go_wp2
      go_ret
      exact ⟨rfl, rfl⟩

set_option maxRecDepth 100000 in
set_option maxHeartbeats 400000 in
theorem khas_any (m : Nat) (c : Int) (w : World) (hm : m < 18446744073709551616) :
    Calls Try.prog 41 #[.int .u64 m, .int .i64 c] w fun e w' => e = .returned (.bool (tb m c)) ∧ w' = w := by
  have B : Hid (∀ w, _) := fun w => kbit_any c w
  have hb := bits_and_u64_nat m (bv c) hm (bv_lt c)
  have hz := and_bv m c
  generalize m &&& bv c = P at *
  generalize bv c = b at *
  cases ht : tb m c with
  | false =>
    rw [ht] at hz
    have : P = 0 := by rw [hz]
    subst this
    clear hz ht hm
    go_enter Try.func41, Try.ntmps41
    go_wp2_with (go_at_call 57; refine (B.out _).mono ?_; rintro e w' ⟨rfl, rfl⟩)
    go_ret
    exact ⟨rfl, rfl⟩
  | true =>
    rw [ht] at hz
    have hP : ((P : Int) != 0) = true := by
      rw [bne_iff_ne]
      intro e
      have : P = 0 := by omega
      rw [hz] at this
      cases this
    clear hz ht hm
    go_enter Try.func41, Try.ntmps41
    go_wp2_with (go_at_call 57; refine (B.out _).mono ?_; rintro e w' ⟨rfl, rfl⟩)
    go_ret
    exact ⟨rfl, rfl⟩

set_option maxRecDepth 100000 in
set_option maxHeartbeats 400000 in
theorem knot_any (a b : Nat) (w : World) (ha : a < 18446744073709551616) (hb : b < 18446744073709551616) :
    Calls Try.prog 66 #[.int .u64 a, .int .u64 b] w fun e w' => e = .returned (.int .u64 (nt a b : Nat)) ∧ w' = w := by
  have h := u64_andNot_nat a b ha hb
  rw [← nt] at h
  generalize nt a b = P at *
  clear ha hb
  go_enter Try.func66, Try.ntmps66
  go_wp2
  go_ret
  exact ⟨rfl, rfl⟩

set_option maxRecDepth 100000 in
set_option maxHeartbeats 400000 in
theorem kmany_any (a : Nat) (w : World) (ha : a < 18446744073709551616) :
    Calls Try.prog 60 #[.int .u64 a] w fun e w' => e = .returned (.int .i64 ((ls a).length : Nat)) ∧ w' = w := by
  have N : Hid (∀ w, _) := fun w => ones_any a w ha
  generalize (ls a).length = P at *
  clear ha
  go_enter Try.func60, Try.ntmps60
  go_wp2_with (go_at_call 65; refine (N.out _).mono ?_; rintro e w' ⟨rfl, rfl⟩)
  go_ret
  exact ⟨rfl, rfl⟩

set_option maxRecDepth 100000 in
set_option maxHeartbeats 400000 in
theorem kupto_any (n : Int) (w : World) :
    Calls Try.prog 42 #[.int .i64 n] w fun e w' => e = .returned (.int .u64 (up n : Nat)) ∧ w' = w := by
  by_cases h1 : n < 1
  · rw [show up n = 0 from if_pos h1]
    go_enter Try.func42, Try.ntmps42
    go_wp2
    go_ret
    exact ⟨rfl, rfl⟩
  · by_cases h2 : 64 ≤ n
    · rw [show up n = 18446744073709551615 from (if_neg h1).trans (if_pos h2)]
      go_enter Try.func42, Try.ntmps42
      go_wp2
      go_ret
      exact ⟨rfl, rfl⟩
    · have e : up n = bv n - 1 := by rw [bv_some n (by omega)]; exact (if_neg h1).trans (if_neg h2)
      have p : 0 < bv n := by rw [bv_some n (by omega)]; exact Nat.two_pow_pos _
      have l := bv_lt n
      have B : Hid (∀ w, _) := fun w => kbit_any n w
      rw [e]
      generalize bv n = b at *
      have hw : IntKind.u64.wrap ((b : Int) - 1) = ((b - 1 : Nat) : Int) := by rw [IntKind.wrap_u64]; omega
      obtain ⟨c, hc⟩ : ∃ c, b - 1 = c := ⟨_, rfl⟩
      rw [hc] at hw ⊢
      clear e l p hc
      go_enter Try.func42, Try.ntmps42
      go_wp2_with (go_at_call 57; refine (B.out _).mono ?_; rintro e w' ⟨rfl, rfl⟩)
      go_ret
      exact ⟨rfl, rfl⟩

end Go.Proofs.Ythhgmnkgeombhaa
