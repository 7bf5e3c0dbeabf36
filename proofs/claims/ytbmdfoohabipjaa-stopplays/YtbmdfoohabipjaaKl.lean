/- What mask's Less and Or answer, and the document's Less, for every mask and every number. -/
import Derived.Test.YtbmdfoohabipjaaRows
import Derived.Test.YtbmdfoohabipjaaKj
import Derived.Test.YtbmdfoohabipjaaKd
import Derived.WalkKit
import Derived.ProofKit
import Derived.OpenShut
import Derived.BigQuiet
import Derived.Laws.Bits64b
import Derived.Laws.BitsAllLaws
namespace Go.Proofs.Ytbmdfoohabipjaa
open Go.ChangeShapes Go.WideShapes Go.ChangeAt Go.RowKit
open Mm

set_option maxRecDepth 100000 in
set_option maxHeartbeats 400000 in
theorem kless_any (m : Nat) (c : Int) (w : World) (hm : m < 18446744073709551616) :
    Calls Try.prog 49 #[.int .u64 m, .int .i64 c] w fun e w' => e = .returned (.int .u64 (nt m (bv c) : Nat)) ∧ w' = w := by
  have B : Hid (∀ w, _) := fun w => kbit_any c w
  have hb := u64_andNot_nat m (bv c) hm (bv_lt c)
  rw [← nt] at hb
  generalize nt m (bv c) = P at *
  generalize bv c = b at *
  clear hm
  go_enter Try.func49, Try.ntmps49
  go_wp2_with (go_at_call 60; refine (B.out _).mono ?_; rintro e w' ⟨rfl, rfl⟩)
  go_ret
  exact ⟨rfl, rfl⟩

set_option maxRecDepth 100000 in
set_option maxHeartbeats 400000 in
theorem krefless_any (m : Nat) (c : Int) (w : World) (hm : m < 18446744073709551616) :
    Calls Try.prog 39 #[.int .u64 m, .int .i64 c] w fun e w' => e = .returned (.int .u64 (nt m (bv c) : Nat)) ∧ w' = w := by
  have R : Hid (∀ w, _) := fun w => krefhas_any m c w hm
  cases ht : tb m c with
  | false =>
    rw [nt_bv_same m c hm ht]
    rw [ht] at R
    clear ht hm
    go_enter Try.func39, Try.ntmps39
    go_wp2_with (go_at_call 38; refine (R.out _).mono ?_; rintro e w' ⟨rfl, rfl⟩)
    go_ret
    exact ⟨rfl, rfl⟩
  | true =>
    have h : 0 ≤ c ∧ c < 64 := by
      by_cases h : 0 ≤ c ∧ c < 64
      · exact h
      · rw [tb_none m c h] at ht; cases ht
    obtain ⟨k, rfl⟩ := Int.eq_ofNat_of_zero_le h.1
    have s := nt_bv_sub m k hm ht
    have hk : (k : Int) < 64 := h.2
    have hw : IntKind.u64.wrap ((m : Int) - IntKind.u64.wrap ((2 : Int) ^ k)) = ((nt m (bv k) : Nat) : Int) := by
      have a : IntKind.u64.wrap ((2 : Int) ^ k) = ((bv k : Nat) : Int) := by
        have := wrapN (bv k) (bv_lt k)
        rw [bv_some _ h, Int.toNat_natCast] at this ⊢
        simpa using this
      rw [a, IntKind.wrap_u64]
      omega
    rw [ht] at R
    generalize nt m (bv k) = S at *
    clear ht h hm s
    go_enter Try.func39, Try.ntmps39
    go_wp2_with (go_at_call 38; refine (R.out _).mono ?_; rintro e w' ⟨rfl, rfl⟩)
    go_ret
    exact ⟨rfl, rfl⟩

set_option maxRecDepth 100000 in
set_option maxHeartbeats 400000 in
theorem kor_any (a b : Nat) (w : World) (ha : a < 18446744073709551616) (hb : b < 18446744073709551616) :
    Calls Try.prog 52 #[.int .u64 a, .int .u64 b] w fun e w' => e = .returned (.int .u64 (a ||| b : Nat)) ∧ w' = w := by
  have h := bits_or_u64_nat a b ha hb
  generalize a ||| b = P at *
  clear ha hb
  go_enter Try.func52, Try.ntmps52
  go_wp2
  go_ret
  exact ⟨rfl, rfl⟩

end Go.Proofs.Ytbmdfoohabipjaa
