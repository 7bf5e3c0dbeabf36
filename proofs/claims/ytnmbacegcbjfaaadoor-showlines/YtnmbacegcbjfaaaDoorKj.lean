/- What mask's bit, Has answer, for every mask and every number. -/
import Derived.Test.YtnmbacegcbjfaaaDoorRows
import Derived.Test.YtnmbacegcbjfaaaDoorMw
import Derived.WalkKit
import Derived.ProofKit
import Derived.OpenShut
import Derived.BigQuiet
import Derived.Laws.Bits64b
import Derived.Laws.BitsAllLaws
namespace Go.Proofs.YtnmbacegcbjfaaaDoor
open Go.ChangeShapes Go.WideShapes Go.ChangeAt Go.RowKit
open Mm

set_option maxRecDepth 100000 in
set_option maxHeartbeats 400000 in
theorem kbit_any (c : Int) (w : World) :
    Calls Tryd.prog 46 #[.int .i64 c] w fun e w' => e = .returned (.int .u64 (bv c : Nat)) ∧ w' = w := by
  by_cases h : 0 ≤ c ∧ c < 64
  · obtain ⟨k, rfl⟩ := Int.eq_ofNat_of_zero_le h.1
    have hw : IntKind.u64.wrap ((2 : Int) ^ k) = ((2 ^ k : Nat) : Int) := by
      have := wrapN (2 ^ k) (by have := bv_lt (k : Int); rw [bv_some _ h] at this; simpa using this)
      simpa using this
    have hk : (k : Int) < 64 := h.2
    rw [bv_some _ h, Int.toNat_natCast]
    generalize 2 ^ k = P at *
    clear h
    go_enter Tryd.func46, Tryd.ntmps46
    go_wp2
    go_ret
    exact ⟨rfl, rfl⟩
  · rw [bv_none c h]
    by_cases h1 : c < 0
    · go_enter Tryd.func46, Tryd.ntmps46
      go_wp2
      go_ret
      exact ⟨rfl, rfl⟩
    · have h2 : (64 : Int) ≤ c := by omega
      clear h
      go_enter Tryd.func46, Tryd.ntmps46
      go_wp2
      go_ret
      exact ⟨rfl, rfl⟩

set_option maxRecDepth 100000 in
set_option maxHeartbeats 400000 in
theorem khas_any (m : Nat) (c : Int) (w : World) (hm : m < 18446744073709551616) :
    Calls Tryd.prog 30 #[.int .u64 m, .int .i64 c] w fun e w' => e = .returned (.bool (tb m c)) ∧ w' = w := by
  have B : Hid (∀ w, _) := fun w => kbit_any c w
  have hb := bits_and_u64_nat m (bv c) hm (bv_lt c)
  have hz := and_bv m c
  generalize m &&& bv c = P at *
  generalize bv c = b at *
  cases ht : tb m c with
  | false =>
    rw [ht] at hz
    have : P = 0 := by rw [hz]
    subst this
    clear hz ht hm
    go_enter Tryd.func30, Tryd.ntmps30
    go_wp2_with (go_at_call 46; refine (B.out _).mono ?_; rintro e w' ⟨rfl, rfl⟩)
    go_ret
    exact ⟨rfl, rfl⟩
  | true =>
    rw [ht] at hz
    have hP : ((P : Int) != 0) = true := by
      rw [bne_iff_ne]
      intro e
      have : P = 0 := by omega
      rw [hz] at this
      cases this
    clear hz ht hm
    go_enter Tryd.func30, Tryd.ntmps30
    go_wp2_with (go_at_call 46; refine (B.out _).mono ?_; rintro e w' ⟨rfl, rfl⟩)
    go_ret
    exact ⟨rfl, rfl⟩

end Go.Proofs.YtnmbacegcbjfaaaDoor
