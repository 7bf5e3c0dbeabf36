/- What the document's Upto answers, for all masks and numbers. -/
import Derived.Test.YtijicghdmlfheaaRows
import Derived.Test.YtijicghdmlfheaaKd
import Derived.Test.YtijicghdmlfheaaKh
import Derived.WalkKit
import Derived.ProofKit
import Derived.OpenShut
import Derived.BigQuiet
import Derived.Laws.Bits64b
import Derived.Laws.BitsAllLaws
namespace Go.Proofs.Ytijicghdmlfheaa
open Go.ChangeShapes Go.WideShapes Go.ChangeAt Go.RowKit
open Mm

set_option maxRecDepth 100000 in
set_option maxHeartbeats 400000 in
theorem krefupto_any (n : Int) (w : World) :
    Calls Try.prog 20 #[.int .i64 n] w fun e w' => e = .returned (.int .u64 (up n : Nat)) ∧ w' = w := by
  obtain ⟨U, hU⟩ : ∃ U, up n = U := ⟨_, rfl⟩
  have HU : Hid (up n = U) := hU
  rw [hU]
  clear hU
  have R : Hid (∀ (m : Nat) (c : Int) (w : World), m < 18446744073709551616 → _) := fun m c w hm => krefwith_any m c w hm
  go_enter Try.func20, Try.ntmps20
  go_wp2_with fail
  go_loop [3, 4] (fun m i => ∃ k M : Nat, (k : Int) ≤ 64 ∧ Hid (k = 0 ∨ (k : Int) ≤ n) ∧ Hid (M = up (k : Int)) ∧ i = .int .i64 k ∧ m = .int .u64 M) (fun _ i => 64 - (intOf i).toNat)
  case atStart => exact ⟨0, 0, by omega, Or.inl rfl, rfl, rfl, rfl⟩
  case round =>
    obtain ⟨k, M, hk, hn, hM, rfl, rfl⟩ := hrel
    by_cases c1 : (k : Int) < n
    · by_cases c2 : (k : Int) < 64
      · have s : Hid (M ||| bv k = up ((k + 1 : Nat) : Int)) := by rw [hM.out]; exact up_succ k (by omega)
        have C : Hid (∀ w, _) := fun w => R.out M k w (by rw [hM.out]; exact up_lt _)
        generalize M ||| bv k = M2 at *
        go_wp2_with (go_at_call 28; refine (C.out _).mono ?_; rintro e w' ⟨rfl, rfl⟩)
        go_round
        case rel => exact ⟨k + 1, M2, by omega, Or.inr (by omega), s, by go_num, rfl⟩
        case measure => simp [intOf]; omega
      · have e : M = U := by
          rw [hM.out, ← HU.out]
          have a : up (k : Int) = 18446744073709551615 := (if_neg (show ¬(k : Int) < 1 by omega)).trans (if_pos (show (64 : Int) ≤ k by omega))
          have b : up n = 18446744073709551615 := (if_neg (show ¬n < 1 by omega)).trans (if_pos (show 64 ≤ n by omega))
          rw [a, b]
        subst e
        go_wp2
        go_ret
        exact ⟨rfl, rfl⟩
    · have e : M = U := by
        rw [hM.out, ← HU.out]
        rcases hn.out with h | h
        · subst h
          have a : up n = 0 := if_pos (show n < 1 by omega)
          rw [a]
          rfl
        · rw [show (k : Int) = n by omega]
      subst e
      go_wp2
      go_ret
      exact ⟨rfl, rfl⟩

end Go.Proofs.Ytijicghdmlfheaa
