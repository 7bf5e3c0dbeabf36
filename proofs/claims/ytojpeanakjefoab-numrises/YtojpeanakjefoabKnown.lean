/- What num's Add and Later answer, for all numbers that their types hold, and that the law's fixed calls come out as they must. -/
import Derived.Test.YtojpeanakjefoabRows
import Derived.Test.YtojpeanakjefoabShare
import Derived.WalkKit
import Derived.ProofKit
import Derived.OpenShut
namespace Go.Proofs.Ytojpeanakjefoab
open Go.ChangeShapes Go.WideShapes Go.ChangeAt Go.RowKit

/-- The number itself where 64 bits with a sign hold it; else 0. -/
def sv (n : Int) : Int := if -9223372036854775808 ≤ n ∧ n ≤ 9223372036854775807 then n else 0
/-- 0 where 64 bits with a sign hold the number; else 16, the error of what does not fit. -/
def se (n : Int) : Int := if -9223372036854775808 ≤ n ∧ n ≤ 9223372036854775807 then 0 else 16
/-- A later tick, or 0. -/
def lv (a b : Int) : Int := if a < 0 ∨ 1152921504606846976 < a ∨ b < 0 ∨ 1073741824 < b then 0 else if 1152921504606846976 < a + b then 0 else a + b
/-- A later tick's error. -/
def le (a b : Int) : Int := if a < 0 ∨ 1152921504606846976 < a ∨ b < 0 ∨ 1073741824 < b then 2 else if 1152921504606846976 < a + b then 16 else 0

set_option maxHeartbeats 400000 in
theorem add_any (a b : Int) (w : World) (ha : -9223372036854775808 ≤ a) (ha' : a ≤ 9223372036854775807) (hb : -9223372036854775808 ≤ b) (hb' : b ≤ 9223372036854775807) :
    Calls Try.prog 19 #[.int .i64 a, .int .i64 b] w fun e w' => e = .returned (.tuple #[.int .i64 (sv (a + b)), .int .i64 (se (a + b))]) ∧ w' = w := by
  go_enter Try.func19, Try.ntmps19
  go_wp2
  all_goals
    go_ret2
    refine ⟨ret_two ?_ ?_, rfl⟩ <;> (simp only [sv, se, wrap64] at *; split <;> omega)

set_option maxHeartbeats 400000 in
theorem later_any (a b : Int) (w : World) (ha : -9223372036854775808 ≤ a) (ha' : a ≤ 9223372036854775807) (hb : -9223372036854775808 ≤ b) (hb' : b ≤ 9223372036854775807) :
    Calls Try.prog 18 #[.int .i64 a, .int .i64 b] w fun e w' => e = .returned (.tuple #[.int .i64 (lv a b), .int .i64 (le a b)]) ∧ w' = w := by
  go_enter Try.func18, Try.ntmps18
  go_wp2
  all_goals
    go_ret2
    refine ⟨ret_two ?_ ?_, rfl⟩ <;> (simp only [lv, le] at *; split <;> (try split) <;> omega)

set_option maxHeartbeats 1000000 in
theorem known_yes (w : World) :
    Calls Try.prog 12 #[] w fun e w' => e = .returned (.bool true) ∧ ∃ n, w' = w.drewN n := by
  have L := fun w => later_any 5 7 w (by omega) (by omega) (by omega) (by omega)
  have A := fun w => add_any 9223372036854775807 1 w (by omega) (by omega) (by omega) (by omega)
  have P := fun w => percent_any 1 3 w (by omega) (by omega)
  have S := fun w => scale_any 10 20 55 w (by omega) (by omega) (by omega) (by omega)
  have G := fun w => log_any 9 w (by omega)
  rw [show lv 5 7 = 12 by decide, show le 5 7 = 0 by decide] at L
  rw [show sv (9223372036854775807 + 1) = 0 by decide, show se (9223372036854775807 + 1) = 16 by decide] at A
  rw [show pc 1 3 = 33 by decide] at P
  rw [show sc 10 20 55 = 15 by decide] at S
  rw [show lg 9 = 3 by decide] at G
  have HL : Hid (∀ w, _) := L
  have HA : Hid (∀ w, _) := A
  have HP : Hid (∀ w, _) := P
  have HS : Hid (∀ w, _) := S
  have HG : Hid (∀ w, _) := G
  clear L A P S G
  go_enter Try.func12, Try.ntmps12
  go_wp2_with (first | (go_at_call 18; refine (HL.out _).mono ?_; rintro e w' ⟨rfl, rfl⟩) | (go_at_call 19; refine (HA.out _).mono ?_; rintro e w' ⟨rfl, rfl⟩) | (go_at_call 8; refine (HP.out _).mono ?_; rintro e w' ⟨rfl, k, rfl⟩) | (go_at_call 13; refine (HS.out _).mono ?_; rintro e w' ⟨rfl, k, rfl⟩) | (go_at_call 10; refine (HG.out _).mono ?_; rintro e w' ⟨rfl, rfl⟩))
  go_ret
  exact ⟨rfl, _, rfl⟩
end Go.Proofs.Ytojpeanakjefoab
