/- What the document's fits answers. -/
import Derived.Test.YtmelbbojanomiabRows
import Derived.Test.YtmelbbojanomiabWi1
import Derived.WalkKit
import Derived.ProofKit
import Derived.OpenShut
import Derived.BigQuiet
namespace Go.Proofs.Ytmelbbojanomiab
open Go.ChangeShapes Go.WideShapes Go.ChangeAt Go.RowKit
open Wi0

set_option maxRecDepth 100000 in
set_option maxHeartbeats 2000000 in
theorem fits_any (n : Int) (k : Nat) (w : World) (hn : I6 n) (h1 : 1 ≤ k) (h8 : k ≤ 8) :
    Calls Try.prog 18 #[.int .i64 n, .int .i64 (k : Int)] w fun e w' => e = .returned (.bool (fitk n k)) ∧ w' = w := by
  have : k = 8 ∨ k = 1 ∨ k = 2 ∨ k = 3 ∨ k = 4 ∨ k = 5 ∨ k = 6 ∨ k = 7 := by omega
  rcases this with rfl | this
  · have e : fitk n 8 = true := by obtain ⟨a, b⟩ := hn; rw [fit_iff]; simp only [hf]; omega
    rw [e]
    clear hn e h1 h8
    go_enter Try.func18, Try.ntmps18
    go_wp2
    go_ret
    exact ⟨rfl, rfl⟩
  · clear hn h1 h8
    rcases this with rfl | rfl | rfl | rfl | rfl | rfl | rfl
    · rw [show fitk n 1 = (decide (-128 ≤ n) && decide (n < 128)) from rfl]
      by_cases c1 : -128 ≤ n
      · by_cases c2 : n < 128
        · rw [decide_eq_true c1, decide_eq_true c2]
          go_enter Try.func18, Try.ntmps18
          go_wp2
          go_ret
          exact ⟨rfl, rfl⟩
        · rw [decide_eq_true c1, decide_eq_false c2]
          go_enter Try.func18, Try.ntmps18
          go_wp2
          go_ret
          exact ⟨rfl, rfl⟩
      · rw [decide_eq_false c1, Bool.false_and]
        go_enter Try.func18, Try.ntmps18
        go_wp2
        go_ret
        exact ⟨rfl, rfl⟩
    · rw [show fitk n 2 = (decide (-32768 ≤ n) && decide (n < 32768)) from rfl]
      by_cases c1 : -32768 ≤ n
      · by_cases c2 : n < 32768
        · rw [decide_eq_true c1, decide_eq_true c2]
          go_enter Try.func18, Try.ntmps18
          go_wp2
          go_ret
          exact ⟨rfl, rfl⟩
        · rw [decide_eq_true c1, decide_eq_false c2]
          go_enter Try.func18, Try.ntmps18
          go_wp2
          go_ret
          exact ⟨rfl, rfl⟩
      · rw [decide_eq_false c1, Bool.false_and]
        go_enter Try.func18, Try.ntmps18
        go_wp2
        go_ret
        exact ⟨rfl, rfl⟩
    · rw [show fitk n 3 = (decide (-8388608 ≤ n) && decide (n < 8388608)) from rfl]
      by_cases c1 : -8388608 ≤ n
      · by_cases c2 : n < 8388608
        · rw [decide_eq_true c1, decide_eq_true c2]
          go_enter Try.func18, Try.ntmps18
          go_wp2
          go_ret
          exact ⟨rfl, rfl⟩
        · rw [decide_eq_true c1, decide_eq_false c2]
          go_enter Try.func18, Try.ntmps18
          go_wp2
          go_ret
          exact ⟨rfl, rfl⟩
      · rw [decide_eq_false c1, Bool.false_and]
        go_enter Try.func18, Try.ntmps18
        go_wp2
        go_ret
        exact ⟨rfl, rfl⟩
    · rw [show fitk n 4 = (decide (-2147483648 ≤ n) && decide (n < 2147483648)) from rfl]
      by_cases c1 : -2147483648 ≤ n
      · by_cases c2 : n < 2147483648
        · rw [decide_eq_true c1, decide_eq_true c2]
          go_enter Try.func18, Try.ntmps18
          go_wp2
          go_ret
          exact ⟨rfl, rfl⟩
        · rw [decide_eq_true c1, decide_eq_false c2]
          go_enter Try.func18, Try.ntmps18
          go_wp2
          go_ret
          exact ⟨rfl, rfl⟩
      · rw [decide_eq_false c1, Bool.false_and]
        go_enter Try.func18, Try.ntmps18
        go_wp2
        go_ret
        exact ⟨rfl, rfl⟩
    · rw [show fitk n 5 = (decide (-549755813888 ≤ n) && decide (n < 549755813888)) from rfl]
      by_cases c1 : -549755813888 ≤ n
      · by_cases c2 : n < 549755813888
        · rw [decide_eq_true c1, decide_eq_true c2]
          go_enter Try.func18, Try.ntmps18
          go_wp2
          go_ret
          exact ⟨rfl, rfl⟩
        · rw [decide_eq_true c1, decide_eq_false c2]
          go_enter Try.func18, Try.ntmps18
          go_wp2
          go_ret
          exact ⟨rfl, rfl⟩
      · rw [decide_eq_false c1, Bool.false_and]
        go_enter Try.func18, Try.ntmps18
        go_wp2
        go_ret
        exact ⟨rfl, rfl⟩
    · rw [show fitk n 6 = (decide (-140737488355328 ≤ n) && decide (n < 140737488355328)) from rfl]
      by_cases c1 : -140737488355328 ≤ n
      · by_cases c2 : n < 140737488355328
        · rw [decide_eq_true c1, decide_eq_true c2]
          go_enter Try.func18, Try.ntmps18
          go_wp2
          go_ret
          exact ⟨rfl, rfl⟩
        · rw [decide_eq_true c1, decide_eq_false c2]
          go_enter Try.func18, Try.ntmps18
          go_wp2
          go_ret
          exact ⟨rfl, rfl⟩
      · rw [decide_eq_false c1, Bool.false_and]
        go_enter Try.func18, Try.ntmps18
        go_wp2
        go_ret
        exact ⟨rfl, rfl⟩
    · rw [show fitk n 7 = (decide (-36028797018963968 ≤ n) && decide (n < 36028797018963968)) from rfl]
      by_cases c1 : -36028797018963968 ≤ n
      · by_cases c2 : n < 36028797018963968
        · rw [decide_eq_true c1, decide_eq_true c2]
          go_enter Try.func18, Try.ntmps18
          go_wp2
          go_ret
          exact ⟨rfl, rfl⟩
        · rw [decide_eq_true c1, decide_eq_false c2]
          go_enter Try.func18, Try.ntmps18
          go_wp2
          go_ret
          exact ⟨rfl, rfl⟩
      · rw [decide_eq_false c1, Bool.false_and]
        go_enter Try.func18, Try.ntmps18
        go_wp2
        go_ret
        exact ⟨rfl, rfl⟩
end Go.Proofs.Ytmelbbojanomiab
