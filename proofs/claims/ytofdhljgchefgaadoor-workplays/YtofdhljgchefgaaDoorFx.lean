/- What slices.Index answers, for every row of whole numbers. -/
import Derived.Test.YtofdhljgchefgaaDoorRows
import Derived.Test.YtofdhljgchefgaaDoorFw
import Derived.Test.YtofdhljgchefgaaDoorFm
import Derived.WalkKit
import Derived.ProofKit
import Derived.OpenShut
namespace Go.Proofs.YtofdhljgchefgaaDoor
open Go.ChangeShapes Go.WideShapes Go.ChangeAt Go.RowKit
open Fm

set_option maxHeartbeats 400000 in
theorem index_any (xs : List Int) (v : Value) (n : Int) (w : World) (hl : (xs.length : Int) ≤ 100000) (hr : Row w v xs) :
    Calls Tryd.prog 68 #[v, .int .i64 n] w fun e w' => e = .returned (.int .i64 (ix xs n)) ∧ w' = w := by
  rcases hr with ⟨rfl, a, cap, rfl⟩ | ⟨b, off, cap, rfl, _, hc⟩
  · rw [show ix [] n = -1 from rfl]
    clear hl
    go_enter Tryd.func68, Tryd.ntmps68
    go_wp2
    go_loop [8] (fun i => i = .int .i64 0) (fun _ => 0)
    case atStart => rfl
    case round =>
      obtain rfl := hrel
      go_wp2
      go_ret
      exact ⟨rfl, rfl⟩
  · have HC : Hid (∀ i, i < xs.length → w.cell? ⟨b, off + i, none⟩ = some (.int .i64 (xs.getD i 0))) := hc
    obtain ⟨l, hn⟩ : ∃ l, xs.length = l := ⟨_, rfl⟩
    have HN : Hid (xs.length = l) := hn
    obtain ⟨R, hR⟩ : ∃ R, ix xs n = R := ⟨_, rfl⟩
    have HR : Hid (ix xs n = R) := hR
    rw [hn] at hl ⊢
    rw [hR]
    clear hc hn hR
    go_enter Tryd.func68, Tryd.ntmps68
    go_wp2
    go_loop [8] (fun i => ∃ k : Nat, (k : Int) ≤ l ∧ Hid (∀ j, j < k → xs.getD j 0 ≠ n) ∧ i = .int .i64 k) (fun i => l - (intOf i).toNat)
    case atStart => exact ⟨0, by omega, fun j hj => by omega, rfl⟩
    case round =>
      obtain ⟨k, hk, hM, rfl⟩ := hrel
      by_cases h : (k : Int) < l
      · have hc := HC.out k (by have := HN.out; omega)
        by_cases e : n = xs.getD k 0
        · have s : R = k := by
            rw [← HR.out]
            exact ix_hit xs n k (by have := HN.out; omega) e.symm hM.out
          subst s
          generalize xs.getD k 0 = c at *
          subst e
          go_wp2
          go_ret
          exact ⟨rfl, rfl⟩
        · have s : Hid (∀ j, j < k + 1 → xs.getD j 0 ≠ n) := fun j hj => by
            by_cases d : j = k
            · subst d; exact fun q => e q.symm
            · exact hM.out j (by omega)
          generalize xs.getD k 0 = c at *
          have e2 : (n == c) = false := by simpa using e
          clear e
          go_wp2
          go_round
          case rel => exact ⟨k + 1, by omega, s, by go_num⟩
          case measure => simp [intOf]; omega
      · have s : R = -1 := by
          rw [← HR.out]
          exact ix_miss xs n fun j hj => hM.out j (by have := HN.out; omega)
        subst s
        go_wp2
        go_ret
        exact ⟨rfl, rfl⟩

end Go.Proofs.YtofdhljgchefgaaDoor
