/- What mask's With answers, for every mask and every list of at most 1000 numbers. -/
import Derived.Test.YtcifjdnmnmmhoaaDoorRows
import Derived.Test.YtcifjdnmnmmhoaaDoorKj
import Derived.Test.YtcifjdnmnmmhoaaDoorFg
import Derived.WalkKit
import Derived.ProofKit
import Derived.OpenShut
import Derived.BigQuiet
import Derived.Laws.Bits64b
import Derived.Laws.BitsAllLaws
namespace Go.Proofs.YtcifjdnmnmmhoaaDoor
open Go.ChangeShapes Go.WideShapes Go.ChangeAt Go.RowKit
open Mm

set_option maxRecDepth 100000 in
set_option maxHeartbeats 400000 in
theorem kwith_any (m : Nat) (xs : List Int) (v : Value) (w : World) (hm : m < 18446744073709551616) (hl : (xs.length : Int) ≤ 1000) (hr : Row w v xs) :
    Calls Tryd.prog 79 #[.int .u64 m, v] w fun e w' => e = .returned (.int .u64 (wl m xs : Nat)) ∧ w' = w := by
  rcases hr with ⟨rfl, a, cap, rfl⟩ | ⟨b, off, cap, rfl, _, hc⟩
  · rw [show wl m [] = m from rfl]
    clear hl hm
    go_enter Tryd.func79, Tryd.ntmps79
    go_wp2
    go_loop [0, 9] (fun a i => a = .int .u64 m ∧ i = .int .i64 0) (fun _ _ => 0)
    case atStart => exact ⟨rfl, rfl⟩
    case round =>
      obtain ⟨rfl, rfl⟩ := hrel
      go_wp2
      go_ret
      exact ⟨rfl, rfl⟩
  · have HM : Hid (m < 18446744073709551616) := hm
    have HC : Hid (∀ i, i < xs.length → w.cell? ⟨b, off + i, none⟩ = some (.int .i64 (xs.getD i 0))) := hc
    obtain ⟨n, hn⟩ : ∃ n, xs.length = n := ⟨_, rfl⟩
    have HN : Hid (xs.length = n) := hn
    obtain ⟨R, hR⟩ : ∃ R, wl m xs = R := ⟨_, rfl⟩
    have HR : Hid (wl m xs = R) := hR
    rw [hn] at hl ⊢
    rw [hR]
    clear hc hm hn hR
    go_enter Tryd.func79, Tryd.ntmps79
    go_wp2
    go_loop [0, 9] (fun a i => ∃ k M : Nat, (k : Int) ≤ n ∧ Hid (M = wl m (xs.take k)) ∧ i = .int .i64 k ∧ a = .int .u64 M) (fun _ i => n - (intOf i).toNat)
    case atStart => exact ⟨0, m, by omega, rfl, rfl, rfl⟩
    case round =>
      obtain ⟨k, M, hk, hM, rfl, rfl⟩ := hrel
      by_cases h : (k : Int) < n
      · have hc := HC.out k (by have := HN.out; omega)
        have s : Hid (M ||| bv (xs.getD k 0) = wl m (xs.take (k + 1))) := by
          rw [hM.out, take_snoc xs k (by have := HN.out; omega)]
          exact (wl_snoc _ _ _).symm
        have lM : M < 18446744073709551616 := by rw [hM.out]; exact wl_lt _ _ HM.out
        have hb := bits_or_u64_nat M (bv (xs.getD k 0)) lM (bv_lt _)
        generalize xs.getD k 0 = c at *
        have B : Hid (∀ w, _) := fun w => kbit_any c w
        generalize M ||| bv c = M2 at *
        generalize bv c = q at *
        clear lM
        go_wp2_with (go_at_call 75; refine (B.out _).mono ?_; rintro e w' ⟨rfl, rfl⟩)
        go_round
        case rel => exact ⟨k + 1, M2, by omega, s, by go_num, rfl⟩
        case measure => simp [intOf]; omega
      · have e : M = R := by
          have a := HN.out
          have b : k = xs.length := by omega
          rw [hM.out, ← HR.out, b, List.take_length]
        subst e
        go_wp2
        go_ret
        exact ⟨rfl, rfl⟩
end Go.Proofs.YtcifjdnmnmmhoaaDoor
