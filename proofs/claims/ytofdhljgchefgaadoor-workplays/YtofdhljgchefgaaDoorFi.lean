/- Two equal rows of numbers are told to be equal (davitref01.Ints). -/
import Derived.Test.YtofdhljgchefgaaDoorRows
import Derived.Test.YtofdhljgchefgaaDoorFg
import Derived.WalkKit
import Derived.ProofKit
import Derived.OpenShut
import Derived.BigQuiet
namespace Go.Proofs.YtofdhljgchefgaaDoor
open Go.ChangeShapes Go.WideShapes Go.ChangeAt Go.RowKit

set_option maxHeartbeats 1000000 in
theorem ints_any (xs : List Int) (u v : Value) (w : World) (hl : (xs.length : Int) ≤ 100000) (hu : Row w u xs) (hv : Row w v xs) :
    Calls Tryd.prog 16 #[u, v] w fun e w' => e = .returned (.bool true) ∧ ∃ n, w' = w.drewN n := by
  by_cases h0 : xs = []
  · subst h0
    obtain ⟨a, cap, rfl⟩ := hu.shape
    obtain ⟨a2, cap2, rfl⟩ := hv.shape
    clear hl hv hu
    go_enter Tryd.func16, Tryd.ntmps16
    go_wp2
    go_loop [5] (fun i => i = .int .i64 0) (fun _ => 0)
    case atStart => rfl
    case round =>
      obtain rfl := hrel
      go_wp2
      go_ret
      exact ⟨rfl, 0, rfl⟩
  · rcases hu with ⟨g, _⟩ | ⟨b, off, cap, rfl, _, hc⟩
    · exact absurd g h0
    rcases hv with ⟨g, _⟩ | ⟨b2, off2, cap2, rfl, _, hc2⟩
    · exact absurd g h0
    have HC : Hid (∀ i, i < xs.length → w.cell? ⟨b, off + i, none⟩ = some (.int .i64 (xs.getD i 0))) := hc
    have HC2 : Hid (∀ i, i < xs.length → w.cell? ⟨b2, off2 + i, none⟩ = some (.int .i64 (xs.getD i 0))) := hc2
    obtain ⟨n, hn⟩ : ∃ n, xs.length = n := ⟨_, rfl⟩
    have HN : Hid (xs.length = n) := hn
    rw [hn] at hl ⊢
    clear hc hc2 hn h0
    go_enter Tryd.func16, Tryd.ntmps16
    go_wp2
    go_loopw [5] (fun i wr => ∃ k q : Nat, (k : Int) ≤ n ∧ wr = w.drewN q ∧ i = .int .i64 k) (fun i _ => n - (intOf i).toNat)
    case atStart => exact ⟨0, 0, by omega, rfl, rfl⟩
    case round =>
      obtain ⟨k, q, hk, rfl, rfl⟩ := hrel
      by_cases h : (k : Int) < n
      · have c1 := HC.out k (by have := HN.out; omega)
        have c2 := HC2.out k (by have := HN.out; omega)
        generalize xs.getD k 0 = x at *
        go_wp2
        go_quiet (fail)
        go_wp2
        go_roundw
        case rel => exact ⟨k + 1, _, by omega, rfl, by go_num⟩
        case measure => simp [intOf]; omega
      · go_wp2
        go_ret
        exact ⟨rfl, _, rfl⟩
end Go.Proofs.YtofdhljgchefgaaDoor
