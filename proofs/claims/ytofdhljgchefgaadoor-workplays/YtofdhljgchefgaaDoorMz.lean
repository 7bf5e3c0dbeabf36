/- What math/bits.TrailingZeros64 (where the table reads as the program's text lays it) answer, for every word. -/
import Derived.Test.YtofdhljgchefgaaDoorRows
import Derived.Test.YtofdhljgchefgaaDoorMp
import Derived.Test.YtofdhljgchefgaaDoorFw
import Derived.WalkKit
import Derived.ProofKit
import Derived.OpenShut
import Derived.Laws.Bits64b
import Derived.Laws.BitsAllLaws
namespace Go.Proofs.YtofdhljgchefgaaDoor
open Go.ChangeShapes Go.WideShapes Go.ChangeAt Go.RowKit
open Mm

theorem wrapN (a : Nat) (ha : a < 18446744073709551616) : IntKind.u64.wrap (a : Int) = (a : Int) := by rw [IntKind.wrap_u64]; omega
theorem ret_int {k : IntKind} {a b : Int} (h : a = b) : Ending.returned (.int k a) = .returned (.int k b) := by rw [h]
theorem ret_bool {a b : Bool} (h : a = b) : Ending.returned (.bool a) = .returned (.bool b) := by rw [h]
theorem ret_two {k : IntKind} {a b c d : Int} (h : a = b) (g : c = d) : Ending.returned (.tuple #[.int k a, .int k c]) = .returned (.tuple #[.int k b, .int k d]) := by rw [h, g]

/-- The table of the lowest bits reads as the program's text lays it. -/
def Tab (w : World) : Prop := ∀ i, i < 64 → w.cell? ⟨0, i, none⟩ = some (.int .u8 (tab.getD i 0 : Nat))

set_option maxHeartbeats 400000 in
theorem tz_core (x p m i k : Nat) (w : World) (h0 : (1 : Int) ≤ x) (h1 : bits .and .u64 (x : Int) (IntKind.u64.wrap (-(x : Int))) = (p : Int)) (h2 : IntKind.u64.wrap ((p : Int) * 285870213051353865) = (m : Int))
    (h3 : (m : Int) / 288230376151711744 = (i : Int)) (h4 : (i : Int) < 64) (h5 : w.cell? ⟨0, i, none⟩ = some (.int .u8 (k : Int))) (h6 : (k : Int) ≤ 63) :
    Calls Tryd.prog 62 #[.int .u64 x] w fun e w' => e = .returned (.int .i64 k) ∧ w' = w := by
  go_enter Tryd.func62, Tryd.ntmps62
  go_wp2
  go_ret
  exact ⟨rfl, rfl⟩

/-- bits.TrailingZeros64: the lowest bit that is 1. -/
theorem tz_any (x : Nat) (w : World) (h0 : 0 < x) (hx : x < 18446744073709551616) (ht : Tab w) :
    Calls Tryd.prog 62 #[.int .u64 x] w fun e w' => e = .returned (.int .i64 (Lib.ntzAux 64 x : Nat)) ∧ w' = w := by
  obtain ⟨q, e, hk⟩ := odd_spec 64 x h0 hx
  generalize Lib.ntzAux 64 x = k at *
  have lb := low_bit x k q hk e hx
  have lt : 2 ^ k * 285870213051353865 % 18446744073709551616 / 288230376151711744 < 64 := by omega
  have ta := tab_at ⟨k, hk⟩
  simp only at ta
  have hc := ht _ lt
  rw [ta] at hc
  refine tz_core x (2 ^ k) (2 ^ k * 285870213051353865 % 18446744073709551616) _ k w (by omega) ?_ ?_ (by omega) (by omega) hc (by omega)
  · have a : IntKind.u64.wrap (-(x : Int)) = ((18446744073709551616 - x : Nat) : Int) := by rw [IntKind.wrap_u64]; omega
    rw [a, bits_and_u64_nat _ _ hx (by omega), lb]
  · rw [IntKind.wrap_u64]; omega

theorem tz_zero (w : World) : Calls Tryd.prog 62 #[.int .u64 0] w fun e w' => e = .returned (.int .i64 64) ∧ w' = w := by
  go_enter Tryd.func62, Tryd.ntmps62
  go_wp2
  go_ret
  exact ⟨rfl, rfl⟩

theorem Tab.keep {B : Nat} {S : List Nat} {w w' : World} (ht : Tab w) (hB : 0 < B) (hS : 0 ∉ S) (h : Fr B S w w') : Tab w' := by
  intro i hi
  rw [h.cell (p := ⟨0, i, none⟩) hB hS]
  exact ht i hi

theorem Tab.heap {w w1 : World} (ht : Tab w) (e : w1.heap = w.heap) : Tab w1 := by
  intro i hi
  rw [← ht i hi]
  unfold World.cell?
  rw [e]
end Go.Proofs.YtofdhljgchefgaaDoor
