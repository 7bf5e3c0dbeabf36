/- A wheel's digits and levels: what canBe, levelBetween and digit answer. -/
import Derived.Test.YtadaghhgmflfdaaDoorRows
import Derived.Test.YtadaghhgmflfdaaDoorLen
import Derived.Test.YtadaghhgmflfdaaDoorWm
import Derived.WalkKit
import Derived.ProofKit
import Derived.OpenShut
import Derived.BigQuiet
import Derived.Lib.Zigzag
namespace Go.Proofs.YtadaghhgmflfdaaDoor
open Go.ChangeShapes Go.WideShapes Go.ChangeAt Go.RowKit
open Wm

/-- A tick that may be. -/
def isT (d : Int) : Prop := 0 ≤ d ∧ d ≤ 1152921504606846976
instance (d : Int) : Decidable (isT d) := by unfold isT; infer_instance

theorem can_any (d : Int) (w : World) : Calls Tryd.prog 55 #[.int .i64 d] w fun e w' => e = .returned (.bool (decide (isT d))) ∧ w' = w := by
  by_cases c1 : 0 ≤ d
  · by_cases c2 : d ≤ 1152921504606846976
    · rw [decide_eq_true (show isT d from ⟨c1, c2⟩)]
      go_enter Tryd.func55, Tryd.ntmps55
      go_wp2
      go_ret
      exact ⟨rfl, rfl⟩
    · rw [decide_eq_false (fun h : isT d => c2 h.2)]
      go_enter Tryd.func55, Tryd.ntmps55
      go_wp2
      go_ret
      exact ⟨rfl, rfl⟩
  · rw [decide_eq_false (fun h : isT d => c1 h.1)]
    go_enter Tryd.func55, Tryd.ntmps55
    go_wp2
    go_ret
    exact ⟨rfl, rfl⟩

theorem i64_xor (x y : Nat) (hx : x < 2305843009213693952) (hy : y < 2305843009213693952) : bits .xor .i64 (x : Int) (y : Int) = ((x ^^^ y : Nat) : Int) := by
  show IntKind.i64.wrap ((BitVec.ofInt 64 (x : Int) ^^^ BitVec.ofInt 64 (y : Int)).toNat : Int) = _
  have h1 : (BitVec.ofInt 64 (x : Int)).toNat = x := by
    rw [BitVec.ofInt_natCast, BitVec.toNat_ofNat]; exact Nat.mod_eq_of_lt (by omega)
  have h2 : (BitVec.ofInt 64 (y : Int)).toNat = y := by
    rw [BitVec.ofInt_natCast, BitVec.toNat_ofNat]; exact Nat.mod_eq_of_lt (by omega)
  have h3 : x ^^^ y < 2 ^ 61 := Nat.xor_lt_two_pow (by omega) (by omega)
  rw [BitVec.toNat_xor, h1, h2, IntKind.wrap_i64]
  omega
theorem i64_and7 (x : Nat) (hx : x < 2305843009213693952) : bits .and .i64 (x : Int) 7 = ((x % 8 : Nat) : Int) := by
  show IntKind.i64.wrap ((BitVec.ofInt 64 (x : Int) &&& BitVec.ofInt 64 7).toNat : Int) = _
  have h1 : (BitVec.ofInt 64 (x : Int)).toNat = x := by
    rw [BitVec.ofInt_natCast, BitVec.toNat_ofNat]; exact Nat.mod_eq_of_lt (by omega)
  have h2 : (BitVec.ofInt 64 7).toNat = 2 ^ 3 - 1 := by decide
  rw [BitVec.toNat_and, h1, h2, Nat.and_two_pow_sub_one_eq_mod, IntKind.wrap_i64]
  omega

set_option maxRecDepth 100000 in
set_option maxHeartbeats 1000000 in
theorem level_any (a b : Int) (w : World) (ha : isT a) (hb : isT b) : Calls Tryd.prog 66 #[.int .i64 a, .int .i64 b] w fun e w' => e = .returned (.int .i64 (lv a.toNat b.toNat : Nat)) ∧ w' = w := by
  obtain ⟨A, rfl⟩ := Int.eq_ofNat_of_zero_le ha.1
  obtain ⟨B, rfl⟩ := Int.eq_ofNat_of_zero_le hb.1
  unfold isT at ha hb
  have x1 := i64_xor A B (by omega) (by omega)
  have h3 : A ^^^ B < 2 ^ 61 := Nat.xor_lt_two_pow (by omega) (by omega)
  have hn := bl_lt 61 _ h3 (by decide)
  rw [Int.toNat_natCast, Int.toNat_natCast]
  unfold lv
  have x2 : IntKind.u64.wrap ((A ^^^ B : Nat) : Int) = ((A ^^^ B : Nat) : Int) := by rw [IntKind.wrap_u64]; omega
  have C : Hid (∀ w, _) := fun w => len_int ((A ^^^ B : Nat) : Int) w (by omega) (by omega)
  rw [Int.toNat_natCast] at C
  generalize Lib.bitLen (A ^^^ B) = N at *
  generalize ((A ^^^ B : Nat) : Int) = X at *
  have hn2 : (N : Int) ≤ 61 := by omega
  clear ha hb h3 hn
  by_cases h0 : N = 0
  · subst h0
    go_enter Tryd.func66, Tryd.ntmps66
    go_wp2_with fail
    refine (C.out _).mono ?_
    rintro e w' ⟨rfl, rfl⟩
    go_wp2
    go_ret
    exact ⟨rfl, rfl⟩
  · obtain ⟨M, rfl⟩ : ∃ M, N = M + 1 := ⟨N - 1, by omega⟩
    rw [Nat.add_sub_cancel]
    have hM : ((M : Int) + 1) - 1 = (M : Int) := by omega
    obtain ⟨q, hq⟩ : ∃ q, q = M / 3 := ⟨_, rfl⟩
    rw [← hq]
    have hM2 : Hid ((M : Int) / 3 = ((q : Nat) : Int)) := by
      show (M : Int) / 3 = ((q : Nat) : Int)
      rw [hq]
      omega
    clear hq
    have hM3 : (M : Int) ≤ 60 := by omega
    clear hn2 h0
    go_enter Tryd.func66, Tryd.ntmps66
    go_wp2_with fail
    refine (C.out _).mono ?_
    rintro e w' ⟨rfl, rfl⟩
    go_wp2
    go_ret
    exact ⟨by rw [← hM2.out]; rfl, rfl⟩

set_option maxRecDepth 100000 in
set_option maxHeartbeats 1000000 in
theorem digit_any (a : Int) (l : Nat) (w : World) (ha : isT a) (hl : (l : Int) ≤ 20) : Calls Tryd.prog 68 #[.int .i64 a, .int .i64 (l : Nat)] w fun e w' => e = .returned (.int .i64 (a.toNat / 8 ^ l % 8 : Nat)) ∧ w' = w := by
  obtain ⟨A, rfl⟩ := Int.eq_ofNat_of_zero_le ha.1
  rw [Int.toNat_natCast]
  have e1 : (A : Int) / 2 ^ (l * 3) = ((A / 8 ^ l : Nat) : Int) := by
    rw [p8, Nat.mul_comm 3 l]
    simp
  have e2 := i64_and7 (A / 8 ^ l) (Nat.lt_of_le_of_lt (Nat.div_le_self _ _) (by unfold isT at ha; omega))
  rw [← e1] at e2
  generalize A / 8 ^ l % 8 = r at *
  clear e1 ha
  go_enter Tryd.func68, Tryd.ntmps68
  go_wp2
  go_ret
  exact ⟨rfl, rfl⟩
end Go.Proofs.YtadaghhgmflfdaaDoor
