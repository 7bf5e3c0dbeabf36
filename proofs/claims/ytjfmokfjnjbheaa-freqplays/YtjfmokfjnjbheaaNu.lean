/- What the document's part, Percent and Scale answer, for all numbers that their types hold. -/
import Derived.Test.YtjfmokfjnjbheaaRows
import Derived.Test.YtjfmokfjnjbheaaShare
import Derived.Test.YtjfmokfjnjbheaaNv
import Derived.WalkKit
import Derived.ProofKit
import Derived.OpenShut
namespace Go.Proofs.Ytjfmokfjnjbheaa
open Go.ChangeShapes Go.WideShapes Go.ChangeAt Go.RowKit

/-- So far the digits: n times k is o times Q and a rest R. -/
structure Far (n o k Q R : Nat) : Prop where
  sum : o * Q + R = n * k
  rest : R < o
  few : Q ≤ k

theorem far_more {n o k Q R : Nat} (f : Far n o k Q R) (hn : n < o) (h : o - n ≤ R) : Far n o (k + 1) (Q + 1) (R - (o - n)) := by
  have a := f.sum
  have b := f.rest
  have c := f.few
  refine ⟨?_, by omega, by omega⟩
  rw [Nat.mul_add, Nat.mul_add]
  omega

theorem far_same {n o k Q R : Nat} (f : Far n o k Q R) (hn : n < o) (h : R < o - n) : Far n o (k + 1) Q (R + n) := by
  have a := f.sum
  have b := f.rest
  have c := f.few
  refine ⟨?_, by omega, by omega⟩
  rw [Nat.mul_add]
  omega

theorem far_end {n o k Q R : Nat} (f : Far n o k Q R) : n * k / o = Q := by
  have b := f.rest
  rw [← f.sum, Nat.mul_add_div (by omega), Nat.div_eq_of_lt b, Nat.add_zero]

set_option maxHeartbeats 400000 in
theorem refpart_any (n t o Q0 : Nat) (w : World) (hn : n < o) (ho : (o : Int) ≤ 9223372036854775807) (ht : (t : Int) ≤ 100) (HQ : Hid (n * t / o = Q0)) :
    Calls Try.prog 43 #[.int .u64 n, .int .u64 t, .int .u64 o] w fun e w' => e = .returned (.int .u64 Q0) ∧ w' = w := by
  have hno : (n : Int) < o := by omega
  go_enter Try.func43, Try.ntmps43
  go_wp2
  go_loop [7, 8, 9] (fun q r i => ∃ k Q R : Nat, (k : Int) ≤ t ∧ Far n o k Q R ∧ q = .int .u64 Q ∧ r = .int .u64 R ∧ i = .int .u64 k) (fun _ _ i => t - (intOf i).toNat)
  case atStart => exact ⟨0, 0, 0, by omega, ⟨by simp, by omega, by omega⟩, rfl, rfl, rfl⟩
  case round =>
    obtain ⟨k, Q, R, hk, f, rfl, rfl, rfl⟩ := hrel
    have b : (R : Int) < o := by have := f.rest; omega
    have c : (Q : Int) ≤ k := by have := f.few; omega
    by_cases hlt : (k : Int) < t
    · by_cases h : (o : Int) - n ≤ R
      · go_wp2
        go_round
        case rel => exact ⟨k + 1, Q + 1, R - (o - n), by omega, far_more f hn (by omega), by go_num, by go_num, by go_num⟩
        case measure => simp [intOf]; omega
      · go_wp2
        go_round
        case rel => exact ⟨k + 1, Q, R + n, by omega, far_same f hn (by omega), rfl, by go_num, by go_num⟩
        case measure => simp [intOf]; omega
    · obtain rfl : k = t := by omega
      have e := far_end f
      rw [HQ.out] at e
      subst e
      go_wp2
      go_ret
      exact ⟨rfl, rfl⟩

set_option maxHeartbeats 400000 in
theorem refpercent_any (a b : Int) (w : World) (ha : a ≤ 9223372036854775807) (hb : b ≤ 9223372036854775807) :
    Calls Try.prog 41 #[.int .i64 a, .int .i64 b] w fun e w' => e = .returned (.int .i64 (pc a b)) ∧ w' = w := by
  by_cases h1 : a < 1
  · go_enter Try.func41, Try.ntmps41
    go_wp2
    go_ret
    exact ⟨ret_int (by rw [pc, if_pos (by omega)]), rfl⟩
  by_cases h2 : b < 1
  · go_enter Try.func41, Try.ntmps41
    go_wp2
    go_ret
    exact ⟨ret_int (by rw [pc, if_pos (by omega)]), rfl⟩
  by_cases h3 : b ≤ a
  · go_enter Try.func41, Try.ntmps41
    go_wp2
    go_ret
    exact ⟨ret_int (by rw [pc, if_neg (by omega), if_pos h3]), rfl⟩
  · obtain ⟨x, rfl⟩ := Int.eq_ofNat_of_zero_le (show 0 ≤ a by omega)
    obtain ⟨y, rfl⟩ := Int.eq_ofNat_of_zero_le (show 0 ≤ b by omega)
    have hp : pc x y = ((x * 100 / y : Nat) : Int) := by rw [pc, if_neg (by omega), if_neg h3]; rfl
    have hq : x * 100 / y ≤ 100 := by
      rw [Nat.div_le_iff_le_mul_add_pred (by omega)]
      omega
    obtain ⟨Q, hQ⟩ : ∃ Q, x * 100 / y = Q := ⟨_, rfl⟩
    have S : Hid (∀ w, _) := fun w => refpart_any x 100 y Q w (by omega) (by omega) (by omega) hQ
    rw [hQ] at hp hq
    rw [hp]
    clear hp hQ
    go_enter Try.func41, Try.ntmps41
    go_wp2_with (go_at_call 43; refine (S.out _).mono ?_; rintro e w' ⟨rfl, rfl⟩)
    go_ret
    exact ⟨rfl, rfl⟩

theorem parts_val (D P : Nat) : D / 100 * P + D % 100 * P / 100 = D * P / 100 := by
  have e : D * P = 100 * (D / 100 * P) + D % 100 * P := by
    rw [← Nat.mul_assoc, ← Nat.add_mul]
    congr 1
    omega
  rw [e, Nat.mul_add_div (by omega)]

theorem sum3_val (low : Int) (A B : Nat) (hA : (A : Int) ≤ 18446744073709551615) (hB : (B : Int) ≤ 9801) (h1 : -9223372036854775808 ≤ low) (h2 : low + (A + B / 100 : Nat) ≤ 9223372036854775807) :
    wrap64 (IntKind.u64.wrap (IntKind.u64.wrap (IntKind.u64.wrap low + A) + IntKind.u64.wrap ((B : Int) / 100))) = low + (A + B / 100 : Nat) := by
  simp only [IntKind.wrap_u64, wrap64]
  omega

set_option maxHeartbeats 400000 in
theorem refscale_any (low high p : Int) (w : World) (hl : -9223372036854775808 ≤ low) (hl' : low ≤ 9223372036854775807) (hh : -9223372036854775808 ≤ high) (hh' : high ≤ 9223372036854775807) :
    Calls Try.prog 39 #[.int .i64 low, .int .i64 high, .int .i64 p] w fun e w' => e = .returned (.int .i64 (sc low high p)) ∧ w' = w := by
  by_cases h1 : high < low
  · go_enter Try.func39, Try.ntmps39
    go_wp2
    go_ret
    exact ⟨ret_int (by rw [sc, if_pos (by omega)]), rfl⟩
  by_cases h2 : p < 1
  · go_enter Try.func39, Try.ntmps39
    go_wp2
    go_ret
    exact ⟨ret_int (by rw [sc, if_pos (by omega)]), rfl⟩
  by_cases h3 : 100 ≤ p
  · go_enter Try.func39, Try.ntmps39
    go_wp2
    go_ret
    exact ⟨ret_int (by rw [sc, if_neg (by omega), if_pos h3]), rfl⟩
  · have hw := way_val low high hl hh' (by omega)
    obtain ⟨P, rfl⟩ := Int.eq_ofNat_of_zero_le (show 0 ≤ p by omega)
    have hp : sc low high P = low + (((high - low).toNat * P / 100 : Nat) : Int) := by rw [sc, if_neg (by omega), if_neg h3]; rfl
    have hW : ((high - low).toNat : Int) = high - low := by omega
    obtain ⟨D, hD⟩ : ∃ D, (high - low).toNat = D := ⟨_, rfl⟩
    rw [hp]
    rw [hD] at hw hW ⊢
    have hP : P ≤ 99 := by omega
    have le : D * P ≤ D * 99 := Nat.mul_le_mul_left D hP
    have sq : D * P / 100 ≤ D := by omega
    rw [← parts_val] at sq ⊢
    have bB : D % 100 * P ≤ 99 * 99 := Nat.mul_le_mul (by omega) hP
    have wA : IntKind.u64.wrap ((D : Int) / 100 * P) = ((D / 100 * P : Nat) : Int) := by
      have := wrapN (D / 100 * P) (by omega)
      simpa using this
    have wB : IntKind.u64.wrap ((D : Int) % 100 * P) = ((D % 100 * P : Nat) : Int) := by
      have := wrapN (D % 100 * P) (by omega)
      simpa using this
    generalize D / 100 * P = A at *
    generalize D % 100 * P = B at *
    have sv : Hid (_ = _) := sum3_val low A B (by omega) (by omega) hl (by omega)
    generalize low + ((A + B / 100 : Nat) : Int) = V at *
    have hDb : (D : Int) ≤ 18446744073709551615 := by omega
    clear hp hD hW le sq bB hP
    go_enter Try.func39, Try.ntmps39
    go_wp2
    go_ret
    exact ⟨ret_int sv.out, rfl⟩

end Go.Proofs.Ytjfmokfjnjbheaa
