/- What math/bits.Div64 (where it does not panic) and num's share, Percent and Scale answer, for all numbers that their types hold. -/
import Derived.Test.YtjfmokfjnjbheaaRows
import Derived.Test.YtjfmokfjnjbheaaMath
import Derived.Test.YtjfmokfjnjbheaaBits
import Derived.Test.YtjfmokfjnjbheaaDiv
import Derived.WalkKit
import Derived.ProofKit
import Derived.OpenShut
import Derived.Laws.Bits64b
import Derived.BigQuiet
namespace Go.Proofs.Ytjfmokfjnjbheaa
open Go.ChangeShapes Go.WideShapes Go.ChangeAt Go.RowKit
open Ma

set_option maxHeartbeats 400000 in
/-- bits.Div64, where the upper half is 0. -/
theorem div_none (lo y : Nat) (w : World) (h1 : 0 < y) (hl : lo < 18446744073709551616) :
    Calls Try.prog 45 #[.int .u64 0, .int .u64 lo, .int .u64 y] w fun e w' => (∃ r : Int, e = .returned (.tuple #[.int .u64 ((lo / y : Nat) : Int), .int .u64 r])) ∧ ∃ n, w' = w.drewN n := by
  have e2 : ((y : Int) == 0) = false := by simp; omega
  have e4 : ¬ (y : Int) = 0 := by omega
  have hw : IntKind.u64.wrap ((lo : Int) / y) = ((lo / y : Nat) : Int) := wrap_quo lo y hl
  obtain ⟨q, hq⟩ : ∃ q : Nat, lo / y = q := ⟨_, rfl⟩
  rw [hq] at hw ⊢
  have y1 : (1 : Int) ≤ y := by omega
  clear hq h1 hl
  go_enter Try.func45, Try.ntmps45
  go_wp2
  go_quiet (fail)
  go_wp2
  go_ret2
  exact ⟨⟨_, rfl⟩, _, rfl⟩

/-- bits.Div64, wherever it does not panic: the quotient of a number of 128 bits. -/
theorem div_any (hi lo y : Nat) (w : World) (h1 : hi < y) (hy : y < 18446744073709551616) (hl : lo < 18446744073709551616) :
    Calls Try.prog 45 #[.int .u64 hi, .int .u64 lo, .int .u64 y] w fun e w' => (∃ r : Int, e = .returned (.tuple #[.int .u64 (((hi * 18446744073709551616 + lo) / y : Nat) : Int), .int .u64 r])) ∧ ∃ n, w' = w.drewN n := by
  rcases Nat.eq_zero_or_pos hi with rfl | h0
  · rw [Nat.zero_mul, Nat.zero_add]
    exact div_none lo y w (by omega) hl
  · exact (div_some hi lo y w h0 h1 hy hl).mono fun e w' ⟨h, hw⟩ => ⟨h, 0, hw⟩

set_option maxHeartbeats 400000 in
/-- share: a product, divided, where the answer has 64 bits. -/
theorem share_any (n b o : Nat) (w : World) (hn : n < 18446744073709551616) (hb : b < 18446744073709551616) (ho : o < 18446744073709551616) (h : n * b / 18446744073709551616 < o) :
    Calls Try.prog 42 #[.int .u64 n, .int .u64 b, .int .u64 o] w fun e w' => e = .returned (.int .u64 ((n * b / o : Nat) : Int)) ∧ ∃ n, w' = w.drewN n := by
  have M := mul_any n b hn hb
  have hm : n * b % 18446744073709551616 < 18446744073709551616 := Nat.mod_lt _ (by omega)
  have e : n * b / 18446744073709551616 * 18446744073709551616 + n * b % 18446744073709551616 = n * b := by omega
  have D := fun w => div_any (n * b / 18446744073709551616) (n * b % 18446744073709551616) o w h ho hm
  rw [e] at D
  generalize n * b / 18446744073709551616 = H at *
  generalize n * b % 18446744073709551616 = L at *
  generalize n * b / o = Q at *
  have HM : Hid (∀ w, _) := M
  have HD : Hid (∀ w, _) := D
  clear M D h hm e hn hb ho
  go_enter Try.func42, Try.ntmps42
  go_wp2_with (first | (go_at_call 44; refine (HM.out _).mono ?_; rintro e w' ⟨rfl, rfl⟩) | (go_at_call 45; refine (HD.out _).mono ?_; rintro e w' ⟨⟨r, rfl⟩, k, rfl⟩))
  go_ret
  exact ⟨rfl, _, rfl⟩

/-- How many hundredths of a whole a part is. -/
def pc (a b : Int) : Int := if a < 1 ∨ b < 1 then 0 else if b ≤ a then 100 else ((a.toNat * 100 / b.toNat : Nat) : Int)

theorem pc_le (a b : Int) : 0 ≤ pc a b ∧ pc a b ≤ 100 := by
  unfold pc
  split
  · omega
  · split
    · omega
    · have : a.toNat * 100 / b.toNat ≤ 100 := by
        rw [Nat.div_le_iff_le_mul_add_pred (by omega)]
        omega
      generalize a.toNat * 100 / b.toNat = Q at *
      omega

set_option maxHeartbeats 400000 in
theorem percent_any (a b : Int) (w : World) (ha : a ≤ 9223372036854775807) (hb : b ≤ 9223372036854775807) :
    Calls Try.prog 40 #[.int .i64 a, .int .i64 b] w fun e w' => e = .returned (.int .i64 (pc a b)) ∧ ∃ n, w' = w.drewN n := by
  by_cases h1 : a < 1
  · go_enter Try.func40, Try.ntmps40
    go_wp2
    go_ret
    exact ⟨ret_int (by rw [pc, if_pos (by omega)]), 0, rfl⟩
  by_cases h2 : b < 1
  · go_enter Try.func40, Try.ntmps40
    go_wp2
    go_ret
    exact ⟨ret_int (by rw [pc, if_pos (by omega)]), 0, rfl⟩
  by_cases h3 : b ≤ a
  · go_enter Try.func40, Try.ntmps40
    go_wp2
    go_ret
    exact ⟨ret_int (by rw [pc, if_neg (by omega), if_pos h3]), 0, rfl⟩
  · obtain ⟨x, rfl⟩ := Int.eq_ofNat_of_zero_le (show 0 ≤ a by omega)
    obtain ⟨y, rfl⟩ := Int.eq_ofNat_of_zero_le (show 0 ≤ b by omega)
    have hp : pc x y = ((x * 100 / y : Nat) : Int) := by rw [pc, if_neg (by omega), if_neg h3]; rfl
    have hq : x * 100 / y ≤ 100 := by
      rw [Nat.div_le_iff_le_mul_add_pred (by omega)]
      omega
    have S := fun w => share_any x 100 y w (by omega) (by omega) (by omega) (by omega)
    rw [hp]
    generalize x * 100 / y = Q at *
    have HS : Hid (∀ w, _) := S
    clear S hp
    go_enter Try.func40, Try.ntmps40
    go_wp2_with (go_at_call 42; refine (HS.out _).mono ?_; rintro e w' ⟨rfl, k, rfl⟩)
    go_ret
    exact ⟨rfl, _, rfl⟩

/-- So many hundredths of the way from one number to another one. -/
def sc (low high p : Int) : Int := if high < low ∨ p < 1 then low else if 100 ≤ p then high else low + (((high - low).toNat * p.toNat / 100 : Nat) : Int)

theorem way_val (low high : Int) (h1 : -9223372036854775808 ≤ low) (h2 : high ≤ 9223372036854775807) (h : low ≤ high) :
    IntKind.u64.wrap (IntKind.u64.wrap high - IntKind.u64.wrap low) = (((high - low).toNat : Nat) : Int) := by
  simp only [IntKind.wrap_u64]
  omega

theorem sum_val (low s : Int) (h0 : 0 ≤ s) (h1 : -9223372036854775808 ≤ low) (h2 : low + s ≤ 9223372036854775807) :
    wrap64 (IntKind.u64.wrap (IntKind.u64.wrap low + s)) = low + s := by
  simp only [IntKind.wrap_u64, wrap64]
  omega

set_option maxHeartbeats 400000 in
theorem scale_any (low high p : Int) (w : World) (hl : -9223372036854775808 ≤ low) (hl' : low ≤ 9223372036854775807) (hh : -9223372036854775808 ≤ high) (hh' : high ≤ 9223372036854775807) :
    Calls Try.prog 38 #[.int .i64 low, .int .i64 high, .int .i64 p] w fun e w' => e = .returned (.int .i64 (sc low high p)) ∧ ∃ n, w' = w.drewN n := by
  by_cases h1 : high < low
  · go_enter Try.func38, Try.ntmps38
    go_wp2
    go_ret
    exact ⟨ret_int (by rw [sc, if_pos (by omega)]), 0, rfl⟩
  by_cases h2 : p < 1
  · go_enter Try.func38, Try.ntmps38
    go_wp2
    go_ret
    exact ⟨ret_int (by rw [sc, if_pos (by omega)]), 0, rfl⟩
  by_cases h3 : 100 ≤ p
  · go_enter Try.func38, Try.ntmps38
    go_wp2
    go_ret
    exact ⟨ret_int (by rw [sc, if_neg (by omega), if_pos h3]), 0, rfl⟩
  · have hw := way_val low high hl hh' (by omega)
    obtain ⟨P, rfl⟩ := Int.eq_ofNat_of_zero_le (show 0 ≤ p by omega)
    have hp : sc low high P = low + (((high - low).toNat * P / 100 : Nat) : Int) := by rw [sc, if_neg (by omega), if_neg h3]; rfl
    have hW : ((high - low).toNat : Int) = high - low := by omega
    obtain ⟨D, hD⟩ : ∃ D, (high - low).toNat = D := ⟨_, rfl⟩
    rw [hp]
    rw [hD] at hw hW ⊢
    have hP : P ≤ 99 := by omega
    have le : D * P ≤ D * 99 := Nat.mul_le_mul_left D hP
    have b : D * P / 18446744073709551616 < 100 := by omega
    have S := fun w => share_any D P 100 w (by omega) (by omega) (by omega) b
    have sq : D * P / 100 ≤ D := by omega
    have sv := sum_val low ((D * P / 100 : Nat) : Int) (by omega) hl (by omega)
    generalize D * P / 100 = Q at *
    have HS : Hid (∀ w, _) := S
    have HV : Hid (_ = _) := sv
    clear S hp hD hW le b sv
    go_enter Try.func38, Try.ntmps38
    go_wp2_with (go_at_call 42; refine (HS.out _).mono ?_; rintro e w' ⟨rfl, k, rfl⟩)
    go_ret
    exact ⟨ret_int HV.out, _, rfl⟩
end Go.Proofs.Ytjfmokfjnjbheaa
