/- What num's Clamp and the document's Clamp, part, Percent, Scale and Log answer, for all numbers that their types hold. -/
import Derived.Test.YtojpeanakjefoabRows
import Derived.Test.YtojpeanakjefoabKnown
import Derived.WalkKit
import Derived.ProofKit
import Derived.OpenShut
namespace Go.Proofs.Ytojpeanakjefoab
open Go.ChangeShapes Go.WideShapes Go.ChangeAt Go.RowKit

/-- The nearest number within others. -/
def cl (n low high : Int) : Int := if high < low ∨ n < low then low else if high < n then high else n

set_option maxHeartbeats 400000 in
theorem clamp_any (n l h : Int) (w : World) :
    Calls Try.prog 6 #[.int .i64 n, .int .i64 l, .int .i64 h] w fun e w' => e = .returned (.int .i64 (cl n l h)) ∧ w' = w := by
  go_enter Try.func6, Try.ntmps6
  go_wp2
  all_goals
    go_ret
    refine ⟨ret_int ?_, rfl⟩
    unfold cl
    split <;> (try split) <;> omega

set_option maxHeartbeats 400000 in
theorem refclamp_any (n l h : Int) (w : World) :
    Calls Try.prog 7 #[.int .i64 n, .int .i64 l, .int .i64 h] w fun e w' => e = .returned (.int .i64 (cl n l h)) ∧ w' = w := by
  go_enter Try.func7, Try.ntmps7
  go_wp2
  all_goals
    go_ret
    refine ⟨ret_int ?_, rfl⟩
    unfold cl
    split <;> (try split) <;> omega

/-- So far the digits: n times k is o times Q and a rest R. -/
structure Far (n o k Q R : Nat) : Prop where
  sum : o * Q + R = n * k
  rest : R < o
  few : Q ≤ k

theorem far_more {n o k Q R : Nat} (f : Far n o k Q R) (hn : n < o) (h : o - n ≤ R) : Far n o (k + 1) (Q + 1) (R - (o - n)) := by
  have a := f.sum
  have b := f.rest
  have c := f.few
  refine ⟨?_, by omega, by omega⟩
  rw [Nat.mul_add, Nat.mul_add]
  omega

theorem far_same {n o k Q R : Nat} (f : Far n o k Q R) (hn : n < o) (h : R < o - n) : Far n o (k + 1) Q (R + n) := by
  have a := f.sum
  have b := f.rest
  have c := f.few
  refine ⟨?_, by omega, by omega⟩
  rw [Nat.mul_add]
  omega

theorem far_end {n o k Q R : Nat} (f : Far n o k Q R) : n * k / o = Q := by
  have b := f.rest
  rw [← f.sum, Nat.mul_add_div (by omega), Nat.div_eq_of_lt b, Nat.add_zero]

set_option maxHeartbeats 400000 in
theorem refpart_any (n t o Q0 : Nat) (w : World) (hn : n < o) (ho : (o : Int) ≤ 9223372036854775807) (ht : (t : Int) ≤ 100) (HQ : Hid (n * t / o = Q0)) :
    Calls Try.prog 16 #[.int .u64 n, .int .u64 t, .int .u64 o] w fun e w' => e = .returned (.int .u64 Q0) ∧ w' = w := by
  have hno : (n : Int) < o := by omega
  go_enter Try.func16, Try.ntmps16
  go_wp2
  go_loop [7, 8, 9] (fun q r i => ∃ k Q R : Nat, (k : Int) ≤ t ∧ Far n o k Q R ∧ q = .int .u64 Q ∧ r = .int .u64 R ∧ i = .int .u64 k) (fun _ _ i => t - (intOf i).toNat)
  case atStart => exact ⟨0, 0, 0, by omega, ⟨by simp, by omega, by omega⟩, rfl, rfl, rfl⟩
  case round =>
    obtain ⟨k, Q, R, hk, f, rfl, rfl, rfl⟩ := hrel
    have b : (R : Int) < o := by have := f.rest; omega
    have c : (Q : Int) ≤ k := by have := f.few; omega
    by_cases hlt : (k : Int) < t
    · by_cases h : (o : Int) - n ≤ R
      · go_wp2
        go_round
        case rel => exact ⟨k + 1, Q + 1, R - (o - n), by omega, far_more f hn (by omega), by go_num, by go_num, by go_num⟩
        case measure => simp [intOf]; omega
      · go_wp2
        go_round
        case rel => exact ⟨k + 1, Q, R + n, by omega, far_same f hn (by omega), rfl, by go_num, by go_num⟩
        case measure => simp [intOf]; omega
    · obtain rfl : k = t := by omega
      have e := far_end f
      rw [HQ.out] at e
      subst e
      go_wp2
      go_ret
      exact ⟨rfl, rfl⟩

set_option maxHeartbeats 400000 in
theorem refpercent_any (a b : Int) (w : World) (ha : a ≤ 9223372036854775807) (hb : b ≤ 9223372036854775807) :
    Calls Try.prog 9 #[.int .i64 a, .int .i64 b] w fun e w' => e = .returned (.int .i64 (pc a b)) ∧ w' = w := by
  by_cases h1 : a < 1
  · go_enter Try.func9, Try.ntmps9
    go_wp2
    go_ret
    exact ⟨ret_int (by rw [pc, if_pos (by omega)]), rfl⟩
  by_cases h2 : b < 1
  · go_enter Try.func9, Try.ntmps9
    go_wp2
    go_ret
    exact ⟨ret_int (by rw [pc, if_pos (by omega)]), rfl⟩
  by_cases h3 : b ≤ a
  · go_enter Try.func9, Try.ntmps9
    go_wp2
    go_ret
    exact ⟨ret_int (by rw [pc, if_neg (by omega), if_pos h3]), rfl⟩
  · obtain ⟨x, rfl⟩ := Int.eq_ofNat_of_zero_le (show 0 ≤ a by omega)
    obtain ⟨y, rfl⟩ := Int.eq_ofNat_of_zero_le (show 0 ≤ b by omega)
    have hp : pc x y = ((x * 100 / y : Nat) : Int) := by rw [pc, if_neg (by omega), if_neg h3]; rfl
    have hq : x * 100 / y ≤ 100 := by
      rw [Nat.div_le_iff_le_mul_add_pred (by omega)]
      omega
    obtain ⟨Q, hQ⟩ : ∃ Q, x * 100 / y = Q := ⟨_, rfl⟩
    have S : Hid (∀ w, _) := fun w => refpart_any x 100 y Q w (by omega) (by omega) (by omega) hQ
    rw [hQ] at hp hq
    rw [hp]
    clear hp hQ
    go_enter Try.func9, Try.ntmps9
    go_wp2_with (go_at_call 16; refine (S.out _).mono ?_; rintro e w' ⟨rfl, rfl⟩)
    go_ret
    exact ⟨rfl, rfl⟩

theorem parts_val (D P : Nat) : D / 100 * P + D % 100 * P / 100 = D * P / 100 := by
  have e : D * P = 100 * (D / 100 * P) + D % 100 * P := by
    rw [← Nat.mul_assoc, ← Nat.add_mul]
    congr 1
    omega
  rw [e, Nat.mul_add_div (by omega)]

theorem sum3_val (low : Int) (A B : Nat) (hA : (A : Int) ≤ 18446744073709551615) (hB : (B : Int) ≤ 9801) (h1 : -9223372036854775808 ≤ low) (h2 : low + (A + B / 100 : Nat) ≤ 9223372036854775807) :
    wrap64 (IntKind.u64.wrap (IntKind.u64.wrap (IntKind.u64.wrap low + A) + IntKind.u64.wrap ((B : Int) / 100))) = low + (A + B / 100 : Nat) := by
  simp only [IntKind.wrap_u64, wrap64]
  omega

set_option maxHeartbeats 400000 in
theorem refscale_any (low high p : Int) (w : World) (hl : -9223372036854775808 ≤ low) (hl' : low ≤ 9223372036854775807) (hh : -9223372036854775808 ≤ high) (hh' : high ≤ 9223372036854775807) :
    Calls Try.prog 14 #[.int .i64 low, .int .i64 high, .int .i64 p] w fun e w' => e = .returned (.int .i64 (sc low high p)) ∧ w' = w := by
  by_cases h1 : high < low
  · go_enter Try.func14, Try.ntmps14
    go_wp2
    go_ret
    exact ⟨ret_int (by rw [sc, if_pos (by omega)]), rfl⟩
  by_cases h2 : p < 1
  · go_enter Try.func14, Try.ntmps14
    go_wp2
    go_ret
    exact ⟨ret_int (by rw [sc, if_pos (by omega)]), rfl⟩
  by_cases h3 : 100 ≤ p
  · go_enter Try.func14, Try.ntmps14
    go_wp2
    go_ret
    exact ⟨ret_int (by rw [sc, if_neg (by omega), if_pos h3]), rfl⟩
  · have hw := way_val low high hl hh' (by omega)
    obtain ⟨P, rfl⟩ := Int.eq_ofNat_of_zero_le (show 0 ≤ p by omega)
    have hp : sc low high P = low + (((high - low).toNat * P / 100 : Nat) : Int) := by rw [sc, if_neg (by omega), if_neg h3]; rfl
    have hW : ((high - low).toNat : Int) = high - low := by omega
    obtain ⟨D, hD⟩ : ∃ D, (high - low).toNat = D := ⟨_, rfl⟩
    rw [hp]
    rw [hD] at hw hW ⊢
    have hP : P ≤ 99 := by omega
    have le : D * P ≤ D * 99 := Nat.mul_le_mul_left D hP
    have sq : D * P / 100 ≤ D := by omega
    rw [← parts_val] at sq ⊢
    have bB : D % 100 * P ≤ 99 * 99 := Nat.mul_le_mul (by omega) hP
    have wA : IntKind.u64.wrap ((D : Int) / 100 * P) = ((D / 100 * P : Nat) : Int) := by
      have := wrapN (D / 100 * P) (by omega)
      simpa using this
    have wB : IntKind.u64.wrap ((D : Int) % 100 * P) = ((D % 100 * P : Nat) : Int) := by
      have := wrapN (D % 100 * P) (by omega)
      simpa using this
    generalize D / 100 * P = A at *
    generalize D % 100 * P = B at *
    have sv : Hid (_ = _) := sum3_val low A B (by omega) (by omega) hl (by omega)
    generalize low + ((A + B / 100 : Nat) : Int) = V at *
    have hDb : (D : Int) ≤ 18446744073709551615 := by omega
    clear hp hD hW le sq bB hP
    go_enter Try.func14, Try.ntmps14
    go_wp2
    go_ret
    exact ⟨ret_int sv.out, rfl⟩

set_option maxHeartbeats 400000 in
theorem reflog_any (n : Int) (w : World) (hn : n ≤ 9223372036854775807) :
    Calls Try.prog 11 #[.int .i64 n] w fun e w' => e = .returned (.int .i64 (lg n)) ∧ w' = w := by
  by_cases h1 : n < 1
  · have e : lg n = -1 := by rw [lg, show n.toNat = 0 by omega]; rfl
    rw [e]
    go_enter Try.func11, Try.ntmps11
    go_wp2
    go_loop [0, 3] (fun a k => a = .int .i64 n ∧ k = .int .i64 (-1)) (fun _ _ => 0)
    case atStart => exact ⟨rfl, rfl⟩
    case round =>
      obtain ⟨rfl, rfl⟩ := hrel
      go_wp2
      go_ret
      exact ⟨rfl, rfl⟩
  · obtain ⟨x, rfl⟩ := Int.eq_ofNat_of_zero_le (show 0 ≤ n by omega)
    obtain ⟨L, hL⟩ : ∃ L, lg x = L := ⟨_, rfl⟩
    have HL : Hid (lg x = L) := hL
    rw [hL]
    clear hL
    go_enter Try.func11, Try.ntmps11
    go_wp2
    go_loop [0, 3] (fun a k => ∃ (m : Nat) (c : Int), (m : Int) ≤ 9223372036854775807 ∧ -1 ≤ c ∧ c ≤ 63 ∧ Hid (c + Lib.bitLen m = L) ∧ a = .int .i64 m ∧ k = .int .i64 c) (fun a _ => (intOf a).toNat)
    case atStart => exact ⟨x, -1, by omega, by omega, by omega, by have := HL.out; rw [lg, Int.toNat_natCast] at this; show (_ = _); omega, rfl, rfl⟩
    case round =>
      obtain ⟨m, c, hm, c0, c1, H, rfl, rfl⟩ := hrel
      by_cases h : (0 : Int) < m
      · have bl := Lib.bitLen_half m (by omega) (by omega)
        have hb := Lib.bitLen_le x 63 (by omega) (by omega)
        have hLb : L ≤ 62 := by have := HL.out; rw [lg, Int.toNat_natCast] at this; omega
        have c2 : c ≤ 61 := by have := H.out; omega
        have H2 : Hid (c + 1 + Lib.bitLen (m / 2) = L) := by have := H.out; show (_ = _); omega
        clear bl hb hLb
        go_wp2
        go_round
        case rel => exact ⟨m / 2, c + 1, by omega, by omega, by omega, H2, by go_num, by go_num⟩
        case measure => simp [intOf]; omega
      · obtain rfl : m = 0 := by omega
        obtain rfl : c = L := by have := H.out; rw [show Lib.bitLen 0 = 0 from rfl] at this; omega
        go_wp2
        go_ret
        exact ⟨rfl, rfl⟩
/-- A greater part is no smaller hundredths. -/
theorem pc_rise (a b c : Int) (h : a ≤ b) : pc a c ≤ pc b c := by
  have p := pc_le b c
  have q := pc_le a c
  by_cases h1 : a < 1 ∨ c < 1
  · rw [show pc a c = 0 by rw [pc, if_pos h1]]; exact p.1
  · by_cases h2 : c ≤ b
    · rw [show pc b c = 100 by rw [pc, if_neg (by omega), if_pos h2]]; exact q.2
    · have e1 : pc a c = ((a.toNat * 100 / c.toNat : Nat) : Int) := by rw [pc, if_neg h1, if_neg (by omega)]
      have e2 : pc b c = ((b.toNat * 100 / c.toNat : Nat) : Int) := by rw [pc, if_neg (by omega), if_neg h2]
      have l : a.toNat * 100 / c.toNat ≤ b.toNat * 100 / c.toNat := Nat.div_le_div_right (by omega)
      rw [e1, e2]
      exact Int.ofNat_le.2 l

theorem sc_low (l h p : Int) (c : h < l) : sc l h p = l := by rw [sc, if_pos (Or.inl c)]

theorem way_le (D P : Nat) (hP : P ≤ 100) : D * P / 100 ≤ D := by
  have : D * P ≤ D * 100 := Nat.mul_le_mul_left D hP
  omega

theorem sc_in (l h p : Int) (c : l ≤ h) : l ≤ sc l h p ∧ sc l h p ≤ h := by
  unfold sc
  split
  · omega
  · split
    · omega
    · have := way_le (h - l).toNat p.toNat (by omega)
      generalize (h - l).toNat * p.toNat / 100 = Q at *
      omega

theorem sc_rise (l h p q : Int) (c : l ≤ h) (d : p ≤ q) : sc l h p ≤ sc l h q := by
  have a := sc_in l h p c
  have b := sc_in l h q c
  by_cases h1 : p < 1
  · rw [show sc l h p = l by rw [sc, if_pos (Or.inr h1)]]; exact b.1
  · by_cases h2 : 100 ≤ q
    · rw [show sc l h q = h by rw [sc, if_neg (by omega), if_pos h2]]; exact a.2
    · have e1 : sc l h p = l + (((h - l).toNat * p.toNat / 100 : Nat) : Int) := by rw [sc, if_neg (by omega), if_neg (by omega)]
      have e2 : sc l h q = l + (((h - l).toNat * q.toNat / 100 : Nat) : Int) := by rw [sc, if_neg (by omega), if_neg h2]
      have m : (h - l).toNat * p.toNat ≤ (h - l).toNat * q.toNat := Nat.mul_le_mul_left _ (by omega)
      rw [e1, e2]
      omega
end Go.Proofs.Ytojpeanakjefoab
