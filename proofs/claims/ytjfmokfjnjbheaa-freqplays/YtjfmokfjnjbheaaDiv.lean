/- What math/bits.Div64 answers, where the upper half of the dividend is above 0 and below the divisor. -/
import Derived.Test.YtjfmokfjnjbheaaRows
import Derived.Test.YtjfmokfjnjbheaaMath
import Derived.Test.YtjfmokfjnjbheaaBits
import Derived.WalkKit
import Derived.ProofKit
import Derived.OpenShut
import Derived.Laws.Bits64b
import Derived.Lib.Mul64
import Derived.BigQuiet
namespace Go.Proofs.Ytjfmokfjnjbheaa
open Go.ChangeShapes Go.WideShapes Go.ChangeAt Go.RowKit
open Ma
theorem prod_le {a Y p : Nat} (hp : a * Y = p) (ha : (a : Int) ≤ 4294967297) (hy : (Y : Int) ≤ 4294967295) : (p : Int) ≤ 18446744073709551615 := by
  have : p ≤ 4294967297 * 4294967295 := by rw [← hp]; exact Nat.mul_le_mul (by omega) (by omega)
  omega
theorem wrap_prod {a Y p : Nat} (hp : a * Y = p) (h : (p : Int) ≤ 18446744073709551615) : IntKind.u64.wrap ((a : Int) * Y) = (p : Int) := by
  rw [← Int.natCast_mul, hp]; exact wrapN p (by omega)
theorem pred_val {k : IntKind} {a : Nat} (h : 1 ≤ a) : Value.int k ((a : Int) - 1) = .int k ((a - 1 : Nat) : Int) := by
  congr 1; omega

set_option maxHeartbeats 4000000 in
theorem div_core (hi lo y s Y Y1 Y0 U V V1 V0 U2 q r q' r' Q1 Q0 Q : Nat) (w : World) (h0 : 0 < hi) (h1 : hi < y) (HS : Hid (y < 18446744073709551616 ∧ 64 - (Lib.bitLen y : Int) = s)) (hs4 : s ≤ 63)
   (d1 : Digit U V1 Y1 Y0) (d0 : Digit U2 V0 Y1 Y0) (n1 : Near U V1 Y1 Y0 q r) (n0 : Near U2 V0 Y1 Y0 q' r') (HQ1 : Hid (Q1 = quo U V1 Y1 Y0)) (HQ0 : Hid (Q0 = quo U2 V0 Y1 Y0)) (HQ : Hid (Q = Q1 * 4294967296 + Q0)) (k1 : (Q1 : Int) ≤ 4294967295) (k0 : (Q0 : Int) ≤ 4294967295)
   (hY : IntKind.u64.wrap (↑y * 2 ^ s) = (Y : Int)) (hY1 : (Y : Int) / 4294967296 = Y1) (hY0 : bits BinOp.and IntKind.u64 (↑Y) 4294967295 = Y0)
   (hU : bits BinOp.or IntKind.u64 (IntKind.u64.wrap (↑hi * 2 ^ s)) (↑lo / 2 ^ (64 - s)) = U)
   (hV : IntKind.u64.wrap (↑lo * 2 ^ s) = (V : Int)) (hV1 : (V : Int) / 4294967296 = V1) (hV0 : bits BinOp.and IntKind.u64 (↑V) 4294967295 = V0)
   (hq : IntKind.u64.wrap ((U : Int) / Y1) = (q : Int)) (hr : IntKind.u64.wrap ((U : Int) - IntKind.u64.wrap ((q : Int) * Y1)) = (r : Int))
   (h2 : IntKind.u64.wrap (IntKind.u64.wrap (IntKind.u64.wrap ((U : Int) * 4294967296) + V1) - IntKind.u64.wrap ((Q1 : Int) * Y)) = (U2 : Int))
   (hq' : IntKind.u64.wrap ((U2 : Int) / Y1) = (q' : Int)) (hr' : IntKind.u64.wrap ((U2 : Int) - IntKind.u64.wrap ((q' : Int) * Y1)) = (r' : Int)) :
    Calls Try.prog 45 #[.int .u64 hi, .int .u64 lo, .int .u64 y] w fun e w' => (∃ r : Int, e = .returned (.tuple #[.int .u64 Q, .int .u64 r])) ∧ w' = w := by
  have e1 : ((hi : Int) == 0) = false := by simp; omega
  have e2 : ((y : Int) == 0) = false := by simp; omega
  have e3 : (decide ((y : Int) ≤ hi)) = false := by simp; omega
  have b1 := d1.lo1
  have hz : ¬ (Y1 : Int) = 0 := by omega
  go_enter Try.func45, Try.ntmps45
  go_wp2_with (go_at_call 46; refine (lz_at y s _ HS.out.1 HS.out.2).mono ?_; rintro e w' ⟨rfl, rfl⟩)
  go_loop [15, 16] (fun a b => ∃ q r : Nat, Near U V1 Y1 Y0 q r ∧ a = .int .u64 q ∧ b = .int .u64 r) (fun a _ => (intOf a).toNat)
  case atStart => exact ⟨q, r, n1, rfl, rfl⟩
  case round =>
    obtain ⟨xa, xb, xn, rfl, rfl⟩ := hrel
    have xhb : (xb : Int) ≤ 4294967295 := by have := xn.r_lt; omega
    have xha : (xa : Int) ≤ 4294967297 := by have := xn.le; omega
    have xhv : (V1 : Int) ≤ 4294967295 := by have := d1.hiV; omega
    have xhy0 : (Y0 : Int) ≤ 4294967295 := by have := d1.hi0; omega
    have xhy1 : (Y1 : Int) ≤ 4294967295 := by have := d1.hi1; omega
    obtain ⟨xp, xhp⟩ : ∃ p : Nat, xa * Y0 = p := ⟨_, rfl⟩
    have xhpl : (xp : Int) ≤ 18446744073709551615 := prod_le xhp xha xhy0
    have xhw : IntKind.u64.wrap ((xa : Int) * Y0) = (xp : Int) := wrap_prod xhp xhpl
    have xHP : Hid (xa * Y0 = xp) := xhp
    clear xhp
    by_cases xc1 : (4294967296 : Int) ≤ xa
    · have xc : Hid (4294967296 ≤ xa ∨ 4294967296 * xb + V1 < xa * Y0) := Or.inl (by omega)
      by_cases xc3 : (4294967296 : Int) ≤ xb + Y1
      · have xhA : (xa : Int) - 1 = Q1 := by have := near_break d1 xn xc (by omega); have := (near_more d1 xn xc).2; rw [HQ1.out]; omega
        go_wp2_with fail
        go_loop [18, 16] (fun a b => ∃ q r : Nat, Near U2 V0 Y1 Y0 q r ∧ a = .int .u64 q ∧ b = .int .u64 r) (fun a _ => (intOf a).toNat)
        case atStart => exact ⟨q', r', n0, rfl, rfl⟩
        case round =>
          obtain ⟨za, zb, zn, rfl, rfl⟩ := hrel
          have zhb : (zb : Int) ≤ 4294967295 := by have := zn.r_lt; omega
          have zha : (za : Int) ≤ 4294967297 := by have := zn.le; omega
          have zhv : (V0 : Int) ≤ 4294967295 := by have := d0.hiV; omega
          have zhy0 : (Y0 : Int) ≤ 4294967295 := by have := d0.hi0; omega
          have zhy1 : (Y1 : Int) ≤ 4294967295 := by have := d0.hi1; omega
          obtain ⟨zp, zhp⟩ : ∃ p : Nat, za * Y0 = p := ⟨_, rfl⟩
          have zhpl : (zp : Int) ≤ 18446744073709551615 := prod_le zhp zha zhy0
          have zhw : IntKind.u64.wrap ((za : Int) * Y0) = (zp : Int) := wrap_prod zhp zhpl
          have zHP : Hid (za * Y0 = zp) := zhp
          clear zhp
          by_cases zc1 : (4294967296 : Int) ≤ za
          · have zc : Hid (4294967296 ≤ za ∨ 4294967296 * zb + V0 < za * Y0) := Or.inl (by omega)
            by_cases zc3 : (4294967296 : Int) ≤ zb + Y1
            · have zhA : (za : Int) - 1 = Q0 := by have := near_break d0 zn zc (by omega); have := (near_more d0 zn zc).2; rw [HQ0.out]; omega
              go_wp2_with fail
              go_ret2
              exact ⟨⟨_, ret_pair (by have := HQ.out; omega)⟩, rfl⟩
            · go_wp2
              go_round
              case rel => exact ⟨za - 1, zb + Y1, near_step d0 zn zc (by omega), pred_val (near_more d0 zn zc).2, by go_num⟩
              case measure => simp [intOf]; omega
          · by_cases zc2 : (4294967296 : Int) * zb + V0 < zp
            · have zc : Hid (4294967296 ≤ za ∨ 4294967296 * zb + V0 < za * Y0) := Or.inr (by rw [zHP.out]; omega)
              have zc4 : (1 : Int) ≤ za := by have := (near_more d0 zn zc).2; omega
              by_cases zc3 : (4294967296 : Int) ≤ zb + Y1
              · have zhA : (za : Int) - 1 = Q0 := by have := near_break d0 zn zc (by omega); have := (near_more d0 zn zc).2; rw [HQ0.out]; omega
                go_wp2_with fail
                go_ret2
                exact ⟨⟨_, ret_pair (by have := HQ.out; omega)⟩, rfl⟩
              · go_wp2
                go_round
                case rel => exact ⟨za - 1, zb + Y1, near_step d0 zn zc (by omega), pred_val (near_more d0 zn zc).2, by go_num⟩
                case measure => simp [intOf]; omega
            · have zhA : za = Q0 := by rw [HQ0.out]; exact near_end d0 zn (by rw [zHP.out]; omega)
              subst zhA
              go_wp2_with fail
              go_ret2
              exact ⟨⟨_, ret_pair (by have := HQ.out; omega)⟩, rfl⟩
      · go_wp2
        go_round
        case rel => exact ⟨xa - 1, xb + Y1, near_step d1 xn xc (by omega), pred_val (near_more d1 xn xc).2, by go_num⟩
        case measure => simp [intOf]; omega
    · by_cases xc2 : (4294967296 : Int) * xb + V1 < xp
      · have xc : Hid (4294967296 ≤ xa ∨ 4294967296 * xb + V1 < xa * Y0) := Or.inr (by rw [xHP.out]; omega)
        have xc4 : (1 : Int) ≤ xa := by have := (near_more d1 xn xc).2; omega
        by_cases xc3 : (4294967296 : Int) ≤ xb + Y1
        · have xhA : (xa : Int) - 1 = Q1 := by have := near_break d1 xn xc (by omega); have := (near_more d1 xn xc).2; rw [HQ1.out]; omega
          go_wp2_with fail
          go_loop [18, 16] (fun a b => ∃ q r : Nat, Near U2 V0 Y1 Y0 q r ∧ a = .int .u64 q ∧ b = .int .u64 r) (fun a _ => (intOf a).toNat)
          case atStart => exact ⟨q', r', n0, rfl, rfl⟩
          case round =>
            obtain ⟨za, zb, zn, rfl, rfl⟩ := hrel
            have zhb : (zb : Int) ≤ 4294967295 := by have := zn.r_lt; omega
            have zha : (za : Int) ≤ 4294967297 := by have := zn.le; omega
            have zhv : (V0 : Int) ≤ 4294967295 := by have := d0.hiV; omega
            have zhy0 : (Y0 : Int) ≤ 4294967295 := by have := d0.hi0; omega
            have zhy1 : (Y1 : Int) ≤ 4294967295 := by have := d0.hi1; omega
            obtain ⟨zp, zhp⟩ : ∃ p : Nat, za * Y0 = p := ⟨_, rfl⟩
            have zhpl : (zp : Int) ≤ 18446744073709551615 := prod_le zhp zha zhy0
            have zhw : IntKind.u64.wrap ((za : Int) * Y0) = (zp : Int) := wrap_prod zhp zhpl
            have zHP : Hid (za * Y0 = zp) := zhp
            clear zhp
            by_cases zc1 : (4294967296 : Int) ≤ za
            · have zc : Hid (4294967296 ≤ za ∨ 4294967296 * zb + V0 < za * Y0) := Or.inl (by omega)
              by_cases zc3 : (4294967296 : Int) ≤ zb + Y1
              · have zhA : (za : Int) - 1 = Q0 := by have := near_break d0 zn zc (by omega); have := (near_more d0 zn zc).2; rw [HQ0.out]; omega
                go_wp2_with fail
                go_ret2
                exact ⟨⟨_, ret_pair (by have := HQ.out; omega)⟩, rfl⟩
              · go_wp2
                go_round
                case rel => exact ⟨za - 1, zb + Y1, near_step d0 zn zc (by omega), pred_val (near_more d0 zn zc).2, by go_num⟩
                case measure => simp [intOf]; omega
            · by_cases zc2 : (4294967296 : Int) * zb + V0 < zp
              · have zc : Hid (4294967296 ≤ za ∨ 4294967296 * zb + V0 < za * Y0) := Or.inr (by rw [zHP.out]; omega)
                have zc4 : (1 : Int) ≤ za := by have := (near_more d0 zn zc).2; omega
                by_cases zc3 : (4294967296 : Int) ≤ zb + Y1
                · have zhA : (za : Int) - 1 = Q0 := by have := near_break d0 zn zc (by omega); have := (near_more d0 zn zc).2; rw [HQ0.out]; omega
                  go_wp2_with fail
                  go_ret2
                  exact ⟨⟨_, ret_pair (by have := HQ.out; omega)⟩, rfl⟩
                · go_wp2
                  go_round
                  case rel => exact ⟨za - 1, zb + Y1, near_step d0 zn zc (by omega), pred_val (near_more d0 zn zc).2, by go_num⟩
                  case measure => simp [intOf]; omega
              · have zhA : za = Q0 := by rw [HQ0.out]; exact near_end d0 zn (by rw [zHP.out]; omega)
                subst zhA
                go_wp2_with fail
                go_ret2
                exact ⟨⟨_, ret_pair (by have := HQ.out; omega)⟩, rfl⟩
        · go_wp2
          go_round
          case rel => exact ⟨xa - 1, xb + Y1, near_step d1 xn xc (by omega), pred_val (near_more d1 xn xc).2, by go_num⟩
          case measure => simp [intOf]; omega
      · have xhA : xa = Q1 := by rw [HQ1.out]; exact near_end d1 xn (by rw [xHP.out]; omega)
        subst xhA
        go_wp2_with fail
        go_loop [18, 16] (fun a b => ∃ q r : Nat, Near U2 V0 Y1 Y0 q r ∧ a = .int .u64 q ∧ b = .int .u64 r) (fun a _ => (intOf a).toNat)
        case atStart => exact ⟨q', r', n0, rfl, rfl⟩
        case round =>
          obtain ⟨za, zb, zn, rfl, rfl⟩ := hrel
          have zhb : (zb : Int) ≤ 4294967295 := by have := zn.r_lt; omega
          have zha : (za : Int) ≤ 4294967297 := by have := zn.le; omega
          have zhv : (V0 : Int) ≤ 4294967295 := by have := d0.hiV; omega
          have zhy0 : (Y0 : Int) ≤ 4294967295 := by have := d0.hi0; omega
          have zhy1 : (Y1 : Int) ≤ 4294967295 := by have := d0.hi1; omega
          obtain ⟨zp, zhp⟩ : ∃ p : Nat, za * Y0 = p := ⟨_, rfl⟩
          have zhpl : (zp : Int) ≤ 18446744073709551615 := prod_le zhp zha zhy0
          have zhw : IntKind.u64.wrap ((za : Int) * Y0) = (zp : Int) := wrap_prod zhp zhpl
          have zHP : Hid (za * Y0 = zp) := zhp
          clear zhp
          by_cases zc1 : (4294967296 : Int) ≤ za
          · have zc : Hid (4294967296 ≤ za ∨ 4294967296 * zb + V0 < za * Y0) := Or.inl (by omega)
            by_cases zc3 : (4294967296 : Int) ≤ zb + Y1
            · have zhA : (za : Int) - 1 = Q0 := by have := near_break d0 zn zc (by omega); have := (near_more d0 zn zc).2; rw [HQ0.out]; omega
              go_wp2_with fail
              go_ret2
              exact ⟨⟨_, ret_pair (by have := HQ.out; omega)⟩, rfl⟩
            · go_wp2
              go_round
              case rel => exact ⟨za - 1, zb + Y1, near_step d0 zn zc (by omega), pred_val (near_more d0 zn zc).2, by go_num⟩
              case measure => simp [intOf]; omega
          · by_cases zc2 : (4294967296 : Int) * zb + V0 < zp
            · have zc : Hid (4294967296 ≤ za ∨ 4294967296 * zb + V0 < za * Y0) := Or.inr (by rw [zHP.out]; omega)
              have zc4 : (1 : Int) ≤ za := by have := (near_more d0 zn zc).2; omega
              by_cases zc3 : (4294967296 : Int) ≤ zb + Y1
              · have zhA : (za : Int) - 1 = Q0 := by have := near_break d0 zn zc (by omega); have := (near_more d0 zn zc).2; rw [HQ0.out]; omega
                go_wp2_with fail
                go_ret2
                exact ⟨⟨_, ret_pair (by have := HQ.out; omega)⟩, rfl⟩
              · go_wp2
                go_round
                case rel => exact ⟨za - 1, zb + Y1, near_step d0 zn zc (by omega), pred_val (near_more d0 zn zc).2, by go_num⟩
                case measure => simp [intOf]; omega
            · have zhA : za = Q0 := by rw [HQ0.out]; exact near_end d0 zn (by rw [zHP.out]; omega)
              subst zhA
              go_wp2_with fail
              go_ret2
              exact ⟨⟨_, ret_pair (by have := HQ.out; omega)⟩, rfl⟩

theorem wrap_rest (U q Y1 r : Nat) (h : q * Y1 + r = U) (hU : U < 18446744073709551616) : IntKind.u64.wrap ((U : Int) - IntKind.u64.wrap ((q : Int) * Y1)) = (r : Int) := by
  rw [← Int.natCast_mul]
  generalize q * Y1 = A at *
  simp only [IntKind.wrap_u64]
  omega

theorem wrap_rem (U V Q Y r : Nat) (h : Y * Q + r = U * 4294967296 + V) (hr : r < 18446744073709551616) : IntKind.u64.wrap (IntKind.u64.wrap (IntKind.u64.wrap ((U : Int) * 4294967296) + V) - IntKind.u64.wrap ((Q : Int) * Y)) = (r : Int) := by
  rw [← Int.natCast_mul, Nat.mul_comm Q Y]
  generalize Y * Q = A at *
  simp only [IntKind.wrap_u64]
  omega

theorem wrap_quo (U Y1 : Nat) (hU : U < 18446744073709551616) : IntKind.u64.wrap ((U : Int) / Y1) = ((U / Y1 : Nat) : Int) := by
  rw [← Int.natCast_ediv]
  exact wrapN _ (Nat.lt_of_le_of_lt (Nat.div_le_self _ _) hU)

theorem quo_eq (U V Y Y1 Y0 : Nat) (h : Y1 * 4294967296 + Y0 = Y) : quo U V Y1 Y0 = (U * 4294967296 + V) / Y ∧ rem U V Y1 Y0 = (U * 4294967296 + V) % Y := by
  unfold quo rem; rw [h]; exact ⟨rfl, rfl⟩

theorem split32 (V : Nat) : V / 4294967296 * 4294967296 + V % 4294967296 = V := by omega

/-- bits.Div64, where the upper half is not 0. -/
theorem div_some (hi lo y : Nat) (w : World) (h0 : 0 < hi) (h1 : hi < y) (hy : y < 18446744073709551616) (hl : lo < 18446744073709551616) :
    Calls Try.prog 45 #[.int .u64 hi, .int .u64 lo, .int .u64 y] w fun e w' => (∃ r : Int, e = .returned (.tuple #[.int .u64 (((hi * 18446744073709551616 + lo) / y : Nat) : Int), .int .u64 r])) ∧ w' = w := by
  obtain ⟨s, hs, hs2, hY1, hY2⟩ := norm_spec y (by omega) hy
  obtain ⟨ho, hU, hN⟩ := shift_spec hi lo y s h1 hl hs
  have hq := div_shift (hi * 18446744073709551616 + lo) y s
  have hhi : hi * 2 ^ s < 18446744073709551616 := Nat.lt_of_le_of_lt (Nat.le_add_right _ _) (Nat.lt_trans hU hY2)
  have hlo : lo / 2 ^ (64 - s) < 18446744073709551616 := Nat.lt_of_le_of_lt (Nat.div_le_self _ _) hl
  have wY : IntKind.u64.wrap (↑y * 2 ^ s) = ((y * 2 ^ s : Nat) : Int) := by
    have := wrapN (y * 2 ^ s) hY2
    simpa using this
  have wV : IntKind.u64.wrap (↑lo * 2 ^ s) = ((lo * 2 ^ s % 18446744073709551616 : Nat) : Int) := by
    have : IntKind.u64.wrap ((lo * 2 ^ s : Nat) : Int) = ((lo * 2 ^ s % 18446744073709551616 : Nat) : Int) := by
      rw [IntKind.wrap_u64]; omega
    simpa using this
  have wU : bits BinOp.or IntKind.u64 (IntKind.u64.wrap (↑hi * 2 ^ s)) (↑lo / 2 ^ (64 - s)) = ((hi * 2 ^ s + lo / 2 ^ (64 - s) : Nat) : Int) := by
    have a := wrapN (hi * 2 ^ s) hhi
    have b := bits_or_u64_nat (hi * 2 ^ s) (lo / 2 ^ (64 - s)) hhi hlo
    rw [ho] at b
    rw [← b]
    congr 1
  rw [← hq, ← hN]
  clear hq hN ho hhi hlo
  generalize hi * 2 ^ s + lo / 2 ^ (64 - s) = U at *
  have hV : lo * 2 ^ s % 18446744073709551616 < 18446744073709551616 := Nat.mod_lt _ (by omega)
  generalize lo * 2 ^ s % 18446744073709551616 = V at *
  generalize y * 2 ^ s = Y at *
  have d1 : Digit U (V / 4294967296) (Y / 4294967296) (Y % 4294967296) := ⟨by omega, by omega, by omega, by omega, by omega⟩
  obtain ⟨k1, k2⟩ := quo_eq U (V / 4294967296) Y _ _ (split32 Y)
  have hm : rem U (V / 4294967296) (Y / 4294967296) (Y % 4294967296) < Y := by rw [k2]; exact Nat.mod_lt _ (by omega)
  have dm : Y * quo U (V / 4294967296) (Y / 4294967296) (Y % 4294967296) + rem U (V / 4294967296) (Y / 4294967296) (Y % 4294967296) = U * 4294967296 + V / 4294967296 := by rw [k1, k2]; exact Nat.div_add_mod _ _
  have t := two_digits U (V / 4294967296) (V % 4294967296) Y (by omega)
  obtain ⟨k3, k4⟩ := quo_eq (rem U (V / 4294967296) (Y / 4294967296) (Y % 4294967296)) (V % 4294967296) Y _ _ (split32 Y)
  rw [split32 V, ← k1, ← k2, ← k3] at t
  have T : Hid (_ = _) := t.symm
  clear t k1 k2 k3 k4
  have q1 := quo_lt d1
  have hU' : U < 18446744073709551616 := by omega
  generalize rem U (V / 4294967296) (Y / 4294967296) (Y % 4294967296) = R at *
  have d0 : Digit R (V % 4294967296) (Y / 4294967296) (Y % 4294967296) := ⟨by omega, by omega, by omega, by omega, by omega⟩
  have q0 := quo_lt d0
  exact div_core hi lo y s Y (Y / 4294967296) (Y % 4294967296) U V (V / 4294967296) (V % 4294967296) R _ _ _ _ _ _ _ w h0 h1 ⟨hy, hs2⟩ hs d1 d0 (near_start d1) (near_start d0) rfl rfl T (by omega) (by omega)
    wY (by omega) (mask32 Y hY2) wU wV (by omega) (mask32 V hV)
    (wrap_quo U _ hU') (wrap_rest _ _ _ _ (near_start d1).sum hU')
    (wrap_rem _ _ _ _ _ dm (by omega))
    (wrap_quo _ _ (by omega)) (wrap_rest _ _ _ _ (near_start d0).sum (by omega))


end Go.Proofs.Ytjfmokfjnjbheaa
