/- What math/bits.LeadingZeros64 and math/bits.Mul64 answer, for every number of 64 bits. -/
import Derived.Test.YtjfmokfjnjbheaaRows
import Derived.Test.YtjfmokfjnjbheaaMath
import Derived.Test.YtjfmokfjnjbheaaLen
import Derived.WalkKit
import Derived.ProofKit
import Derived.OpenShut
import Derived.Laws.Bits64b
import Derived.Lib.Mul64
import Derived.BigQuiet
namespace Go.Proofs.Ytjfmokfjnjbheaa
open Go.ChangeShapes Go.WideShapes Go.ChangeAt Go.RowKit
open Ma
theorem wrapN (a : Nat) (ha : a < 18446744073709551616) : IntKind.u64.wrap (a : Int) = (a : Int) := by rw [IntKind.wrap_u64]; omega

theorem ret_pair {k : IntKind} {a b c : Int} (h : a = b) : Ending.returned (.tuple #[.int k a, .int k c]) = .returned (.tuple #[.int k b, .int k c]) := by rw [h]
theorem mask32 (a : Nat) (ha : a < 18446744073709551616) : bits .and .u64 (a : Int) 4294967295 = ((a % 4294967296 : Nat) : Int) := by
  have h := bits_and_u64_nat a 4294967295 ha (by omega)
  have e : a &&& 4294967295 = a % 4294967296 := Nat.and_two_pow_sub_one_eq_mod a 32
  rw [e] at h
  exact h


theorem ret_int {k : IntKind} {a b : Int} (h : a = b) : Ending.returned (.int k a) = .returned (.int k b) := by rw [h]
theorem ret_two {k : IntKind} {a b c d : Int} (h : a = b) (g : c = d) : Ending.returned (.tuple #[.int k a, .int k c]) = .returned (.tuple #[.int k b, .int k d]) := by rw [h, g]

theorem len_any (x : Nat) (w : World) (hx : x < 18446744073709551616) :
    Calls Try.prog 47 #[.int .u64 x] w fun e w' => e = .returned (.int .i64 (Lib.bitLen x)) ∧ w' = w :=
  len_int x w (by omega) (by omega)

set_option maxHeartbeats 400000 in
theorem lz_at (y s : Nat) (w : World) (hy : y < 18446744073709551616) (h : 64 - (Lib.bitLen y : Int) = s) :
    Calls Try.prog 46 #[.int .u64 y] w fun e w' => e = .returned (.int .i64 s) ∧ w' = w := by
  obtain ⟨L, hL⟩ : ∃ L, Lib.bitLen y = L := ⟨_, rfl⟩
  have hb := Lib.bitLen_le y 64 (by omega) (by omega)
  rw [hL] at h hb
  have HL : Hid (Lib.bitLen y = L) := hL
  have HY : Hid (y < 18446744073709551616) := hy
  clear hL hy
  go_enter Try.func46, Try.ntmps46
  go_wp2_with (go_at_call 47; refine (len_any y _ HY.out).mono ?_; rintro e w' ⟨rfl, rfl⟩; rw [HL.out])
  go_ret
  exact ⟨rfl, rfl⟩

theorem divN (a : Nat) : (a : Int) / 4294967296 = ((a / 4294967296 : Nat) : Int) := by omega
theorem mulN (a b : Nat) : (a : Int) * (b : Int) = ((a * b : Nat) : Int) := (Int.natCast_mul a b).symm
theorem addN (a b : Nat) : (a : Int) + (b : Int) = ((a + b : Nat) : Int) := (Int.natCast_add a b).symm
theorem wrapM (a : Nat) : IntKind.u64.wrap (a : Int) = ((a % 18446744073709551616 : Nat) : Int) := by rw [IntKind.wrap_u64]; omega

/-- The upper half of a product of two words, by the school method on their halves: no step of it wraps. -/
theorem mul_hi_val (x y : Nat) (hx : x < 18446744073709551616) (hy : y < 18446744073709551616) :
    IntKind.u64.wrap (IntKind.u64.wrap (IntKind.u64.wrap (↑x / 4294967296 * (↑y / 4294967296)) + IntKind.u64.wrap (IntKind.u64.wrap (↑x / 4294967296 * bits BinOp.and IntKind.u64 (↑y) 4294967295) + IntKind.u64.wrap (bits BinOp.and IntKind.u64 (↑x) 4294967295 * bits BinOp.and IntKind.u64 (↑y) 4294967295) / 4294967296) / 4294967296) + IntKind.u64.wrap (bits BinOp.and IntKind.u64 (IntKind.u64.wrap (IntKind.u64.wrap (↑x / 4294967296 * bits BinOp.and IntKind.u64 (↑y) 4294967295) + IntKind.u64.wrap (bits BinOp.and IntKind.u64 (↑x) 4294967295 * bits BinOp.and IntKind.u64 (↑y) 4294967295) / 4294967296)) 4294967295 + IntKind.u64.wrap (bits BinOp.and IntKind.u64 (↑x) 4294967295 * (↑y / 4294967296))) / 4294967296) = ((x * y / 18446744073709551616 : Nat) : Int) := by
  obtain ⟨bd, bt, bw, hhi⟩ := Lib.mul64_hi x y hx hy
  have ba := Lib.half_mul_le (a := x / 4294967296) (b := y / 4294967296) (by omega) (by omega)
  have bb := Lib.half_mul_le (a := x / 4294967296) (b := y % 4294967296) (by omega) (by omega)
  have bc := Lib.half_mul_le (a := x % 4294967296) (b := y / 4294967296) (by omega) (by omega)
  rw [mask32 x hx, mask32 y hy, divN x, divN y, ← hhi]
  simp only [mulN]
  generalize x / 4294967296 * (y / 4294967296) = p11 at *
  generalize x / 4294967296 * (y % 4294967296) = p10 at *
  generalize x % 4294967296 * (y / 4294967296) = p01 at *
  generalize x % 4294967296 * (y % 4294967296) = w0 at *
  have e : IntKind.u64.wrap (IntKind.u64.wrap (p10 : Int) + IntKind.u64.wrap (w0 : Int) / 4294967296) = ((p10 + w0 / 4294967296 : Nat) : Int) := by
    simp only [IntKind.wrap_u64]; omega
  rw [e, mask32 _ bt]
  simp only [IntKind.wrap_u64]
  omega

theorem mul_lo_val (x y : Nat) : IntKind.u64.wrap ((x : Int) * y) = ((x * y % 18446744073709551616 : Nat) : Int) := by
  rw [mulN, wrapM]

set_option maxHeartbeats 1000000 in
theorem mul_any (x y : Nat) (hx : x < 18446744073709551616) (hy : y < 18446744073709551616) (w : World) :
    Calls Try.prog 44 #[.int .u64 x, .int .u64 y] w fun e w' => e = .returned (.tuple #[.int .u64 ((x * y / 18446744073709551616 : Nat) : Int), .int .u64 ((x * y % 18446744073709551616 : Nat) : Int)]) ∧ w' = w := by
  have HX : Hid (x < 18446744073709551616 ∧ y < 18446744073709551616) := ⟨hx, hy⟩
  clear hx hy
  obtain ⟨H, hH⟩ : ∃ H : Nat, x * y / 18446744073709551616 = H := ⟨_, rfl⟩
  obtain ⟨L, hL⟩ : ∃ L : Nat, x * y % 18446744073709551616 = L := ⟨_, rfl⟩
  rw [hH, hL]
  have HH : Hid (x * y / 18446744073709551616 = H) := hH
  have HL : Hid (x * y % 18446744073709551616 = L) := hL
  clear hH hL
  go_enter Try.func44, Try.ntmps44
  go_wp2
  go_ret2
  exact ⟨ret_two (by rw [← HH.out]; exact mul_hi_val x y HX.out.1 HX.out.2) (by rw [← HL.out]; exact mul_lo_val x y), rfl⟩
