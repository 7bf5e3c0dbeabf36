/- What math/bits.OnesCount64 answers, for every word. -/
import Derived.Test.YtijicghdmlfheaaRows
import Derived.Test.YtijicghdmlfheaaMp
import Derived.Test.YtijicghdmlfheaaFw
import Derived.Test.YtijicghdmlfheaaMw
import Derived.WalkKit
import Derived.ProofKit
import Derived.OpenShut
import Derived.Laws.Bits64b
import Derived.Laws.BitsAllLaws
namespace Go.Proofs.Ytijicghdmlfheaa
open Go.ChangeShapes Go.WideShapes Go.ChangeAt Go.RowKit
open Mm

theorem and_half (x c m : Nat) (hx : x < 18446744073709551616) (hm : m < 18446744073709551616) : bits .and .u64 ((x : Int) / (c : Int)) (m : Int) = ((x / c &&& m : Nat) : Int) := by
  rw [← Int.natCast_ediv]
  exact bits_and_u64_nat (x / c) m (Nat.lt_of_le_of_lt (Nat.div_le_self _ _) hx) hm

theorem and127 (s : Nat) (h : s < 9223372036854775808) : bits .and .i64 (s : Int) 127 = ((s % 128 : Nat) : Int) := by
  have e : s &&& 127 = s % 128 := Nat.and_two_pow_sub_one_eq_mod s 7
  have h1 : (BitVec.ofInt 64 (s : Int)).toNat = s := by
    rw [BitVec.ofInt_natCast, BitVec.toNat_ofNat]; exact Nat.mod_eq_of_lt (by omega)
  have h2 : (BitVec.ofInt 64 (127 : Int)).toNat = 127 := by decide
  show IntKind.i64.wrap ((BitVec.ofInt 64 (s : Int) &&& BitVec.ofInt 64 (127 : Int)).toNat : Int) = _
  rw [BitVec.toNat_and, h1, h2, e]
  simp [IntKind.wrap, IntKind.bits, IntKind.signed]
  omega

set_option maxHeartbeats 400000 in
theorem ones_core (x a1 a2 s1 b1 b2 s2 t s3 s4 s5 s6 r : Nat) (w : World)
    (h1 : bits .and .u64 ((x : Int) / 2) 6148914691236517205 = (a1 : Int)) (h2 : bits .and .u64 (x : Int) 6148914691236517205 = (a2 : Int)) (h3 : IntKind.u64.wrap ((a1 : Int) + a2) = (s1 : Int))
    (h4 : bits .and .u64 ((s1 : Int) / 4) 3689348814741910323 = (b1 : Int)) (h5 : bits .and .u64 (s1 : Int) 3689348814741910323 = (b2 : Int)) (h6 : IntKind.u64.wrap ((b1 : Int) + b2) = (s2 : Int))
    (h7 : IntKind.u64.wrap ((s2 : Int) / 16 + s2) = (t : Int)) (h8 : bits .and .u64 (t : Int) 1085102592571150095 = (s3 : Int))
    (h9 : IntKind.u64.wrap ((s3 : Int) + s3 / 256) = (s4 : Int)) (h10 : IntKind.u64.wrap ((s4 : Int) + s4 / 65536) = (s5 : Int)) (h11 : IntKind.u64.wrap ((s5 : Int) + s5 / 4294967296) = (s6 : Int))
    (h12 : (s6 : Int) ≤ 9223372036854775807) (h13 : bits .and .i64 (s6 : Int) 127 = (r : Int)) :
    Calls Try.prog 31 #[.int .u64 x] w fun e w' => e = .returned (.int .i64 r) ∧ w' = w := by
  go_enter Try.func31, Try.ntmps31
  go_wp2
  go_ret
  exact ⟨rfl, rfl⟩

/-- bits.OnesCount64: how many bits are 1. -/
theorem ones_any (x : Nat) (w : World) (hx : x < 18446744073709551616) :
    Calls Try.prog 31 #[.int .u64 x] w fun e w' => e = .returned (.int .i64 ((ls x).length : Nat)) ∧ w' = w := by
  obtain ⟨s1, e1⟩ : ∃ s, s = (x / 2 &&& 6148914691236517205) + (x &&& 6148914691236517205) := ⟨_, rfl⟩
  obtain ⟨s2, e2⟩ : ∃ s, s = (s1 / 4 &&& 3689348814741910323) + (s1 &&& 3689348814741910323) := ⟨_, rfl⟩
  obtain ⟨s3, e3⟩ : ∃ s, s = (s2 / 16 + s2) &&& 1085102592571150095 := ⟨_, rfl⟩
  obtain ⟨s4, e4⟩ : ∃ s, s = s3 + s3 / 256 := ⟨_, rfl⟩
  obtain ⟨s5, e5⟩ : ∃ s, s = s4 + s4 / 65536 := ⟨_, rfl⟩
  obtain ⟨s6, e6⟩ : ∃ s, s = s5 + s5 / 4294967296 := ⟨_, rfl⟩
  obtain ⟨l1, l2, l3, l6, hr⟩ := pop_word x s1 s2 s3 s4 s5 s6 hx e1 e2 e3 e4 e5 e6
  rw [show ls x = (List.range 64).filter fun i => x.testBit i from rfl, ls_many, ← hr]
  refine ones_core x (x / 2 &&& 6148914691236517205) (x &&& 6148914691236517205) s1 (s1 / 4 &&& 3689348814741910323) (s1 &&& 3689348814741910323) s2 (s2 / 16 + s2) s3 s4 s5 s6 (s6 % 128) w
    (and_half x 2 6148914691236517205 hx (by omega)) (bits_and_u64_nat x 6148914691236517205 hx (by omega)) ?_ (and_half s1 4 3689348814741910323 l1 (by omega)) (bits_and_u64_nat s1 3689348814741910323 l1 (by omega)) ?_ ?_ ?_ ?_ ?_ ?_ (by omega) (and127 s6 l6)
  · rw [← Int.natCast_add, ← e1]; exact wrapN s1 l1
  · rw [← Int.natCast_add, ← e2]; exact wrapN s2 (by omega)
  · rw [IntKind.wrap_u64]; omega
  · rw [e3]; exact bits_and_u64_nat (s2 / 16 + s2) 1085102592571150095 (by omega) (by omega)
  · rw [IntKind.wrap_u64]; omega
  · rw [IntKind.wrap_u64]; omega
  · rw [IntKind.wrap_u64]; omega

theorem Tab.keep {B : Nat} {S : List Nat} {w w' : World} (ht : Tab w) (hB : 0 < B) (hS : 0 ∉ S) (h : Fr B S w w') : Tab w' := by
  intro i hi
  rw [h.cell (p := ⟨0, i, none⟩) hB hS]
  exact ht i hi

theorem Tab.heap {w w1 : World} (ht : Tab w) (e : w1.heap = w.heap) : Tab w1 := by
  intro i hi
  rw [← ht i hi]
  unfold World.cell?
  rw [e]
end Go.Proofs.Ytijicghdmlfheaa
