/- What mask's And, Many, Upto, With and Of answer. -/
import Derived.Test.YtijicghdmlfheaaRows
import Derived.Test.YtijicghdmlfheaaMq
import Derived.Test.YtijicghdmlfheaaFg
import Derived.Laws.Bits64b
import Derived.Laws.BitsAllLaws
import Derived.WalkKit
import Derived.ProofKit
import Derived.OpenShut
import Derived.BigQuiet
import Derived.WalkSmall
import Derived.WalkSpells
namespace Go.Proofs.Ytijicghdmlfheaa
open Go.ChangeShapes Go.WideShapes Go.ChangeAt Go.RowKit
open Mm
set_option linter.unusedVariables false
set_option linter.unusedSimpArgs false
set_option maxRecDepth 100000

set_option maxRecDepth 100000 in
set_option maxHeartbeats 400000 in
theorem kbit_any (c : Int) (w : World) :
    Calls Try.prog 30 #[.int .i64 c] w fun e w' => e = .returned (.int .u64 (bv c : Nat)) ∧ w' = w := by
  by_cases h : 0 ≤ c ∧ c < 64
  · obtain ⟨k, rfl⟩ := Int.eq_ofNat_of_zero_le h.1
    have hw : IntKind.u64.wrap ((2 : Int) ^ k) = ((2 ^ k : Nat) : Int) := by
      have := wrapN (2 ^ k) (by have := bv_lt (k : Int); rw [bv_some _ h] at this; simpa using this)
      simpa using this
    have hk : (k : Int) < 64 := h.2
    rw [bv_some _ h, Int.toNat_natCast]
    generalize 2 ^ k = P at *
    clear h
    go_enter Try.func30, Try.ntmps30
    go_wp2
    go_ret
    exact ⟨rfl, rfl⟩
  · rw [bv_none c h]
    by_cases h1 : c < 0
    · go_enter Try.func30, Try.ntmps30
      go_wp2
      go_ret
      exact ⟨rfl, rfl⟩
    · have h2 : (64 : Int) ≤ c := by omega
      clear h
      go_enter Try.func30, Try.ntmps30
      go_wp2
      go_ret
      exact ⟨rfl, rfl⟩
set_option maxRecDepth 100000 in
set_option maxHeartbeats 400000 in
theorem kmany_any (a : Nat) (w : World) (ha : a < 18446744073709551616) :
    Calls Try.prog 24 #[.int .u64 a] w fun e w' => e = .returned (.int .i64 ((ls a).length : Nat)) ∧ w' = w := by
  have N : Hid (∀ w, _) := fun w => ones_any a w ha
  generalize (ls a).length = P at *
  clear ha
  go_enter Try.func24, Try.ntmps24
  go_wp2_with (go_at_call 31; refine (N.out _).mono ?_; rintro e w' ⟨rfl, rfl⟩)
  go_ret
  exact ⟨rfl, rfl⟩
set_option maxRecDepth 100000 in
set_option maxHeartbeats 400000 in
theorem kupto_any (n : Int) (w : World) :
    Calls Try.prog 23 #[.int .i64 n] w fun e w' => e = .returned (.int .u64 (up n : Nat)) ∧ w' = w := by
  by_cases h1 : n < 1
  · rw [show up n = 0 from if_pos h1]
    go_enter Try.func23, Try.ntmps23
    go_wp2
    go_ret
    exact ⟨rfl, rfl⟩
  · by_cases h2 : 64 ≤ n
    · rw [show up n = 18446744073709551615 from (if_neg h1).trans (if_pos h2)]
      go_enter Try.func23, Try.ntmps23
      go_wp2
      go_ret
      exact ⟨rfl, rfl⟩
    · have e : up n = bv n - 1 := by rw [bv_some n (by omega)]; exact (if_neg h1).trans (if_neg h2)
      have p : 0 < bv n := by rw [bv_some n (by omega)]; exact Nat.two_pow_pos _
      have l := bv_lt n
      have B : Hid (∀ w, _) := fun w => kbit_any n w
      rw [e]
      generalize bv n = b at *
      have hw : IntKind.u64.wrap ((b : Int) - 1) = ((b - 1 : Nat) : Int) := by rw [IntKind.wrap_u64]; omega
      obtain ⟨c, hc⟩ : ∃ c, b - 1 = c := ⟨_, rfl⟩
      rw [hc] at hw ⊢
      clear e l p hc
      go_enter Try.func23, Try.ntmps23
      go_wp2_with (go_at_call 30; refine (B.out _).mono ?_; rintro e w' ⟨rfl, rfl⟩)
      go_ret
      exact ⟨rfl, rfl⟩
set_option maxRecDepth 100000 in
set_option maxHeartbeats 400000 in
theorem kand_any (a b : Nat) (w : World) (ha : a < 18446744073709551616) (hb : b < 18446744073709551616) :
    Calls Try.prog 22 #[.int .u64 a, .int .u64 b] w fun e w' => e = .returned (.int .u64 (a &&& b : Nat)) ∧ w' = w := by
  have h := bits_and_u64_nat a b ha hb
  generalize a &&& b = P at *
  clear ha hb
  go_enter Try.func22, Try.ntmps22
  go_wp2
  go_ret
  exact ⟨rfl, rfl⟩
set_option maxRecDepth 100000 in
set_option maxHeartbeats 400000 in
theorem kwith_any (m : Nat) (xs : List Int) (v : Value) (w : World) (hm : m < 18446744073709551616) (hl : (xs.length : Int) ≤ 1000) (hr : Row w v xs) :
    Calls Try.prog 32 #[.int .u64 m, v] w fun e w' => e = .returned (.int .u64 (wl m xs : Nat)) ∧ w' = w := by
  rcases hr with ⟨rfl, a, cap, rfl⟩ | ⟨b, off, cap, rfl, _, hc⟩
  · rw [show wl m [] = m from rfl]
    clear hl hm
    go_enter Try.func32, Try.ntmps32
    go_wp2
    go_loop [0, 9] (fun a i => a = .int .u64 m ∧ i = .int .i64 0) (fun _ _ => 0)
    case atStart => exact ⟨rfl, rfl⟩
    case round =>
      obtain ⟨rfl, rfl⟩ := hrel
      go_wp2
      go_ret
      exact ⟨rfl, rfl⟩
  · have HM : Hid (m < 18446744073709551616) := hm
    have HC : Hid (∀ i, i < xs.length → w.cell? ⟨b, off + i, none⟩ = some (.int .i64 (xs.getD i 0))) := hc
    obtain ⟨n, hn⟩ : ∃ n, xs.length = n := ⟨_, rfl⟩
    have HN : Hid (xs.length = n) := hn
    obtain ⟨R, hR⟩ : ∃ R, wl m xs = R := ⟨_, rfl⟩
    have HR : Hid (wl m xs = R) := hR
    rw [hn] at hl ⊢
    rw [hR]
    clear hc hm hn hR
    go_enter Try.func32, Try.ntmps32
    go_wp2
    go_loop [0, 9] (fun a i => ∃ k M : Nat, (k : Int) ≤ n ∧ Hid (M = wl m (xs.take k)) ∧ i = .int .i64 k ∧ a = .int .u64 M) (fun _ i => n - (intOf i).toNat)
    case atStart => exact ⟨0, m, by omega, rfl, rfl, rfl⟩
    case round =>
      obtain ⟨k, M, hk, hM, rfl, rfl⟩ := hrel
      by_cases h : (k : Int) < n
      · have hc := HC.out k (by have := HN.out; omega)
        have s : Hid (M ||| bv (xs.getD k 0) = wl m (xs.take (k + 1))) := by
          rw [hM.out, take_snoc xs k (by have := HN.out; omega)]
          exact (wl_snoc _ _ _).symm
        have lM : M < 18446744073709551616 := by rw [hM.out]; exact wl_lt _ _ HM.out
        have hb := bits_or_u64_nat M (bv (xs.getD k 0)) lM (bv_lt _)
        generalize xs.getD k 0 = c at *
        have B : Hid (∀ w, _) := fun w => kbit_any c w
        generalize M ||| bv c = M2 at *
        generalize bv c = q at *
        clear lM
        go_wp2_with (go_at_call 30; refine (B.out _).mono ?_; rintro e w' ⟨rfl, rfl⟩)
        go_round
        case rel => exact ⟨k + 1, M2, by omega, s, by go_num, rfl⟩
        case measure => simp [intOf]; omega
      · have e : M = R := by
          have a := HN.out
          have b : k = xs.length := by omega
          rw [hM.out, ← HR.out, b, List.take_length]
        subst e
        go_wp2
        go_ret
        exact ⟨rfl, rfl⟩
set_option maxRecDepth 100000 in
set_option maxHeartbeats 400000 in
theorem kof_any (xs : List Int) (v : Value) (w : World) (hl : (xs.length : Int) ≤ 1000) (hr : Row w v xs) :
    Calls Try.prog 25 #[v] w fun e w' => e = .returned (.int .u64 (wl 0 xs : Nat)) ∧ w' = w := by
  have C : Hid (∀ _ : Unit, _) := fun _ => kwith_any 0 xs v w (by omega) hl hr
  obtain ⟨R, hR⟩ : ∃ R, wl 0 xs = R := ⟨_, rfl⟩
  rw [hR] at C ⊢
  obtain ⟨a, cap, rfl⟩ := hr.shape
  generalize xs.length = n at *
  clear hR hl hr
  go_enter Try.func25, Try.ntmps25
  go_wp2_with fail
  refine (C.out ()).mono ?_
  rintro e u1 ⟨rfl, rfl⟩
  go_wp2
  go_ret
  exact ⟨rfl, rfl⟩
end Go.Proofs.Ytijicghdmlfheaa
