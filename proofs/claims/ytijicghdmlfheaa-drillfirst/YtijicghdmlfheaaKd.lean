/- What the document's Has, With and Of answer, for every mask and every list of at most 1000 numbers. -/
import Derived.Test.YtijicghdmlfheaaRows
import Derived.Test.YtijicghdmlfheaaMw
import Derived.Test.YtijicghdmlfheaaFg
import Derived.WalkKit
import Derived.ProofKit
import Derived.OpenShut
import Derived.BigQuiet
import Derived.Laws.Bits64b
import Derived.Laws.BitsAllLaws
namespace Go.Proofs.Ytijicghdmlfheaa
open Go.ChangeShapes Go.WideShapes Go.ChangeAt Go.RowKit
open Mm

set_option maxRecDepth 100000 in
set_option maxHeartbeats 400000 in
theorem krefhas_any (m : Nat) (c : Int) (w : World) (hm : m < 18446744073709551616) :
    Calls Try.prog 26 #[.int .u64 m, .int .i64 c] w fun e w' => e = .returned (.bool (tb m c)) ∧ w' = w := by
  by_cases h : 0 ≤ c ∧ c < 64
  · obtain ⟨k, rfl⟩ := Int.eq_ofNat_of_zero_le h.1
    have e := tb_some m k h
    rw [Int.toNat_natCast, Nat.testBit_eq_decide_div_mod_eq] at e
    obtain ⟨d, hd⟩ : ∃ d, m / 2 ^ k = d := ⟨_, rfl⟩
    have hd' : (m : Int) / 2 ^ k = (d : Int) := by rw [← hd]; simp
    rw [hd] at e
    have hk : (k : Int) < 64 := h.2
    have hdl : (d : Int) ≤ 18446744073709551615 := by
      have : d ≤ m := by rw [← hd]; exact Nat.div_le_self _ _
      omega
    rw [e]
    clear e h hm hd
    by_cases h1 : d % 2 = 1
    · have h2 : ((d : Int) % 2 == 1) = true := by rw [beq_iff_eq]; omega
      simp only [h1, decide_true]
      clear h1
      go_enter Try.func26, Try.ntmps26
      go_wp2
      go_ret
      exact ⟨rfl, rfl⟩
    · have h2 : ((d : Int) % 2 == 1) = false := by rw [beq_eq_false_iff_ne]; omega
      simp only [h1, decide_false]
      clear h1
      go_enter Try.func26, Try.ntmps26
      go_wp2
      go_ret
      exact ⟨rfl, rfl⟩
  · rw [tb_none m c h]
    by_cases h1 : c < 0
    · go_enter Try.func26, Try.ntmps26
      go_wp2
      go_ret
      exact ⟨rfl, rfl⟩
    · have h2 : (64 : Int) ≤ c := by omega
      clear h
      go_enter Try.func26, Try.ntmps26
      go_wp2
      go_ret
      exact ⟨rfl, rfl⟩

set_option maxRecDepth 100000 in
set_option maxHeartbeats 400000 in
theorem krefwith_any (m : Nat) (c : Int) (w : World) (hm : m < 18446744073709551616) :
    Calls Try.prog 28 #[.int .u64 m, .int .i64 c] w fun e w' => e = .returned (.int .u64 (m ||| bv c : Nat)) ∧ w' = w := by
  by_cases h : 0 ≤ c ∧ c < 64
  · obtain ⟨k, rfl⟩ := Int.eq_ofNat_of_zero_le h.1
    have R : Hid (∀ w, _) := fun w => krefhas_any m k w hm
    have hk : (k : Int) < 64 := h.2
    cases ht : tb m k with
    | true =>
      rw [or_bv_same m k ht]
      rw [ht] at R
      clear ht h hm
      go_enter Try.func28, Try.ntmps28
      go_wp2_with (go_at_call 26; refine (R.out _).mono ?_; rintro e w' ⟨rfl, rfl⟩)
      go_ret
      exact ⟨rfl, rfl⟩
    | false =>
      have s := or_bv_sum m k hm ht
      have l := or_lt hm (bv_lt (k : Int))
      rw [s] at l
      have hw : IntKind.u64.wrap ((m : Int) + IntKind.u64.wrap ((2 : Int) ^ k)) = ((m + bv k : Nat) : Int) := by
        have a : IntKind.u64.wrap ((2 : Int) ^ k) = ((bv k : Nat) : Int) := by
          have := wrapN (bv k) (bv_lt k)
          rw [bv_some _ h, Int.toNat_natCast] at this ⊢
          simpa using this
        rw [a, ← Int.natCast_add]
        exact wrapN _ l
      rw [s]
      rw [ht] at R
      obtain ⟨S, hS⟩ : ∃ S, m + bv k = S := ⟨_, rfl⟩
      rw [hS] at hw ⊢
      clear ht h hm s l hS
      go_enter Try.func28, Try.ntmps28
      go_wp2_with (go_at_call 26; refine (R.out _).mono ?_; rintro e w' ⟨rfl, rfl⟩)
      go_ret
      exact ⟨rfl, rfl⟩
  · rw [bv_none c h, Nat.or_zero]
    by_cases h1 : c < 0
    · go_enter Try.func28, Try.ntmps28
      go_wp2
      go_ret
      exact ⟨rfl, rfl⟩
    · have h2 : (64 : Int) ≤ c := by omega
      clear h
      go_enter Try.func28, Try.ntmps28
      go_wp2
      go_ret
      exact ⟨rfl, rfl⟩

set_option maxRecDepth 100000 in
set_option maxHeartbeats 400000 in
theorem krefof_any (xs : List Int) (v : Value) (w : World) (hl : (xs.length : Int) ≤ 1000) (hr : Row w v xs) :
    Calls Try.prog 27 #[v] w fun e w' => e = .returned (.int .u64 (wl 0 xs : Nat)) ∧ w' = w := by
  rcases hr with ⟨rfl, a, cap, rfl⟩ | ⟨b, off, cap, rfl, _, hc⟩
  · rw [show wl 0 [] = 0 from rfl]
    clear hl
    go_enter Try.func27, Try.ntmps27
    go_wp2
    go_loop [3, 4] (fun a i => a = .int .u64 0 ∧ i = .int .i64 0) (fun _ _ => 0)
    case atStart => exact ⟨rfl, rfl⟩
    case round =>
      obtain ⟨rfl, rfl⟩ := hrel
      go_wp2
      go_ret
      exact ⟨rfl, rfl⟩
  · have HC : Hid (∀ i, i < xs.length → w.cell? ⟨b, off + i, none⟩ = some (.int .i64 (xs.getD i 0))) := hc
    obtain ⟨n, hn⟩ : ∃ n, xs.length = n := ⟨_, rfl⟩
    have HN : Hid (xs.length = n) := hn
    obtain ⟨R, hR⟩ : ∃ R, wl 0 xs = R := ⟨_, rfl⟩
    have HR : Hid (wl 0 xs = R) := hR
    rw [hn] at hl ⊢
    rw [hR]
    clear hc hn hR
    go_enter Try.func27, Try.ntmps27
    go_wp2
    go_loop [3, 4] (fun a i => ∃ k M : Nat, (k : Int) ≤ n ∧ Hid (M = wl 0 (xs.take k)) ∧ i = .int .i64 k ∧ a = .int .u64 M) (fun _ i => n - (intOf i).toNat)
    case atStart => exact ⟨0, 0, by omega, rfl, rfl, rfl⟩
    case round =>
      obtain ⟨k, M, hk, hM, rfl, rfl⟩ := hrel
      by_cases h : (k : Int) < n
      · have hc := HC.out k (by have := HN.out; omega)
        have s : Hid (M ||| bv (xs.getD k 0) = wl 0 (xs.take (k + 1))) := by
          rw [hM.out, take_snoc xs k (by have := HN.out; omega)]
          exact (wl_snoc _ _ _).symm
        have lM : M < 18446744073709551616 := by rw [hM.out]; exact wl_lt _ _ (by omega)
        generalize xs.getD k 0 = c at *
        have B : Hid (∀ w, _) := fun w => krefwith_any M c w lM
        generalize M ||| bv c = M2 at *
        clear lM
        go_wp2_with (go_at_call 28; refine (B.out _).mono ?_; rintro e w' ⟨rfl, rfl⟩)
        go_round
        case rel => exact ⟨k + 1, M2, by omega, s, by go_num, rfl⟩
        case measure => simp [intOf]; omega
      · have e : M = R := by
          have a := HN.out
          have b : k = xs.length := by omega
          rw [hM.out, ← HR.out, b, List.take_length]
        subst e
        go_wp2
        go_ret
        exact ⟨rfl, rfl⟩

end Go.Proofs.Ytijicghdmlfheaa
