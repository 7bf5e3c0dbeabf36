/- What mask's First, Last, above and Next answer, for every mask and every number (where the table of the lowest bits reads as the program's text lays it). -/
import Derived.Test.YtojpeanakjefoaaDoorRows
import Derived.Test.YtojpeanakjefoaaDoorMk
import Derived.WalkKit
import Derived.ProofKit
import Derived.OpenShut
namespace Go.Proofs.YtojpeanakjefoaaDoor
open Go.ChangeShapes Go.WideShapes Go.ChangeAt Go.RowKit
open Mm

set_option maxHeartbeats 400000 in
theorem first_any (m : Nat) (w : World) (hm : m < 18446744073709551616) (ht : Tab w) :
    Calls Tryd.prog 26 #[.int .u64 m] w fun e w' => e = .returned (.tuple #[.int .i64 (hd (ls m) : Nat), .int .i64 (er (ls m))]) ∧ w' = w := by
  by_cases h0 : m = 0
  · subst h0
    rw [ls_zero]
    clear ht hm
    go_enter Tryd.func26, Tryd.ntmps26
    go_wp2
    go_ret2
    exact ⟨rfl, rfl⟩
  · have T : Hid (∀ w, _ → _) := fun w ht => tz_any m w (by omega) hm ht
    obtain ⟨q, e, hk⟩ := odd_spec 64 m (by omega) hm
    have hh := hd_of m _ q hk e
    have hn : ls m ≠ [] := fun h => h0 (ls_nil m hm h)
    have he : er (ls m) = 0 := if_neg hn
    rw [hh, he]
    generalize Lib.ntzAux 64 m = k at *
    have h1 : (1 : Int) ≤ m := by omega
    have HT : Hid (Tab w) := ht
    clear ht hm e hk hh hn he h0
    go_enter Tryd.func26, Tryd.ntmps26
    go_wp2_with (go_at_call 38; refine (T.out _ HT.out).mono ?_; rintro e w' ⟨rfl, rfl⟩)
    go_ret2
    exact ⟨rfl, rfl⟩

set_option maxHeartbeats 400000 in
theorem last_any (m : Nat) (w : World) (hm : m < 18446744073709551616) :
    Calls Tryd.prog 28 #[.int .u64 m] w fun e w' => e = .returned (.tuple #[.int .i64 (la (ls m) : Nat), .int .i64 (er (ls m))]) ∧ w' = w := by
  by_cases h0 : m = 0
  · subst h0
    rw [ls_zero]
    clear hm
    go_enter Tryd.func28, Tryd.ntmps28
    go_wp2
    go_ret2
    exact ⟨rfl, rfl⟩
  · have T : Hid (∀ w, _) := fun w => len_any m w hm
    have hb := len_spec m (by omega) hm
    have hn : ls m ≠ [] := fun h => h0 (ls_nil m hm h)
    have he : er (ls m) = 0 := if_neg hn
    rw [he]
    generalize Lib.bitLen m = L at *
    obtain ⟨l1, l2, l3⟩ := hb
    have hl : la (ls m) = L - 1 := by
      have := la_of 64 m (L - 1) l2 (by rw [show L - 1 + 1 = L by omega]; exact l3) hm
      unfold la
      rw [List.getLastD_eq_getLast?]
      rw [show (ls m).getLast? = some (L - 1) from this]
      rfl
    rw [hl]
    have h1 : (1 : Int) ≤ m := by omega
    have h2 : (1 : Int) ≤ L := by omega
    have l4 : (L : Int) ≤ 64 := by
      have := (Nat.pow_lt_pow_iff_right (a := 2) (by omega)).1 (Nat.lt_of_le_of_lt l2 (show m < 2 ^ 64 from hm))
      omega
    have e : ((L - 1 : Nat) : Int) = (L : Int) - 1 := by omega
    rw [e]
    clear hm hn he h0 l1 l2 l3 hl e
    go_enter Tryd.func28, Tryd.ntmps28
    go_wp2_with (go_at_call 39; refine (T.out _).mono ?_; rintro e w' ⟨rfl, rfl⟩)
    go_ret2
    exact ⟨rfl, rfl⟩

set_option maxHeartbeats 400000 in
theorem above_any (m : Nat) (c : Int) (w : World) (hm : m < 18446744073709551616) (h0 : -9223372036854775808 ≤ c) :
    Calls Tryd.prog 40 #[.int .u64 m, .int .i64 c] w fun e w' => e = .returned (.int .u64 (av m c : Nat)) ∧ w' = w := by
  by_cases h : 64 ≤ c
  · rw [show av m c = 0 from if_pos h]
    clear hm
    go_enter Tryd.func40, Tryd.ntmps40
    go_wp2
    go_ret
    exact ⟨rfl, rfl⟩
  · rw [show av m c = nt m (up (c + 1)) from if_neg h]
    have U : Hid (∀ w, _) := fun w => upto_any (c + 1) w
    have N : Hid (∀ w, _) := fun w => not_any m (up (c + 1)) w hm (up_lt _)
    generalize nt m (up (c + 1)) = P at *
    generalize up (c + 1) = Q at *
    clear hm
    go_enter Tryd.func40, Tryd.ntmps40
    go_wp2_with (first | (go_at_call 12; refine (U.out _).mono ?_; rintro e w' ⟨rfl, rfl⟩) | (go_at_call 23; refine (N.out _).mono ?_; rintro e w' ⟨rfl, rfl⟩))
    go_ret
    exact ⟨rfl, rfl⟩

set_option maxHeartbeats 400000 in
theorem next_any (m : Nat) (c : Int) (w : World) (hm : m < 18446744073709551616) (h0 : -9223372036854775808 ≤ c) (ht : Tab w) :
    Calls Tryd.prog 30 #[.int .u64 m, .int .i64 c] w fun e w' => e = .returned (.tuple #[.int .i64 (hd (nx m c) : Nat), .int .i64 (er (nx m c))]) ∧ w' = w := by
  have A : Hid (∀ w, _) := fun w => above_any m c w hm h0
  have HT : Hid (Tab w) := ht
  by_cases h : av m c = 0
  · have e : nx m c = ls m := by
      unfold nx
      rw [if_pos]
      rw [← ls_av m c hm, h, ls_zero]
    rw [e]
    rw [h] at A
    have F : Hid (∀ w, _ → _) := fun w ht => first_any m w hm ht
    generalize hd (ls m) = x at *
    generalize er (ls m) = y at *
    clear e h hm h0 ht
    go_enter Tryd.func30, Tryd.ntmps30
    go_wp2_with (first | (go_at_call 40; refine (A.out _).mono ?_; rintro e w' ⟨rfl, rfl⟩) | (go_at_call 26; refine (F.out _ HT.out).mono ?_; rintro e w' ⟨rfl, rfl⟩))
    go_ret2
    exact ⟨rfl, rfl⟩
  · have e : nx m c = ls (av m c) := by
      unfold nx
      rw [if_neg, ls_av m c hm]
      rw [← ls_av m c hm]
      intro g
      exact h (ls_nil _ (av_lt m c) g)
    rw [e]
    have F : Hid (∀ w, _ → _) := fun w ht => first_any (av m c) w (av_lt m c) ht
    have h1 : (1 : Int) ≤ (av m c : Nat) := by omega
    generalize hd (ls (av m c)) = x at *
    generalize er (ls (av m c)) = y at *
    generalize av m c = P at *
    clear e h hm h0 ht
    go_enter Tryd.func30, Tryd.ntmps30
    go_wp2_with (first | (go_at_call 40; refine (A.out _).mono ?_; rintro e w' ⟨rfl, rfl⟩) | (go_at_call 26; refine (F.out _ HT.out).mono ?_; rintro e w' ⟨rfl, rfl⟩))
    go_ret2
    exact ⟨rfl, rfl⟩
end Go.Proofs.YtojpeanakjefoaaDoor
