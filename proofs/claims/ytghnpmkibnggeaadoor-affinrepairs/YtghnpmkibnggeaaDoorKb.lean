/- What mask's And, above, First and Next answer, for every mask and every number (where the table of the lowest bits reads as the program's text lays it). -/
import Derived.Test.YtghnpmkibnggeaaDoorRows
import Derived.Test.YtghnpmkibnggeaaDoorKa
import Derived.WalkKit
import Derived.ProofKit
import Derived.OpenShut
import Derived.BigQuiet
import Derived.Laws.Bits64b
import Derived.Laws.BitsAllLaws
namespace Go.Proofs.YtghnpmkibnggeaaDoor
open Go.ChangeShapes Go.WideShapes Go.ChangeAt Go.RowKit
open Mm

set_option maxRecDepth 100000 in
set_option maxHeartbeats 400000 in
theorem kand_any (a b : Nat) (w : World) (ha : a < 18446744073709551616) (hb : b < 18446744073709551616) :
    Calls Tryd.prog 52 #[.int .u64 a, .int .u64 b] w fun e w' => e = .returned (.int .u64 (a &&& b : Nat)) ∧ w' = w := by
  have h := bits_and_u64_nat a b ha hb
  generalize a &&& b = P at *
  clear ha hb
  go_enter Tryd.func52, Tryd.ntmps52
  go_wp2
  go_ret
  exact ⟨rfl, rfl⟩

set_option maxRecDepth 100000 in
set_option maxHeartbeats 400000 in
theorem kfirst_any (m : Nat) (w : World) (hm : m < 18446744073709551616) (ht : Tab w) :
    Calls Tryd.prog 66 #[.int .u64 m] w fun e w' => e = .returned (.tuple #[.int .i64 (hd (ls m) : Nat), .int .i64 (er (ls m))]) ∧ w' = w := by
  by_cases h0 : m = 0
  · subst h0
    rw [ls_zero]
    clear ht hm
    go_enter Tryd.func66, Tryd.ntmps66
    go_wp2
    go_ret2
    exact ⟨rfl, rfl⟩
  · have T : Hid (∀ w, _ → _) := fun w ht => tz_any m w (by omega) hm ht
    obtain ⟨q, e, hk⟩ := odd_spec 64 m (by omega) hm
    have hh := hd_of m _ q hk e
    have hn : ls m ≠ [] := fun h => h0 (ls_nil m hm h)
    have he : er (ls m) = 0 := if_neg hn
    rw [hh, he]
    generalize Lib.ntzAux 64 m = k at *
    have h1 : (1 : Int) ≤ m := by omega
    have HT : Hid (Tab w) := ht
    clear ht hm e hk hh hn he h0
    go_enter Tryd.func66, Tryd.ntmps66
    go_wp2_with (go_at_call 60; refine (T.out _ HT.out).mono ?_; rintro e w' ⟨rfl, rfl⟩)
    go_ret2
    exact ⟨rfl, rfl⟩

set_option maxRecDepth 100000 in
set_option maxHeartbeats 400000 in
theorem kabove_any (m : Nat) (c : Int) (w : World) (hm : m < 18446744073709551616) (h0 : -9223372036854775808 ≤ c) :
    Calls Tryd.prog 65 #[.int .u64 m, .int .i64 c] w fun e w' => e = .returned (.int .u64 (av m c : Nat)) ∧ w' = w := by
  by_cases h : 64 ≤ c
  · rw [show av m c = 0 from if_pos h]
    clear hm
    go_enter Tryd.func65, Tryd.ntmps65
    go_wp2
    go_ret
    exact ⟨rfl, rfl⟩
  · rw [show av m c = nt m (up (c + 1)) from if_neg h]
    have U : Hid (∀ w, _) := fun w => kupto_any (c + 1) w
    have N : Hid (∀ w, _) := fun w => knot_any m (up (c + 1)) w hm (up_lt _)
    generalize nt m (up (c + 1)) = P at *
    generalize up (c + 1) = Q at *
    clear hm
    go_enter Tryd.func65, Tryd.ntmps65
    go_wp2_with (first | (go_at_call 38; refine (U.out _).mono ?_; rintro e w' ⟨rfl, rfl⟩) | (go_at_call 72; refine (N.out _).mono ?_; rintro e w' ⟨rfl, rfl⟩))
    go_ret
    exact ⟨rfl, rfl⟩

set_option maxRecDepth 100000 in
set_option maxHeartbeats 400000 in
theorem knext_any (m : Nat) (c : Int) (w : World) (hm : m < 18446744073709551616) (h0 : -9223372036854775808 ≤ c) (ht : Tab w) :
    Calls Tryd.prog 53 #[.int .u64 m, .int .i64 c] w fun e w' => e = .returned (.tuple #[.int .i64 (hd (nx m c) : Nat), .int .i64 (er (nx m c))]) ∧ w' = w := by
  have A : Hid (∀ w, _) := fun w => kabove_any m c w hm h0
  have HT : Hid (Tab w) := ht
  by_cases h : av m c = 0
  · have e : nx m c = ls m := by
      unfold nx
      rw [if_pos]
      rw [← ls_av m c hm, h, ls_zero]
    rw [e]
    rw [h] at A
    have F : Hid (∀ w, _ → _) := fun w ht => kfirst_any m w hm ht
    generalize hd (ls m) = x at *
    generalize er (ls m) = y at *
    clear e h hm h0 ht
    go_enter Tryd.func53, Tryd.ntmps53
    go_wp2_with (first | (go_at_call 65; refine (A.out _).mono ?_; rintro e w' ⟨rfl, rfl⟩) | (go_at_call 66; refine (F.out _ HT.out).mono ?_; rintro e w' ⟨rfl, rfl⟩))
    go_ret2
    exact ⟨rfl, rfl⟩
  · have e : nx m c = ls (av m c) := by
      unfold nx
      rw [if_neg, ls_av m c hm]
      rw [← ls_av m c hm]
      intro g
      exact h (ls_nil _ (av_lt m c) g)
    rw [e]
    have F : Hid (∀ w, _ → _) := fun w ht => kfirst_any (av m c) w (av_lt m c) ht
    have h1 : (1 : Int) ≤ (av m c : Nat) := by omega
    generalize hd (ls (av m c)) = x at *
    generalize er (ls (av m c)) = y at *
    generalize av m c = P at *
    clear e h hm h0 ht
    go_enter Tryd.func53, Tryd.ntmps53
    go_wp2_with (first | (go_at_call 65; refine (A.out _).mono ?_; rintro e w' ⟨rfl, rfl⟩) | (go_at_call 66; refine (F.out _ HT.out).mono ?_; rintro e w' ⟨rfl, rfl⟩))
    go_ret2
    exact ⟨rfl, rfl⟩

end Go.Proofs.YtghnpmkibnggeaaDoor
