/- What Most, Least and Same answer, of the program and of the document, for all lists of floats. -/
import Derived.Test.YtmelbbojanomiaaRows
import Derived.Test.YtmelbbojanomiaaOro
import Derived.Test.YtmelbbojanomiaaFlm
import Derived.Test.YtmelbbojanomiaaMeA
import Derived.WalkKit
import Derived.ProofKit
import Derived.OpenShut
import Derived.BigQuiet
import Derived.WalkLawsBesides
import Derived.Deep.RegionHeld3
namespace Go.Proofs.Ytmelbbojanomiaa
open Go.ChangeShapes Go.WideShapes Go.ChangeAt Go.RowKit
open Flo

theorem same_any (x y : Nat) (w : World) (hx : x < 18446744073709551616) (hy : y < 18446744073709551616) : Calls Try.prog 31 #[.float .f64 x, .float .f64 y] w fun e w' => e = .returned (.bool (ky x == ky y)) ∧ w' = w := by
  have C1 : Hid (∀ w, _) := fun w => order_any x y w hx hy
  have e0 := od_eq_zero x y
  generalize (ky x == ky y) = b at *
  generalize od x y = d at *
  clear hx hy
  go_enter Try.func31, Try.ntmps31
  go_wp2_with fail
  refine (C1.out _).mono ?_
  rintro e w' ⟨rfl, rfl⟩
  go_wp2
  go_ret
  exact ⟨rfl, rfl⟩

set_option maxRecDepth 100000 in
set_option maxHeartbeats 2000000 in
theorem outermost_any (d : Int) (xs : List Nat) (v : Value) (w : World) (hr : ORow fl w v xs) (hg : ∀ x ∈ xs, x < 18446744073709551616) (hl : (xs.length : Int) ≤ 1000) :
    Calls Try.prog 53 #[v, .int .i64 d] w fun e w' => e = .returned (.float .f64 (bst d xs)) ∧ w' = w := by
  obtain ⟨a, cap, rfl⟩ := hr.shape
  have HR : Hid (ORow fl w (.slice a xs.length cap) xs) := hr
  obtain ⟨l, hn⟩ : ∃ l, xs.length = l := ⟨_, rfl⟩
  have HN : Hid (xs.length = l) := hn
  rw [hn] at hl ⊢ HR
  have HG : Hid (∀ x ∈ xs, x < 18446744073709551616) := hg
  have HA : Hid (bst d xs = bst d (xs.take l)) := by show bst d xs = bst d (xs.take l); rw [← hn, List.take_length]
  have N : Hid (∀ w, _) := fun w => nan_any w
  have HB : Hid (9221120237041090561 = bst d (xs.take 0)) := by show 9221120237041090561 = bst d (xs.take 0); rfl
  obtain ⟨A0, hA0⟩ : ∃ A0, bst d xs = A0 := ⟨_, rfl⟩
  rw [hA0] at HA ⊢
  clear hr hn hg hA0
  go_enter Try.func53, Try.ntmps53
  go_wp2_with fail
  refine (N.out _).mono ?_
  rintro e w' ⟨rfl, rfl⟩
  go_wp2
  go_loop [5, 11] (fun v i => ∃ k : Nat, (k : Int) ≤ l ∧ v = .float .f64 (bst d (xs.take k)) ∧ i = .int .i64 k) (fun _ i => l - (intOf i).toNat)
  case atStart => exact ⟨0, by omega, congrArg _ HB.out, rfl⟩
  case round =>
    obtain ⟨k, hk, rfl, rfl⟩ := hrel
    by_cases h : (k : Int) < l
    · obtain ⟨x, hx⟩ : ∃ x, xs[k]? = some x := ⟨_, List.getElem?_eq_getElem (by have := HN.out; omega)⟩
      obtain ⟨b, off, rfl, _, hc⟩ := orow_cell HR.out hx
      have hc : w'.cell? ⟨b, off + k, none⟩ = some (.float .f64 x) := hc
      have hxl := HG.out x (List.mem_of_getElem? hx)
      have hfl := bst_take_lt d xs k HG.out
      have NX : Hid (bst d (xs.take (k + 1)) = st1 d (bst d (xs.take k)) x) := bst_take d xs k x hx
      generalize bst d (xs.take k) = f at *
      have C1 : Hid (∀ w, _) := fun w => isnan_any x w hxl
      have C2 : Hid (∀ w, _) := fun w => isnan_any f w hfl
      have C3 : Hid (∀ w, _) := fun w => order_any x f w hxl hfl
      unfold st1 at NX
      clear hx hxl hfl HB HA HR
      cases h1 : isN x with
      | true =>
        rw [h1] at C1 NX
        go_wp2_with fail
        refine (C1.out _).mono ?_
        rintro e w' ⟨rfl, rfl⟩
        go_wp2
        go_round
        case rel => exact ⟨k + 1, by omega, congrArg _ (NX.out.trans (if_pos trivial)).symm, by go_num⟩
        case measure => simp [intOf]; omega
      | false =>
        rw [h1] at C1 NX
        cases h2 : isN f with
        | true =>
          rw [h2] at C2 NX
          go_wp2_with fail
          refine (C1.out _).mono ?_
          rintro e w' ⟨rfl, rfl⟩
          go_wp2_with fail
          refine (C2.out _).mono ?_
          rintro e w' ⟨rfl, rfl⟩
          go_wp2
          go_round
          case rel => exact ⟨k + 1, by omega, congrArg _ NX.out.symm, by go_num⟩
          case measure => simp [intOf]; omega
        | false =>
          rw [h2] at C2 NX
          cases h3 : (od x f == d) with
          | true =>
            have h4 : od x f = d := by simpa using h3
            rw [if_neg (by simp), if_neg (by simp), if_pos h4] at NX
            generalize od x f = o at *
            clear h4
            go_wp2_with fail
            refine (C1.out _).mono ?_
            rintro e w' ⟨rfl, rfl⟩
            go_wp2_with fail
            refine (C2.out _).mono ?_
            rintro e w' ⟨rfl, rfl⟩
            go_wp2_with fail
            refine (C3.out _).mono ?_
            rintro e w' ⟨rfl, rfl⟩
            go_wp2
            go_round
            case rel => exact ⟨k + 1, by omega, congrArg _ NX.out.symm, by go_num⟩
            case measure => simp [intOf]; omega
          | false =>
            have h4 : ¬ od x f = d := by simpa using h3
            rw [if_neg (by simp), if_neg (by simp), if_neg h4] at NX
            generalize od x f = o at *
            clear h4
            go_wp2_with fail
            refine (C1.out _).mono ?_
            rintro e w' ⟨rfl, rfl⟩
            go_wp2_with fail
            refine (C2.out _).mono ?_
            rintro e w' ⟨rfl, rfl⟩
            go_wp2_with fail
            refine (C3.out _).mono ?_
            rintro e w' ⟨rfl, rfl⟩
            go_wp2
            go_round
            case rel => exact ⟨k + 1, by omega, congrArg _ NX.out.symm, by go_num⟩
            case measure => simp [intOf]; omega
    · obtain rfl : k = l := by omega
      go_wp2
      go_ret
      exact ⟨congrArg (fun z => Ending.returned (.float .f64 z)) HA.out.symm, rfl⟩

theorem most_any (xs : List Nat) (v : Value) (w : World) (hr : ORow fl w v xs) (hg : ∀ x ∈ xs, x < 18446744073709551616) (hl : (xs.length : Int) ≤ 1000) :
    Calls Try.prog 32 #[v] w fun e w' => e = .returned (.float .f64 (bst 1 xs)) ∧ w' = w := by
  have C : Hid (∀ _ : Unit, _) := fun _ => outermost_any 1 xs v w hr hg hl
  generalize bst 1 xs = r at *
  clear hr hg hl
  go_enter Try.func32, Try.ntmps32
  go_wp2_with fail
  refine (C.out ()).mono ?_
  rintro e w' ⟨rfl, rfl⟩
  go_wp2
  go_ret
  exact ⟨rfl, rfl⟩
theorem least_any (xs : List Nat) (v : Value) (w : World) (hr : ORow fl w v xs) (hg : ∀ x ∈ xs, x < 18446744073709551616) (hl : (xs.length : Int) ≤ 1000) :
    Calls Try.prog 34 #[v] w fun e w' => e = .returned (.float .f64 (bst (-1) xs)) ∧ w' = w := by
  have C : Hid (∀ _ : Unit, _) := fun _ => outermost_any (-1) xs v w hr hg hl
  generalize bst (-1) xs = r at *
  clear hr hg hl
  go_enter Try.func34, Try.ntmps34
  go_wp2_with fail
  refine (C.out ()).mono ?_
  rintro e w' ⟨rfl, rfl⟩
  go_wp2
  go_ret
  exact ⟨rfl, rfl⟩
end Go.Proofs.Ytmelbbojanomiaa
