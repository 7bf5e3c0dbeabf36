/- What the document's Most and Least answer, for all lists of floats. -/
import Derived.Test.YtmelbbojanomiaaRows
import Derived.Test.YtmelbbojanomiaaOro
import Derived.Test.YtmelbbojanomiaaFlm
import Derived.Test.YtmelbbojanomiaaMeA
import Derived.WalkKit
import Derived.ProofKit
import Derived.OpenShut
import Derived.BigQuiet
import Derived.WalkLawsBesides
import Derived.Deep.RegionHeld3
namespace Go.Proofs.Ytmelbbojanomiaa
open Go.ChangeShapes Go.WideShapes Go.ChangeAt Go.RowKit
open Flo

set_option maxRecDepth 100000 in
set_option maxHeartbeats 2000000 in
theorem best_any (d : Int) (xs : List Nat) (v : Value) (w : World) (hr : ORow fl w v xs) (hg : ∀ x ∈ xs, x < 18446744073709551616) (hl : (xs.length : Int) ≤ 1000) :
    Calls Try.prog 54 #[v, .int .i64 d] w fun e w' => e = .returned (.float .f64 (bst d xs)) ∧ Sm w' w := by
  obtain ⟨a, cap, rfl⟩ := hr.shape
  have HR : Hid (ORow fl w (.slice a xs.length cap) xs) := hr
  obtain ⟨l, hn⟩ : ∃ l, xs.length = l := ⟨_, rfl⟩
  have HN : Hid (xs.length = l) := hn
  rw [hn] at hl ⊢ HR
  have HG : Hid (∀ x ∈ xs, x < 18446744073709551616) := hg
  have HA : Hid (bst d xs = bst d (xs.take l)) := by show bst d xs = bst d (xs.take l); rw [← hn, List.take_length]
  have N : Hid (∀ w, _) := fun w => nan_any w
  have HB : Hid (9221120237041090561 = bst d (xs.take 0)) := by show 9221120237041090561 = bst d (xs.take 0); rfl
  obtain ⟨A0, hA0⟩ : ∃ A0, bst d xs = A0 := ⟨_, rfl⟩
  rw [hA0] at HA ⊢
  clear hr hn hg hA0
  go_enter Try.func54, Try.ntmps54
  go_wp2_with fail
  refine (N.out _).mono ?_
  rintro e w' ⟨rfl, e0⟩
  have M0 : Hid (Sm w' w) := by show Sm w' w; rw [e0]; exact ⟨rfl, rfl, rfl, rfl⟩
  clear e0
  go_wp2
  go_loopw [5, 6] (fun v i wr => ∃ k : Nat, (k : Int) ≤ l ∧ v = .float .f64 (bst d (xs.take k)) ∧ Sm wr w ∧ i = .int .i64 k) (fun _ i _ => l - (intOf i).toNat)
  case atStart => exact ⟨0, by omega, congrArg _ HB.out, M0.out, rfl⟩
  case round =>
    obtain ⟨k, hk, rfl, sm, rfl⟩ := hrel
    have SM : Hid (Sm wr w) := sm
    clear sm
    by_cases h : (k : Int) < l
    · obtain ⟨x, hx⟩ : ∃ x, xs[k]? = some x := ⟨_, List.getElem?_eq_getElem (by have := HN.out; omega)⟩
      obtain ⟨b, off, rfl, _, hc⟩ := orow_cell (HR.out.heap SM.out.1) hx
      have hc2 : wr.cell? ⟨b, off + k, none⟩ = some (.float .f64 x) := hc
      clear hc
      have hxl := HG.out x (List.mem_of_getElem? hx)
      have hfl := bst_take_lt d xs k HG.out
      have NX : Hid (bst d (xs.take (k + 1)) = st1 d (bst d (xs.take k)) x) := bst_take d xs k x hx
      generalize bst d (xs.take k) = f at *
      have C3 : Hid (∀ w, _) := fun w => reforder_any x f w hxl hfl
      have q1 : (FloatKind.f64.format.order x x == some .eq) = !isN x := self_eq x hxl
      have q2 : (FloatKind.f64.format.order f f != some .eq) = isN f := self_ne f hfl
      unfold st1 at NX
      clear hx hxl hfl HB HA HR
      cases h1 : isN x with
      | true =>
        rw [h1] at q1 NX
        simp only [Bool.not_true] at q1
        clear C3 q2
        go_wp2_with fail
        go_quiet (fail)
        go_wp2
        go_roundw
        case rel => exact ⟨k + 1, by omega, congrArg _ (NX.out.trans (if_pos trivial)).symm, SM.out, by go_num⟩
        case measure => simp [intOf]; omega
      | false =>
        rw [h1] at q1 NX
        simp only [Bool.not_false] at q1
        cases h2 : isN f with
        | true =>
          rw [h2] at q2 NX
          clear C3
          go_wp2_with fail
          go_quiet (fail)
          go_wp2
          go_roundw
          case rel => exact ⟨k + 1, by omega, congrArg _ NX.out.symm, SM.out, by go_num⟩
          case measure => simp [intOf]; omega
        | false =>
          rw [h2] at q2 NX
          cases h3 : (od x f == d) with
          | true =>
            have h4 : od x f = d := by simpa using h3
            rw [if_neg (by simp), if_neg (by simp), if_pos h4] at NX
            generalize od x f = o at *
            clear h4
            go_wp2_with fail
            go_region_held3 (fun w' => w'.cell? ⟨b, off + k, none⟩ = some (.float .f64 x)) (go_keep)
              (first | (go_at_call 30; refine (C3.out _).mono ?_; rintro e w' ⟨rfl, rfl⟩))
            go_wp2
            go_roundw
            case rel => exact ⟨k + 1, by omega, congrArg _ NX.out.symm, SM.out, by go_num⟩
            case measure => simp [intOf]; omega
          | false =>
            have h4 : ¬ od x f = d := by simpa using h3
            rw [if_neg (by simp), if_neg (by simp), if_neg h4] at NX
            generalize od x f = o at *
            clear h4
            go_wp2_with fail
            go_region_held3 (fun w' => w'.cell? ⟨b, off + k, none⟩ = some (.float .f64 x)) (go_keep)
              (first | (go_at_call 30; refine (C3.out _).mono ?_; rintro e w' ⟨rfl, rfl⟩))
            go_wp2
            go_roundw
            case rel => exact ⟨k + 1, by omega, congrArg _ NX.out.symm, SM.out, by go_num⟩
            case measure => simp [intOf]; omega
    · obtain rfl : k = l := by omega
      go_wp2
      go_ret
      exact ⟨congrArg (fun z => Ending.returned (.float .f64 z)) HA.out.symm, SM.out⟩

theorem refmost_any (xs : List Nat) (v : Value) (w : World) (hr : ORow fl w v xs) (hg : ∀ x ∈ xs, x < 18446744073709551616) (hl : (xs.length : Int) ≤ 1000) :
    Calls Try.prog 33 #[v] w fun e w' => e = .returned (.float .f64 (bst 1 xs)) ∧ Sm w' w := by
  have C : Hid (∀ _ : Unit, _) := fun _ => best_any 1 xs v w hr hg hl
  generalize bst 1 xs = r at *
  clear hr hg hl
  go_enter Try.func33, Try.ntmps33
  go_wp2_with fail
  refine (C.out ()).mono ?_
  rintro e w' ⟨rfl, sm⟩
  have SM : Hid (Sm w' w) := sm
  clear sm
  go_wp2
  go_ret
  exact ⟨rfl, SM.out⟩
theorem refleast_any (xs : List Nat) (v : Value) (w : World) (hr : ORow fl w v xs) (hg : ∀ x ∈ xs, x < 18446744073709551616) (hl : (xs.length : Int) ≤ 1000) :
    Calls Try.prog 35 #[v] w fun e w' => e = .returned (.float .f64 (bst (-1) xs)) ∧ Sm w' w := by
  have C : Hid (∀ _ : Unit, _) := fun _ => best_any (-1) xs v w hr hg hl
  generalize bst (-1) xs = r at *
  clear hr hg hl
  go_enter Try.func35, Try.ntmps35
  go_wp2_with fail
  refine (C.out ()).mono ?_
  rintro e w' ⟨rfl, sm⟩
  have SM : Hid (Sm w' w) := sm
  clear sm
  go_wp2
  go_ret
  exact ⟨rfl, SM.out⟩
end Go.Proofs.Ytmelbbojanomiaa
