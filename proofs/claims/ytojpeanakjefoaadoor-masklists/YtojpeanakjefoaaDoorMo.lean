/- What mask's With and Of and the document's Of answer, for every mask and every list of at most 1000 numbers, and that the law's fixed calls come out as they must. -/
import Derived.Test.YtojpeanakjefoaaDoorRows
import Derived.Test.YtojpeanakjefoaaDoorMn
import Derived.WalkKit
import Derived.ProofKit
import Derived.OpenShut
namespace Go.Proofs.YtojpeanakjefoaaDoor
open Go.ChangeShapes Go.WideShapes Go.ChangeAt Go.RowKit
open Mm

/-- A slice's elements, as they lie in memory. -/
def Row (w : World) (v : Value) (xs : List Int) : Prop :=
  (xs = [] ∧ ∃ a cap, v = .slice a 0 cap) ∨ ∃ b off cap, v = .slice (some ⟨b, off, none⟩) xs.length cap ∧ ∀ i, i < xs.length → w.cell? ⟨b, off + i, none⟩ = some (.int .i64 (xs.getD i 0))

theorem take_snoc (xs : List Int) (k : Nat) (h : k < xs.length) : xs.take (k + 1) = xs.take k ++ [xs.getD k 0] := by
  rw [List.take_succ_eq_append_getElem h]
  simp [List.getD, h]

set_option maxHeartbeats 400000 in
theorem with_any (m : Nat) (xs : List Int) (v : Value) (w : World) (hm : m < 18446744073709551616) (hl : (xs.length : Int) ≤ 1000) (hr : Row w v xs) :
    Calls Tryd.prog 14 #[.int .u64 m, v] w fun e w' => e = .returned (.int .u64 (wl m xs : Nat)) ∧ w' = w := by
  rcases hr with ⟨rfl, a, cap, rfl⟩ | ⟨b, off, cap, rfl, hc⟩
  · rw [show wl m [] = m from rfl]
    clear hl hm
    go_enter Tryd.func14, Tryd.ntmps14
    go_wp2
    go_loop [0, 9] (fun a i => a = .int .u64 m ∧ i = .int .i64 0) (fun _ _ => 0)
    case atStart => exact ⟨rfl, rfl⟩
    case round =>
      obtain ⟨rfl, rfl⟩ := hrel
      go_wp2
      go_ret
      exact ⟨rfl, rfl⟩
  · have HM : Hid (m < 18446744073709551616) := hm
    have HC : Hid (∀ i, i < xs.length → w.cell? ⟨b, off + i, none⟩ = some (.int .i64 (xs.getD i 0))) := hc
    obtain ⟨n, hn⟩ : ∃ n, xs.length = n := ⟨_, rfl⟩
    have HN : Hid (xs.length = n) := hn
    obtain ⟨R, hR⟩ : ∃ R, wl m xs = R := ⟨_, rfl⟩
    have HR : Hid (wl m xs = R) := hR
    rw [hn] at hl ⊢
    rw [hR]
    clear hc hm hn hR
    go_enter Tryd.func14, Tryd.ntmps14
    go_wp2
    go_loop [0, 9] (fun a i => ∃ k M : Nat, (k : Int) ≤ n ∧ Hid (M = wl m (xs.take k)) ∧ i = .int .i64 k ∧ a = .int .u64 M) (fun _ i => n - (intOf i).toNat)
    case atStart => exact ⟨0, m, by omega, rfl, rfl, rfl⟩
    case round =>
      obtain ⟨k, M, hk, hM, rfl, rfl⟩ := hrel
      by_cases h : (k : Int) < n
      · have hc := HC.out k (by have := HN.out; omega)
        have s : Hid (M ||| bv (xs.getD k 0) = wl m (xs.take (k + 1))) := by
          rw [hM.out, take_snoc xs k (by have := HN.out; omega)]
          exact (wl_snoc _ _ _).symm
        have lM : M < 18446744073709551616 := by rw [hM.out]; exact wl_lt _ _ HM.out
        have hb := bits_or_u64_nat M (bv (xs.getD k 0)) lM (bv_lt _)
        generalize xs.getD k 0 = c at *
        have B : Hid (∀ w, _) := fun w => bit_any c w
        generalize M ||| bv c = M2 at *
        generalize bv c = q at *
        clear lM
        go_wp2_with (go_at_call 37; refine (B.out _).mono ?_; rintro e w' ⟨rfl, rfl⟩)
        go_round
        case rel => exact ⟨k + 1, M2, by omega, s, by go_num, rfl⟩
        case measure => simp [intOf]; omega
      · have e : M = R := by
          have a := HN.out
          have b : k = xs.length := by omega
          rw [hM.out, ← HR.out, b, List.take_length]
        subst e
        go_wp2
        go_ret
        exact ⟨rfl, rfl⟩

set_option maxHeartbeats 400000 in
theorem of_any (xs : List Int) (v : Value) (w : World) (hl : (xs.length : Int) ≤ 1000) (hr : Row w v xs) :
    Calls Tryd.prog 10 #[v] w fun e w' => e = .returned (.int .u64 (wl 0 xs : Nat)) ∧ w' = w := by
  have W : Hid (∀ _ : Unit, _) := fun _ => with_any 0 xs v w (by omega) hl hr
  generalize wl 0 xs = P at *
  clear hl hr
  go_enter Tryd.func10, Tryd.ntmps10
  go_wp2_with (go_at_call 14; refine (W.out ()).mono ?_; rintro e w' ⟨rfl, rfl⟩)
  go_ret
  exact ⟨rfl, rfl⟩

set_option maxHeartbeats 400000 in
theorem refof_any (xs : List Int) (v : Value) (w : World) (hl : (xs.length : Int) ≤ 1000) (hr : Row w v xs) :
    Calls Tryd.prog 11 #[v] w fun e w' => e = .returned (.int .u64 (wl 0 xs : Nat)) ∧ w' = w := by
  rcases hr with ⟨rfl, a, cap, rfl⟩ | ⟨b, off, cap, rfl, hc⟩
  · rw [show wl 0 [] = 0 from rfl]
    clear hl
    go_enter Tryd.func11, Tryd.ntmps11
    go_wp2
    go_loop [3, 4] (fun a i => a = .int .u64 0 ∧ i = .int .i64 0) (fun _ _ => 0)
    case atStart => exact ⟨rfl, rfl⟩
    case round =>
      obtain ⟨rfl, rfl⟩ := hrel
      go_wp2
      go_ret
      exact ⟨rfl, rfl⟩
  · have HC : Hid (∀ i, i < xs.length → w.cell? ⟨b, off + i, none⟩ = some (.int .i64 (xs.getD i 0))) := hc
    obtain ⟨n, hn⟩ : ∃ n, xs.length = n := ⟨_, rfl⟩
    have HN : Hid (xs.length = n) := hn
    obtain ⟨R, hR⟩ : ∃ R, wl 0 xs = R := ⟨_, rfl⟩
    have HR : Hid (wl 0 xs = R) := hR
    rw [hn] at hl ⊢
    rw [hR]
    clear hc hn hR
    go_enter Tryd.func11, Tryd.ntmps11
    go_wp2
    go_loop [3, 4] (fun a i => ∃ k M : Nat, (k : Int) ≤ n ∧ Hid (M = wl 0 (xs.take k)) ∧ i = .int .i64 k ∧ a = .int .u64 M) (fun _ i => n - (intOf i).toNat)
    case atStart => exact ⟨0, 0, by omega, rfl, rfl, rfl⟩
    case round =>
      obtain ⟨k, M, hk, hM, rfl, rfl⟩ := hrel
      by_cases h : (k : Int) < n
      · have hc := HC.out k (by have := HN.out; omega)
        have s : Hid (M ||| bv (xs.getD k 0) = wl 0 (xs.take (k + 1))) := by
          rw [hM.out, take_snoc xs k (by have := HN.out; omega)]
          exact (wl_snoc _ _ _).symm
        have lM : M < 18446744073709551616 := by rw [hM.out]; exact wl_lt _ _ (by omega)
        generalize xs.getD k 0 = c at *
        have B : Hid (∀ w, _) := fun w => refwith_any M c w lM
        generalize M ||| bv c = M2 at *
        clear lM
        go_wp2_with (go_at_call 9; refine (B.out _).mono ?_; rintro e w' ⟨rfl, rfl⟩)
        go_round
        case rel => exact ⟨k + 1, M2, by omega, s, by go_num, rfl⟩
        case measure => simp [intOf]; omega
      · have e : M = R := by
          have a := HN.out
          have b : k = xs.length := by omega
          rw [hM.out, ← HR.out, b, List.take_length]
        subst e
        go_wp2
        go_ret
        exact ⟨rfl, rfl⟩

theorem Tab.below {w w' : World} (ht : Tab w) (hs : 0 < w.heap.size) (hb : Below w.heap.size w w') : Tab w' := by
  intro i hi
  rw [hb.cell (p := ⟨0, i, none⟩) hs]
  exact ht i hi

theorem row1 (w : World) (n : Nat) : Row (w.alloc (.cells #[.int .i64 (n : Int)] 3)) (.slice (some ⟨w.heap.size, 0, none⟩) 1 1) [(n : Int)] := by
  refine Or.inr ⟨w.heap.size, 0, 1, rfl, fun i hi => ?_⟩
  match i, hi with
  | 0, _ => simp

theorem row4 (w : World) (a b c d : Int) : Row (w.alloc (.cells #[.int .i64 a, .int .i64 b, .int .i64 c, .int .i64 d] 3)) (.slice (some ⟨w.heap.size, 0, none⟩) 4 4) [a, b, c, d] := by
  refine Or.inr ⟨w.heap.size, 0, 4, rfl, fun i hi => ?_⟩
  match i, hi with
  | 0, _ => simp
  | 1, _ => simp
  | 2, _ => simp
  | 3, _ => simp

set_option maxHeartbeats 1000000 in
theorem known_yes (w : World) (ht : Tab w) (hs : 0 < w.heap.size) :
    Calls Tryd.prog 8 #[] w fun e w' => e = .returned (.bool true) ∧ Below w.heap.size w w' := by
  have hb : Hid (∀ o, Below w.heap.size w (w.alloc o)) := fun o => (Below.refl _ _).alloc (Nat.le_refl _) o
  have O : Hid (∀ _ : Unit, _) := fun _ => of_any [1, 5, 64, -1] _ _ (by decide) (row4 w 1 5 64 (-1))
  have N : Hid (∀ w, _ → _) := fun w ht => next_any 34 5 w (by decide) (by decide) ht
  have F : Hid (∀ w, _ → _) := fun w ht => first_any 0 w (by decide) ht
  have H5 : Hid (∀ w, _) := fun w => has_any 34 5 w (by decide)
  have H2 : Hid (∀ w, _) := fun w => has_any 34 2 w (by decide)
  rw [show wl 0 [1, 5, 64, -1] = 34 by decide] at O
  rw [show nx 34 5 = [1, 5] by decide, show hd [1, 5] = 1 by decide, show er [1, 5] = 0 by decide] at N
  rw [ls_zero, show hd [] = 0 by decide, show er [] = 12 by decide] at F
  rw [show tb 34 5 = true by decide] at H5
  rw [show tb 34 2 = false by decide] at H2
  have HT : Hid (∀ o, Tab (w.alloc o)) := fun o => ht.below hs (hb.out o)
  clear ht
  go_enter Tryd.func8, Tryd.ntmps8
  go_wp2_with fail
  refine (O.out ()).mono ?_
  rintro e w1 ⟨rfl, rfl⟩
  go_wp2_with fail
  refine (N.out _ (HT.out _)).mono ?_
  rintro e w1 ⟨rfl, rfl⟩
  go_wp2_with fail
  refine (F.out _ (HT.out _)).mono ?_
  rintro e w1 ⟨rfl, rfl⟩
  go_wp2_with fail
  refine (H5.out _).mono ?_
  rintro e w1 ⟨rfl, rfl⟩
  go_wp2_with fail
  refine (H2.out _).mono ?_
  rintro e w1 ⟨rfl, rfl⟩
  go_wp2
  go_ret
  exact ⟨rfl, hb.out _⟩
end Go.Proofs.YtojpeanakjefoaaDoor
