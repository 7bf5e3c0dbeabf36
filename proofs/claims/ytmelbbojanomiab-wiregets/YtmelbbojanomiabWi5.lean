/- What the program's putNumber and Put answer, for all events. -/
import Derived.Test.YtmelbbojanomiabRows
import Derived.Test.YtmelbbojanomiabWi3
import Derived.WalkKit
import Derived.ProofKit
import Derived.OpenShut
import Derived.BigQuiet
import Derived.Laws.MakeOwn
namespace Go.Proofs.Ytmelbbojanomiab
open Go.ChangeShapes Go.WideShapes Go.ChangeAt Go.RowKit
open Wi0

abbrev BG := OG by8 5
theorem bg_one {w wr : World} {v : Value} {xs : List Nat} (x : Nat) (g : BG w wr v xs) (hl : (xs.length : Int) ≤ 100000) :
    ∃ v' w2, (Builtin.append_ #[22, 22] 22 #[v, .slice (some ⟨wr.heap.size, 0, none⟩) 1 1]).run Try.prog (wr.alloc (.cells #[.int .u8 (x : Nat)] 5)) = .ok v' w2 ∧ BG w w2 v' (xs ++ [x]) := by
  obtain ⟨i0, hi, hz0, hz1, hz2⟩ := info_parts Try.info8
  exact og_app 5 22 22 i0 (.int .u8 0) 1 Try.underlying22 hi hz0 hz1 hz2 rfl one_by8 g ((Below.refl _ _).alloc (Nat.le_refl _) _) (orow_new (c := by8) wr [x] 5 1 1 rfl) (fun a cap h => by simp at h) (by simp only [List.length_singleton, maxLen]; omega) (by simp only [List.length_singleton]; omega)
theorem bg_many {w wr wb : World} {v u : Value} {xs ys : List Nat} (g : BG w wr v xs) (e : Below wr.heap.size wr wb) (r : ORow by8 wb u ys) (hu : ∀ a cap, u = .slice a 0 cap → a = none → cap = 0) (hl : (xs.length : Int) ≤ 100000) (hy : (ys.length : Int) ≤ 100000) :
    ∃ v' w2, (Builtin.append_ #[22, 22] 22 #[v, u]).run Try.prog wb = .ok v' w2 ∧ BG w w2 v' (xs ++ ys) := by
  obtain ⟨i0, hi, hz0, hz1, hz2⟩ := info_parts Try.info8
  exact og_app 5 22 22 i0 (.int .u8 0) 1 Try.underlying22 hi hz0 hz1 hz2 rfl one_by8 g e r hu (by simp only [maxLen]; omega) (by omega)

set_option maxRecDepth 100000 in
set_option maxHeartbeats 2000000 in
theorem putnumber_any (w0 w : World) (v : Value) (xs : List Nat) (n : Int) (g : BG w0 w v xs) (hl : (xs.length : Int) ≤ 1000) (hn : I6 n) :
    Calls Try.prog 20 #[v, .int .i64 n] w fun e w' => ∃ v', e = .returned v' ∧ BG w0 w' v' (xs ++ wd n :: bs n (wd n)) := by
  have C : Hid (∀ w, _) := fun w => width_any n w hn
  obtain ⟨c1, c8⟩ := wd_le n
  obtain ⟨c, hc⟩ : ∃ c, wd n = c := ⟨_, rfl⟩
  rw [hc] at C c1 c8 ⊢
  have cl : (1 : Int) ≤ c := by omega
  have ch : (c : Int) ≤ 8 := by omega
  have cw : IntKind.u8.wrap (c : Int) = (c : Nat) := by simp [IntKind.wrap, IntKind.bits, IntKind.signed]; omega
  obtain ⟨v1, w1, hrun, g1⟩ := bg_one (wr := w) c g (by omega)
  have G1 : Hid (BG w0 w1 v1 (xs ++ [c])) := g1
  obtain ⟨av, cv, hv⟩ := g.shape
  subst hv
  have HL : Hid ((xs.length : Int) ≤ 1000) := hl
  clear g g1 hl hc c1 c8
  go_enter Try.func20, Try.ntmps20
  go_wp2_with fail
  refine (C.out _).mono ?_
  rintro e w' ⟨rfl, e0⟩
  subst e0
  go_wp2_with (at_builtin; refine wpList_rung rfl (.tmp 9) (.tmp 12) 22 rfl rfl rfl hrun ?_)
  go_loopw [0, 6] (fun u i wr => ∃ (j : Nat) (T : List Nat), (j : Int) ≤ c ∧ T ++ bs n j = bs n c ∧ BG w0 wr u (xs ++ c :: T) ∧ i = .int .i64 ((j : Int) - 1)) (fun _ i _ => ((intOf i) + 1).toNat)
  case atStart => exact ⟨c, [], by omega, rfl, G1.out, by go_num⟩
  case round =>
    obtain ⟨j, T, hj, hT, g, rfl⟩ := hrel
    by_cases q : (1 : Int) ≤ j
    · obtain ⟨k, rfl⟩ : ∃ k, j = k + 1 := ⟨j - 1, by omega⟩
      have eb : n / 2 ^ (8 * k) % 256 = ((bt n k : Nat) : Int) := by unfold bt; omega
      have NT : Hid ((T ++ [bt n k]) ++ bs n k = bs n c) := by
        show (T ++ [bt n k]) ++ bs n k = bs n c
        rw [List.append_assoc]
        exact hT
      generalize bt n k = x at *
      obtain ⟨v2, w2, hrun2, g2⟩ := bg_one (wr := wr) x g (by
        have h1 := congrArg List.length hT
        rw [List.length_append, bs_len, bs_len] at h1
        rw [List.length_append, List.length_cons]
        have := HL.out
        omega)
      have G2 : Hid (BG w0 w2 v2 (xs ++ c :: (T ++ [x]))) := by
        have e : xs ++ c :: (T ++ [x]) = (xs ++ c :: T) ++ [x] := by simp
        show BG w0 w2 v2 (xs ++ c :: (T ++ [x]))
        rw [e]
        exact g2
      clear g g2 hT hrun
      go_wp2_with (at_builtin; refine wpList_rung rfl (.tmp 20) (.tmp 26) 22 rfl rfl rfl hrun2 ?_)
      go_roundw
      case rel => exact ⟨k, T ++ [x], by omega, NT.out, G2.out, by go_num⟩
      case measure => simp [intOf]; try omega
    · obtain rfl : j = 0 := by omega
      have e : T = bs n c := by simpa [bs] using hT
      subst e
      have G2 : Hid (BG w0 wr _ (xs ++ c :: bs n c)) := g
      clear g hT hrun
      go_wp2
      go_ret
      exact ⟨_, rfl, G2.out⟩
end Go.Proofs.Ytmelbbojanomiab
