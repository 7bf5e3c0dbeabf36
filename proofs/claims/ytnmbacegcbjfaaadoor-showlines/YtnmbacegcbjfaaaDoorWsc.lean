/- The document's masks as words. -/
import Derived.Test.YtnmbacegcbjfaaaDoorWsd
import Derived.Test.YtnmbacegcbjfaaaDoorWsm
import Derived.WalkKit
import Derived.ProofKit
import Derived.OpenShut
import Derived.BigQuiet
import Derived.WalkSmall
import Derived.WalkSpells
namespace Go.Proofs.YtnmbacegcbjfaaaDoor
open Go.ChangeShapes Go.WideShapes Go.ChangeAt Go.RowKit
open Wd Mm
set_option linter.unusedVariables false
set_option linter.unusedSimpArgs false
set_option maxRecDepth 100000

theorem joinTail_snoc (s : List UInt8) (r : List (List UInt8)) (y : List UInt8) : Lib.joinTail s (r ++ [y]) = Lib.joinTail s r ++ (s ++ y) := by simp [Lib.joinTail]
theorem join_snoc (xs : List (List UInt8)) (y : List UInt8) (h : xs ≠ []) : Lib.join (xs ++ [y]) [44] = Lib.join xs [44] ++ [44] ++ y := by
  cases xs with
  | nil => exact absurd rfl h
  | cons x r =>
    rw [List.cons_append, Lib.join_cons, Lib.join_cons, joinTail_snoc]
    simp
set_option maxHeartbeats 4000000 in
theorem rcpus_any (m : Nat) (w : World) (hm : m < 18446744073709551616) :
    Calls Tryd.prog 13 #[.int .u64 m] w fun e w' => e = .returned (.string (sb (cps m))) ∧ Below w.heap.size w w' := by
  have CL : Hid (∀ w, _) := fun w => kreflist_any m w hm
  have CD : Hid (∀ n, inR n → ∀ w, _) := fun n hn w => rnum_any n hn w
  have HR : Hid (∀ k, k < (ls m).length → inR ((lz m).getD k 0) ∧ (Lib.itoa ((lz m).getD k 0)).length ≤ 2) := fun k hk => by
    rw [lz_at m k hk]
    have h := ls_lt m _ (List.getElem_mem hk)
    exact ⟨by unfold inR; omega, small_len ⟨_, h⟩⟩
  have TK : Hid (∀ k, k < (ls m).length → _) := fun k hk => ls_take m k hk
  have hL := ls_le m
  have hQ : Lib.join ((ls m).map fun k : Nat => Lib.itoa k) [44] = cps m := rfl
  have LZ : (lz m).length = (ls m).length := lz_len m
  have TE : (ls m).take (ls m).length = ls m := List.take_length
  have JL : Hid (∀ k, (Lib.join (((ls m).take k).map fun k : Nat => Lib.itoa k) [44]).length ≤ 192) := fun k => by
    have h := join_len 44 2 (((ls m).take k).map fun k : Nat => Lib.itoa k) (fun w hw => by
      obtain ⟨j, hj, rfl⟩ := List.mem_map.1 hw
      exact small_len ⟨j, ls_lt m j (List.mem_of_mem_take hj)⟩)
    rw [List.length_map, List.length_take] at h
    omega
  generalize hq : (fun k : Nat => Lib.itoa (k : Int)) = F at *
  generalize cps m = Q at *
  generalize lz m = Z at *
  generalize ls m = Y at *
  obtain ⟨N, hN⟩ : ∃ N, Y.length = N := ⟨_, rfl⟩
  have HN : Hid (Y.length = N) := hN
  have HQ : Hid (Lib.join (Y.map F) [44] = Q) := hQ
  have HZ : Hid (Z.length = N) := by rw [← hN]; exact LZ
  have HT : Hid (Y.take N = Y) := by rw [← hN]; exact TE
  rw [hN] at hL HR TK
  clear hm hq hQ LZ TE hN
  go_enter Tryd.func13, Tryd.ntmps13
  go_wp2_with fail
  refine (CL.out _).mono ?_
  rintro e w1 ⟨v, rfl, rw1, b1⟩
  obtain ⟨a, cap, rfl⟩ := rw1.shape
  have RW : Hid (Row w1 (.slice a Z.length cap) Z) := rw1
  have B1 : Hid (Below w.heap.size w w1) := b1
  rw [HZ.out] at RW ⊢
  clear rw1 b1 CL
  go_wp2
  go_loop [3, 5] (fun s i => ∃ k : Nat, (k : Int) ≤ N ∧ i = .int .i64 k ∧ s = .string (sb (Lib.join ((Y.take k).map F) [44]))) (fun _ i => N - (intOf i).toNat)
  case atStart => exact ⟨0, by omega, rfl, rfl⟩
  case round =>
    obtain ⟨k, hk, rfl, rfl⟩ := hrel
    by_cases h : (k : Int) < N
    · obtain ⟨b0, off, rfl, hc⟩ := row_cell (wr := w1) RW.out HZ.out (Below.refl _ _) h
      have DR := HR.out k (by omega)
      have TK1 := TK.out k (by omega)
      have J0 := JL.out k
      have JS : Hid ((k = 0 → Lib.join ((Y.take (k + 1)).map F) [44] = Lib.itoa (Z.getD k 0)) ∧ (0 < k → Lib.join ((Y.take (k + 1)).map F) [44] = Lib.join ((Y.take k).map F) [44] ++ [44] ++ Lib.itoa (Z.getD k 0))) := by
        show _ ∧ _
        rw [TK1]
        refine ⟨fun h0 => by subst h0; simp [Lib.join_one], fun h0 => join_snoc _ _ ?_⟩
        intro e
        have := congrArg List.length e
        rw [List.length_map, List.length_take, HN.out] at this
        simp at this
        omega
      have X0 : k = 0 → Lib.join ((Y.take k).map F) [44] = [] := fun h0 => by subst h0; rfl
      generalize Z.getD k 0 = x at *
      generalize Lib.join ((Y.take k).map F) [44] = X at *
      have CD1 : Hid (∀ w, _) := fun w => CD.out x DR.1 w
      have dl := DR.2
      by_cases h0 : k = 0
      · have e1 := JS.out.1 h0
        have hX := X0 h0
        have q : ¬ (0 : Int) < (k : Int) := by omega
        have q2 : decide ((0 : Int) < (k : Int)) = false := decide_eq_false q
        have A2 : ∀ W, (Op.stringOp .add (sb X) (sb (Lib.itoa x))).run Tryd.prog W = .ok (.string (sb (Lib.join ((Y.take (k + 1)).map F) [44]))) W := fun W => by
          rw [e1, add_str _ _ (by omega), hX]
          rfl
        have hE : Hid (Lib.join ((Y.take (k + 1)).map F) [44] = Lib.join ((Y.take (k + 1)).map F) [44]) := rfl
        generalize hT : Lib.join ((Y.take (k + 1)).map F) [44] = T at A2
        have HT2 : Hid (T = Lib.join ((Y.take (k + 1)).map F) [44]) := hT.symm
        clear hE hT e1 hX X0 JS TK1 J0 DR dl h0
        go_wp2_with fail
        refine (CD1.out _).mono ?_
        rintro e u ⟨rfl, rfl⟩
        go_wp2
        go_round
        case rel => exact ⟨k + 1, by omega, by go_num, by rw [HT2.out]⟩
        case measure => simp [intOf]; omega
      · have e1 := JS.out.2 (by omega)
        have q : (0 : Int) < (k : Int) := by omega
        have A1 : ∀ W, (Op.stringOp .add (sb X) (sb [44])).run Tryd.prog W = .ok (.string (sb (X ++ [44]))) W := fun W => add_str _ _ (by have : [(44 : UInt8)].length = 1 := rfl; omega) W
        have A2 : ∀ W, (Op.stringOp .add (sb (X ++ [44])) (sb (Lib.itoa x))).run Tryd.prog W = .ok (.string (sb (Lib.join ((Y.take (k + 1)).map F) [44]))) W := fun W => by
          rw [e1]
          exact add_str _ _ (by rw [List.length_append]; have : [(44 : UInt8)].length = 1 := rfl; omega) W
        generalize hT : Lib.join ((Y.take (k + 1)).map F) [44] = T at A2
        have HT2 : Hid (T = Lib.join ((Y.take (k + 1)).map F) [44]) := hT.symm
        clear hT e1 X0 JS TK1 J0 DR dl h0
        go_wp2_with fail
        refine (CD1.out _).mono ?_
        rintro e u ⟨rfl, rfl⟩
        go_wp2
        go_round
        case rel => exact ⟨k + 1, by omega, by go_num, by rw [HT2.out]⟩
        case measure => simp [intOf]; omega
    · obtain rfl : k = N := by omega
      rw [HT.out, HQ.out]
      go_wp2
      go_ret
      exact ⟨rfl, B1.out⟩
end Go.Proofs.YtnmbacegcbjfaaaDoor
