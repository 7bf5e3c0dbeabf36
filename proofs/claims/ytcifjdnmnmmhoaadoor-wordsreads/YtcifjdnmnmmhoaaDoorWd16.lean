/- Events as lines: the document's masks as words, and back. -/
import Derived.Test.YtcifjdnmnmmhoaaDoorRows
import Derived.Test.YtcifjdnmnmmhoaaDoorWd15
import Derived.WalkKit
import Derived.ProofKit
import Derived.OpenShut
import Derived.BigQuiet
import Derived.WalkSmall
import Derived.WalkSpells
namespace Go.Proofs.YtcifjdnmnmmhoaaDoor
open Go.ChangeShapes Go.WideShapes Go.ChangeAt Go.RowKit
open Wd Mm
set_option linter.unusedVariables false
set_option linter.unusedSimpArgs false
set_option maxRecDepth 100000

theorem joinTail_snoc (s : List UInt8) (r : List (List UInt8)) (y : List UInt8) : Lib.joinTail s (r ++ [y]) = Lib.joinTail s r ++ (s ++ y) := by simp [Lib.joinTail]
theorem join_snoc (xs : List (List UInt8)) (y : List UInt8) (h : xs ≠ []) : Lib.join (xs ++ [y]) [44] = Lib.join xs [44] ++ [44] ++ y := by
  cases xs with
  | nil => exact absurd rfl h
  | cons x r =>
    rw [List.cons_append, Lib.join_cons, Lib.join_cons, joinTail_snoc]
    simp

set_option maxHeartbeats 4000000 in
theorem rcpus_any (m : Nat) (w : World) (hm : m < 18446744073709551616) :
    Calls Tryd.prog 37 #[.int .u64 m] w fun e w' => e = .returned (.string (sb (cps m))) ∧ Below w.heap.size w w' := by
  have CL : Hid (∀ w, _) := fun w => kreflist_any m w hm
  have CD : Hid (∀ n, inR n → ∀ w, _) := fun n hn w => rnum_any n hn w
  have HR : Hid (∀ k, k < (ls m).length → inR ((lz m).getD k 0) ∧ (Lib.itoa ((lz m).getD k 0)).length ≤ 2) := fun k hk => by
    rw [lz_at m k hk]
    have h := ls_lt m _ (List.getElem_mem hk)
    exact ⟨by unfold inR; omega, small_len ⟨_, h⟩⟩
  have TK : Hid (∀ k, k < (ls m).length → _) := fun k hk => ls_take m k hk
  have hL := ls_le m
  have hQ : Lib.join ((ls m).map fun k : Nat => Lib.itoa k) [44] = cps m := rfl
  have LZ : (lz m).length = (ls m).length := lz_len m
  have TE : (ls m).take (ls m).length = ls m := List.take_length
  have JL : Hid (∀ k, (Lib.join (((ls m).take k).map fun k : Nat => Lib.itoa k) [44]).length ≤ 192) := fun k => by
    have h := join_len 44 2 (((ls m).take k).map fun k : Nat => Lib.itoa k) (fun w hw => by
      obtain ⟨j, hj, rfl⟩ := List.mem_map.1 hw
      exact small_len ⟨j, ls_lt m j (List.mem_of_mem_take hj)⟩)
    rw [List.length_map, List.length_take] at h
    omega
  generalize hq : (fun k : Nat => Lib.itoa (k : Int)) = F at *
  generalize cps m = Q at *
  generalize lz m = Z at *
  generalize ls m = Y at *
  obtain ⟨N, hN⟩ : ∃ N, Y.length = N := ⟨_, rfl⟩
  have HN : Hid (Y.length = N) := hN
  have HQ : Hid (Lib.join (Y.map F) [44] = Q) := hQ
  have HZ : Hid (Z.length = N) := by rw [← hN]; exact LZ
  have HT : Hid (Y.take N = Y) := by rw [← hN]; exact TE
  rw [hN] at hL HR TK
  clear hm hq hQ LZ TE hN
  go_enter Tryd.func37, Tryd.ntmps37
  go_wp2_with fail
  refine (CL.out _).mono ?_
  rintro e w1 ⟨v, rfl, rw1, b1⟩
  obtain ⟨a, cap, rfl⟩ := rw1.shape
  have RW : Hid (Row w1 (.slice a Z.length cap) Z) := rw1
  have B1 : Hid (Below w.heap.size w w1) := b1
  rw [HZ.out] at RW ⊢
  clear rw1 b1 CL
  go_wp2
  go_loop [3, 5] (fun s i => ∃ k : Nat, (k : Int) ≤ N ∧ i = .int .i64 k ∧ s = .string (sb (Lib.join ((Y.take k).map F) [44]))) (fun _ i => N - (intOf i).toNat)
  case atStart => exact ⟨0, by omega, rfl, rfl⟩
  case round =>
    obtain ⟨k, hk, rfl, rfl⟩ := hrel
    by_cases h : (k : Int) < N
    · obtain ⟨b0, off, rfl, hc⟩ := row_cell (wr := w1) RW.out HZ.out (Below.refl _ _) h
      have DR := HR.out k (by omega)
      have TK1 := TK.out k (by omega)
      have J0 := JL.out k
      have JS : Hid ((k = 0 → Lib.join ((Y.take (k + 1)).map F) [44] = Lib.itoa (Z.getD k 0)) ∧ (0 < k → Lib.join ((Y.take (k + 1)).map F) [44] = Lib.join ((Y.take k).map F) [44] ++ [44] ++ Lib.itoa (Z.getD k 0))) := by
        show _ ∧ _
        rw [TK1]
        refine ⟨fun h0 => by subst h0; simp [Lib.join_one], fun h0 => join_snoc _ _ ?_⟩
        intro e
        have := congrArg List.length e
        rw [List.length_map, List.length_take, HN.out] at this
        simp at this
        omega
      have X0 : k = 0 → Lib.join ((Y.take k).map F) [44] = [] := fun h0 => by subst h0; rfl
      generalize Z.getD k 0 = x at *
      generalize Lib.join ((Y.take k).map F) [44] = X at *
      have CD1 : Hid (∀ w, _) := fun w => CD.out x DR.1 w
      have dl := DR.2
      by_cases h0 : k = 0
      · have e1 := JS.out.1 h0
        have hX := X0 h0
        have q : ¬ (0 : Int) < (k : Int) := by omega
        have q2 : decide ((0 : Int) < (k : Int)) = false := decide_eq_false q
        have A2 : ∀ W, (Op.stringOp .add (sb X) (sb (Lib.itoa x))).run Tryd.prog W = .ok (.string (sb (Lib.join ((Y.take (k + 1)).map F) [44]))) W := fun W => by
          rw [e1, add_str _ _ (by omega), hX]
          rfl
        have hE : Hid (Lib.join ((Y.take (k + 1)).map F) [44] = Lib.join ((Y.take (k + 1)).map F) [44]) := rfl
        generalize hT : Lib.join ((Y.take (k + 1)).map F) [44] = T at A2
        have HT2 : Hid (T = Lib.join ((Y.take (k + 1)).map F) [44]) := hT.symm
        clear hE hT e1 hX X0 JS TK1 J0 DR dl h0
        go_wp2_with fail
        refine (CD1.out _).mono ?_
        rintro e u ⟨rfl, rfl⟩
        go_wp2
        go_round
        case rel => exact ⟨k + 1, by omega, by go_num, by rw [HT2.out]⟩
        case measure => simp [intOf]; omega
      · have e1 := JS.out.2 (by omega)
        have q : (0 : Int) < (k : Int) := by omega
        have A1 : ∀ W, (Op.stringOp .add (sb X) (sb [44])).run Tryd.prog W = .ok (.string (sb (X ++ [44]))) W := fun W => add_str _ _ (by have : [(44 : UInt8)].length = 1 := rfl; omega) W
        have A2 : ∀ W, (Op.stringOp .add (sb (X ++ [44])) (sb (Lib.itoa x))).run Tryd.prog W = .ok (.string (sb (Lib.join ((Y.take (k + 1)).map F) [44]))) W := fun W => by
          rw [e1]
          exact add_str _ _ (by rw [List.length_append]; have : [(44 : UInt8)].length = 1 := rfl; omega) W
        generalize hT : Lib.join ((Y.take (k + 1)).map F) [44] = T at A2
        have HT2 : Hid (T = Lib.join ((Y.take (k + 1)).map F) [44]) := hT.symm
        clear hT e1 X0 JS TK1 J0 DR dl h0
        go_wp2_with fail
        refine (CD1.out _).mono ?_
        rintro e u ⟨rfl, rfl⟩
        go_wp2
        go_round
        case rel => exact ⟨k + 1, by omega, by go_num, by rw [HT2.out]⟩
        case measure => simp [intOf]; omega
    · obtain rfl : k = N := by omega
      rw [HT.out, HQ.out]
      go_wp2
      go_ret
      exact ⟨rfl, B1.out⟩

/-- What a word answers. -/
def MAP (s : List UInt8) (r : Ending) : Prop := ∃ (n : Nat) (b : Bool), r = .returned (.tuple #[.int .u64 (n : Nat), .bool b]) ∧ ((mskOf s = some n ∧ b = true) ∨ (mskOf s = none ∧ b = false))
theorem map_yes {s : List UInt8} {n : Nat} (h : mskOf s = some n) : MAP s (.returned (.tuple #[.int .u64 (n : Nat), .bool true])) := ⟨n, true, rfl, Or.inl ⟨h, rfl⟩⟩
theorem map_no {s : List UInt8} {n : Int} (h : mskOf s = none) (hn : 0 ≤ n) : MAP s (.returned (.tuple #[.int .u64 n, .bool false])) := by
  obtain ⟨k, rfl⟩ := Int.eq_ofNat_of_zero_le hn
  exact ⟨k, false, rfl, Or.inr ⟨h, rfl⟩⟩

set_option maxHeartbeats 4000000 in
theorem rmask_any (s : List UInt8) (hl : s.length ≤ 300) (w : World) :
    Calls Tryd.prog 29 #[.string (sb s)] w fun r w' => MAP s r ∧ Below w.heap.size w w' := by
  by_cases h0 : s = []
  · subst h0
    have q : (([] : List UInt8) == []) = true := rfl
    have M0 : Hid (MAP [] (.returned (.tuple #[.int .u64 ((0 : Nat) : Int), .bool true]))) := map_yes rfl
    go_enter Tryd.func29, Tryd.ntmps29
    go_wp2
    go_ret2
    exact ⟨M0.out, Below.refl _ _⟩
  · have q : (s == []) = false := by rw [beq_eq_false_iff_ne]; exact h0
    have q2 : ¬ s = [] := h0
    have CS : Hid (∀ w, _) := fun w => rsplit_any 44 s (by omega) w
    have CN : Hid (∀ x ∈ parts 44 s, ∀ w, _) := fun x hx w => number_any x (by have := parts_le 44 s x hx; omega) w
    have CC : Hid (∀ n, n < 18446744073709551616 → ∀ w, _) := fun n hn w => rcpus_any n w hn
    have CW : Hid (∀ m (c : Int), m < 18446744073709551616 → ∀ w, _) := fun m c hm w => krefwith_any m c w hm
    have hP : (parts 44 s).length ≤ 301 := by
      rw [parts_length]
      have := List.count_le_length (a := (44 : UInt8)) (l := s)
      omega
    have FN : Hid (∀ k (hk : k < (parts 44 s).length) vs, nums ((parts 44 s).take k) = some vs → numOf (parts 44 s)[k] = none → mskOf s = none) := fun k hk vs h1 h2 => mskOf_part h0 (by
      rw [split_next (parts 44 s) k hk]
      exact nums_head_none h2)
    have FF : Hid (∀ k (hk : k < (parts 44 s).length) vs n, nums ((parts 44 s).take k) = some vs → numOf (parts 44 s)[k] = some n → (n < 0 ∨ 63 < n) → mskOf s = none) := fun k hk vs n h1 h2 h3 => by
      cases hq : nums (parts 44 s) with
      | none => exact mskOf_part h0 hq
      | some all =>
        refine mskOf_far h0 hq ⟨n, ?_, h3⟩
        have e := split_next (parts 44 s) k hk
        rw [e, nums_app, h1] at hq
        simp only [Option.bind_some, nums, h2] at hq
        cases hr : nums ((parts 44 s).drop (k + 1)) with
        | none => rw [hr] at hq; cases hq
        | some r => rw [hr] at hq; have := Option.some.inj hq; rw [← this]; simp
    have FS : Hid (∀ k (hk : k < (parts 44 s).length) vs n, nums ((parts 44 s).take k) = some vs → numOf (parts 44 s)[k] = some n → nums ((parts 44 s).take (k + 1)) = some (vs ++ [n])) := fun k hk vs n h1 h2 => by
      rw [take_next _ k hk, nums_snoc, h1, h2]
      rfl
    have FE : Hid (∀ vs, nums (parts 44 s) = some vs → mskOf s = if cps (wl 0 vs) = s then some (wl 0 vs) else none) := fun vs h => mskOf_all h0 h
    have FT : Hid ((parts 44 s).take (parts 44 s).length = parts 44 s) := List.take_length
    generalize hps : parts 44 s = P at *
    clear hps h0 hl
    go_enter Tryd.func29, Tryd.ntmps29
    go_wp2_with fail
    refine (CS.out _).mono ?_
    rintro e w1 ⟨v, rfl, O⟩
    have HB : Hid (Below w.heap.size w w1) := O.bel
    obtain ⟨a, cap, rfl⟩ := O.shape
    have HR : Hid (ORow str w1 (.slice a P.length cap) P) := O.row
    clear O CS
    go_wp2
    go_loopw [5, 6] (fun m i wr => ∃ (k M : Nat) (vs : List Int), (k : Int) ≤ P.length ∧ i = .int .i64 k ∧ m = .int .u64 M ∧ Hid (nums (P.take k) = some vs) ∧ Hid (M = wl 0 vs) ∧ Hid (wr = w1)) (fun _ i _ => P.length - (intOf i).toNat)
    case atStart => exact ⟨0, 0, [], by omega, rfl, rfl, rfl, rfl, rfl⟩
    case round =>
      obtain ⟨k, M, vs, hk, rfl, rfl, hv, hM, hw⟩ := hrel
      obtain rfl : wr = w1 := hw.out
      have M64 : M < 18446744073709551616 := by rw [hM.out]; exact wl_lt 0 vs (by omega)
      by_cases h : (k : Int) < P.length
      · have hkP : k < P.length := by omega
        obtain ⟨b0, off, rfl, hlt, hc0⟩ := orow_cell HR.out (List.getElem?_eq_getElem hkP)
        have CN1 : Hid (∀ w, _) := fun w => CN.out P[k] (List.getElem_mem hkP) w
        have SN := FN.out k hkP vs hv.out
        have SF := FF.out k hkP vs
        have SS := FS.out k hkP vs
        unfold str at hc0
        generalize P[k] = x at *
        clear hkP hlt FN FF FS FT
        go_wp2_with fail
        refine (CN1.out _).mono ?_
        rintro e u ⟨⟨n, b, rfl, hn⟩, rfl⟩
        rcases hn with ⟨hx, rfl⟩ | ⟨hx, rfl⟩
        · by_cases hr : n < 0 ∨ 63 < n
          · have M0 : Hid (MAP s (.returned (.tuple #[.int .u64 0, .bool false]))) := map_no (SF n hv.out hx hr) (by omega)
            clear SN SF SS hx CN1 FE
            rcases hr with hr | hr
            · go_wp2
              go_ret2
              exact ⟨M0.out, HB.out⟩
            · have hr2 : ¬ n < 0 := by omega
              have hr3 : decide (n < 0) = false := decide_eq_false hr2
              go_wp2
              go_ret2
              exact ⟨M0.out, HB.out⟩
          · have hr2 : ¬ n < 0 := by omega
            have hr3 : decide (n < 0) = false := decide_eq_false hr2
            have hr4 : ¬ 63 < n := by omega
            have hr5 : decide (63 < n) = false := decide_eq_false hr4
            have S1 : Hid _ := SS n hv.out hx
            have C1 : Hid (∀ w, _) := fun w => CW.out M n M64 w
            have S2 : Hid (M ||| bv n = wl 0 (vs ++ [n])) := by show _ = _; rw [wl_snoc, hM.out]
            generalize M ||| bv n = M2 at *
            clear SN SF SS hx CN1 FE hr hM hv
            go_wp2_with fail
            refine (C1.out _).mono ?_
            rintro e u2 ⟨rfl, rfl⟩
            go_wp2
            go_roundw
            case rel => exact ⟨k + 1, M2, _, by omega, by go_num, rfl, S1, S2, trivial⟩
            case measure => simp [intOf]; omega
        · have M0 : Hid (MAP s (.returned (.tuple #[.int .u64 0, .bool false]))) := map_no (SN hx) (by omega)
          clear SN SF SS hx CN1 FE
          go_wp2
          go_ret2
          exact ⟨M0.out, HB.out⟩
      · obtain rfl : k = P.length := by omega
        have hv2 := hv.out
        rw [FT.out] at hv2
        have FE1 := FE.out vs hv2
        rw [← hM.out] at FE1
        have C1 : Hid (∀ w, _) := fun w => CC.out M M64 w
        clear FE FT FS FF FN hv2 hv hM CC CN CW
        by_cases hc : cps M = s
        · rw [if_pos hc] at FE1
          have M0 : Hid (MAP s (.returned (.tuple #[.int .u64 (M : Nat), .bool true]))) := map_yes FE1
          have q3 : (cps M == s) = true := by rw [beq_iff_eq]; exact hc
          clear FE1 hc
          go_wp2_with fail
          refine (C1.out _).mono ?_
          rintro e u2 ⟨rfl, b2⟩
          go_wp2
          go_ret2
          exact ⟨M0.out, HB.out.trans (b2.mono HB.out.size)⟩
        · rw [if_neg hc] at FE1
          have M0 : Hid (MAP s (.returned (.tuple #[.int .u64 (M : Nat), .bool false]))) := map_no FE1 (by omega)
          have q3 : (cps M == s) = false := by rw [beq_eq_false_iff_ne]; exact hc
          clear FE1 hc
          go_wp2_with fail
          refine (C1.out _).mono ?_
          rintro e u2 ⟨rfl, b2⟩
          go_wp2
          go_ret2
          exact ⟨M0.out, HB.out.trans (b2.mono HB.out.size)⟩
end Go.Proofs.YtcifjdnmnmmhoaaDoor
