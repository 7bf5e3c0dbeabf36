/- What the document's Not and Upto answer, for all masks and numbers. -/
import Derived.Test.YthhgmnkgeombhaaRows
import Derived.Test.YthhgmnkgeombhaaKd
import Derived.Test.YthhgmnkgeombhaaKh
import Derived.WalkKit
import Derived.ProofKit
import Derived.OpenShut
import Derived.BigQuiet
import Derived.Laws.Bits64b
import Derived.Laws.BitsAllLaws
namespace Go.Proofs.Ythhgmnkgeombhaa
open Go.ChangeShapes Go.WideShapes Go.ChangeAt Go.RowKit
open Mm

set_option maxRecDepth 100000 in
set_option maxHeartbeats 1000000 in
theorem krefnot_any (m o : Nat) (w : World) (hm : m < 18446744073709551616) (ho : o < 18446744073709551616) :
    Calls Try.prog 63 #[.int .u64 m, .int .u64 o] w fun e w' => e = .returned (.int .u64 (nt m o : Nat)) ∧ Below w.heap.size w w' := by
  obtain ⟨i0, hi, hz0, hz1, hz2⟩ := info_parts Try.info3
  have E : Hid (wl 0 (KK (fun i => m.testBit i && !o.testBit i) 64) = nt m o) := wl_nt m o ho
  have CM : Hid (∀ (c : Int) (w : World), _) := fun c w => krefhas_any m c w hm
  have CO : Hid (∀ (c : Int) (w : World), _) := fun c w => krefhas_any o c w ho
  obtain ⟨p, hp⟩ : ∃ p : Nat → Bool, (fun i => m.testBit i && !o.testBit i) = p := ⟨_, rfl⟩
  have HP : Hid (∀ k : Nat, (k : Int) < 64 → p k = (tb m k && !tb o k)) := fun k hk => by rw [← hp, tb_bit m k hk, tb_bit o k hk]
  rw [hp] at E
  obtain ⟨R, hR⟩ : ∃ R, nt m o = R := ⟨_, rfl⟩
  rw [hR] at E ⊢
  clear hp hR hm ho
  go_enter Try.func63, Try.ntmps63
  go_wp2
  go_loopw [5, 6] (fun v i wr => ∃ k : Nat, (k : Int) ≤ 64 ∧ i = .int .i64 k ∧ Gat w wr v p k) (fun _ i _ => 64 - (intOf i).toNat)
  case atStart => exact ⟨0, by omega, rfl, gat_start w p⟩
  case round =>
    obtain ⟨k, hk, rfl, g⟩ := hrel
    by_cases h : (k : Int) < 64
    · have hpk := HP.out k h
      cases ha : tb m k with
      | false =>
        have C1 : Hid (∀ w, _) := fun w => CM.out k w
        rw [ha] at C1 hpk
        rw [Bool.false_and] at hpk
        have G2 := gat_drop g hpk
        clear ha hpk
        go_wp2_with fail
        refine (C1.out _).mono ?_
        rintro e w' ⟨rfl, rfl⟩
        go_wp2
        go_roundw
        case rel => exact ⟨k + 1, by omega, by go_num, G2⟩
        case measure => simp [intOf]; omega
      | true =>
        have C1 : Hid (∀ w, _) := fun w => CM.out k w
        rw [ha] at C1 hpk
        cases hb : tb o k with
        | false =>
          have C2 : Hid (∀ w, _) := fun w => CO.out k w
          rw [hb] at C2 hpk
          change p k = true at hpk
          have hkl := KK_le p k
          have hsz := g.bel.size
          have HK : Hid (p k = true) := hpk
          clear ha hb hpk
          go_wp2_with fail
          refine (C1.out _).mono ?_
          rintro e w' ⟨rfl, rfl⟩
          go_wp2_with fail
          refine (C2.out _).mono ?_
          rintro e w' ⟨rfl, rfl⟩
          go_wp2_with (at_builtin; refine wpList_append_own _ rfl _ _ 37 rfl w.heap.size 3 i0 (.int .i64 0) 1 8 Try.underlying37 hi hz0 hz1 hz2 rfl (by decide) _ _ _ rfl (g.own.alloc _) ⟨_, 0, none⟩ 1 1 [.int .i64 (k : Int)] rfl rfl ?c1 ?c2 ?c3 ?c4 ?c5 ?_)
          case c1 =>
            intro j u hj
            match j, hj with
            | 0, hj => simp at hj; subst hj; exact (Blk.new _ [_] _).cell 0
          case c2 => intro u hu; simp at hu; subst hu; rfl
          case c3 => unfold maxLen; omega
          case c4 => omega
          case c5 => simp; omega
          intro v' w1 hown' hgrow _
          have G2 := gat_keep g HK.out hown' hgrow
          clear hown' hgrow
          go_wp2
          go_roundw
          case rel => exact ⟨k + 1, by omega, by go_num, G2⟩
          case measure => simp [intOf]; omega
        | true =>
          have C2 : Hid (∀ w, _) := fun w => CO.out k w
          rw [hb] at C2 hpk
          change p k = false at hpk
          have G2 := gat_drop g hpk
          clear ha hb hpk
          go_wp2_with fail
          refine (C1.out _).mono ?_
          rintro e w' ⟨rfl, rfl⟩
          go_wp2_with fail
          refine (C2.out _).mono ?_
          rintro e w' ⟨rfl, rfl⟩
          go_wp2
          go_roundw
          case rel => exact ⟨k + 1, by omega, by go_num, G2⟩
          case measure => simp [intOf]; omega
    · obtain rfl : k = 64 := by omega
      have F : Hid (∀ _ : Unit, _) := fun _ => krefof_any (KK p 64) _ _ (by have := KK_le p 64; omega) (gat_row g)
      rw [E.out] at F
      have hbel := g.bel
      clear g
      go_wp2_with fail
      refine (F.out ()).mono ?_
      rintro e w' ⟨rfl, rfl⟩
      go_wp2
      go_ret
      exact ⟨rfl, hbel⟩

set_option maxRecDepth 100000 in
set_option maxHeartbeats 400000 in
theorem krefupto_any (n : Int) (w : World) :
    Calls Try.prog 64 #[.int .i64 n] w fun e w' => e = .returned (.int .u64 (up n : Nat)) ∧ w' = w := by
  obtain ⟨U, hU⟩ : ∃ U, up n = U := ⟨_, rfl⟩
  have HU : Hid (up n = U) := hU
  rw [hU]
  clear hU
  have R : Hid (∀ (m : Nat) (c : Int) (w : World), m < 18446744073709551616 → _) := fun m c w hm => krefwith_any m c w hm
  go_enter Try.func64, Try.ntmps64
  go_wp2_with fail
  go_loop [3, 4] (fun m i => ∃ k M : Nat, (k : Int) ≤ 64 ∧ Hid (k = 0 ∨ (k : Int) ≤ n) ∧ Hid (M = up (k : Int)) ∧ i = .int .i64 k ∧ m = .int .u64 M) (fun _ i => 64 - (intOf i).toNat)
  case atStart => exact ⟨0, 0, by omega, Or.inl rfl, rfl, rfl, rfl⟩
  case round =>
    obtain ⟨k, M, hk, hn, hM, rfl, rfl⟩ := hrel
    by_cases c1 : (k : Int) < n
    · by_cases c2 : (k : Int) < 64
      · have s : Hid (M ||| bv k = up ((k + 1 : Nat) : Int)) := by rw [hM.out]; exact up_succ k (by omega)
        have C : Hid (∀ w, _) := fun w => R.out M k w (by rw [hM.out]; exact up_lt _)
        generalize M ||| bv k = M2 at *
        go_wp2_with (go_at_call 62; refine (C.out _).mono ?_; rintro e w' ⟨rfl, rfl⟩)
        go_round
        case rel => exact ⟨k + 1, M2, by omega, Or.inr (by omega), s, by go_num, rfl⟩
        case measure => simp [intOf]; omega
      · have e : M = U := by
          rw [hM.out, ← HU.out]
          have a : up (k : Int) = 18446744073709551615 := (if_neg (show ¬(k : Int) < 1 by omega)).trans (if_pos (show (64 : Int) ≤ k by omega))
          have b : up n = 18446744073709551615 := (if_neg (show ¬n < 1 by omega)).trans (if_pos (show 64 ≤ n by omega))
          rw [a, b]
        subst e
        go_wp2
        go_ret
        exact ⟨rfl, rfl⟩
    · have e : M = U := by
        rw [hM.out, ← HU.out]
        rcases hn.out with h | h
        · subst h
          have a : up n = 0 := if_pos (show n < 1 by omega)
          rw [a]
          rfl
        · rw [show (k : Int) = n by omega]
      subst e
      go_wp2
      go_ret
      exact ⟨rfl, rfl⟩

end Go.Proofs.Ythhgmnkgeombhaa
