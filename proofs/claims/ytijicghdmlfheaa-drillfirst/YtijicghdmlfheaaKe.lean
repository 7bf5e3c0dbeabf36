/- What the document's And answers, for all masks. -/
import Derived.Test.YtijicghdmlfheaaRows
import Derived.Test.YtijicghdmlfheaaKd
import Derived.Test.YtijicghdmlfheaaKh
import Derived.WalkKit
import Derived.ProofKit
import Derived.OpenShut
import Derived.BigQuiet
import Derived.Laws.Bits64b
import Derived.Laws.BitsAllLaws
namespace Go.Proofs.Ytijicghdmlfheaa
open Go.ChangeShapes Go.WideShapes Go.ChangeAt Go.RowKit
open Mm

set_option maxRecDepth 100000 in
set_option maxHeartbeats 1000000 in
theorem krefand_any (m o : Nat) (w : World) (hm : m < 18446744073709551616) (ho : o < 18446744073709551616) :
    Calls Try.prog 19 #[.int .u64 m, .int .u64 o] w fun e w' => e = .returned (.int .u64 (m &&& o : Nat)) ∧ Below w.heap.size w w' := by
  obtain ⟨i0, hi, hz0, hz1, hz2⟩ := info_parts Try.info3
  have E : Hid (wl 0 (KK (fun i => m.testBit i && o.testBit i) 64) = m &&& o) := wl_and m o hm
  have CM : Hid (∀ (c : Int) (w : World), _) := fun c w => krefhas_any m c w hm
  have CO : Hid (∀ (c : Int) (w : World), _) := fun c w => krefhas_any o c w ho
  obtain ⟨p, hp⟩ : ∃ p : Nat → Bool, (fun i => m.testBit i && o.testBit i) = p := ⟨_, rfl⟩
  have HP : Hid (∀ k : Nat, (k : Int) < 64 → p k = (tb m k && tb o k)) := fun k hk => by rw [← hp, tb_bit m k hk, tb_bit o k hk]
  rw [hp] at E
  obtain ⟨R, hR⟩ : ∃ R, m &&& o = R := ⟨_, rfl⟩
  rw [hR] at E ⊢
  clear hp hR hm ho
  go_enter Try.func19, Try.ntmps19
  go_wp2
  go_loopw [5, 6] (fun v i wr => ∃ k : Nat, (k : Int) ≤ 64 ∧ i = .int .i64 k ∧ Gat w wr v p k) (fun _ i _ => 64 - (intOf i).toNat)
  case atStart => exact ⟨0, by omega, rfl, gat_start w p⟩
  case round =>
    obtain ⟨k, hk, rfl, g⟩ := hrel
    by_cases h : (k : Int) < 64
    · have hpk := HP.out k h
      cases ha : tb m k with
      | false =>
        have C1 : Hid (∀ w, _) := fun w => CM.out k w
        rw [ha] at C1 hpk
        rw [Bool.false_and] at hpk
        have G2 := gat_drop g hpk
        clear ha hpk
        go_wp2_with fail
        refine (C1.out _).mono ?_
        rintro e w' ⟨rfl, rfl⟩
        go_wp2
        go_roundw
        case rel => exact ⟨k + 1, by omega, by go_num, G2⟩
        case measure => simp [intOf]; omega
      | true =>
        have C1 : Hid (∀ w, _) := fun w => CM.out k w
        rw [ha] at C1 hpk
        cases hb : tb o k with
        | false =>
          have C2 : Hid (∀ w, _) := fun w => CO.out k w
          rw [hb] at C2 hpk
          change p k = false at hpk
          have G2 := gat_drop g hpk
          clear ha hb hpk
          go_wp2_with fail
          refine (C1.out _).mono ?_
          rintro e w' ⟨rfl, rfl⟩
          go_wp2_with fail
          refine (C2.out _).mono ?_
          rintro e w' ⟨rfl, rfl⟩
          go_wp2
          go_roundw
          case rel => exact ⟨k + 1, by omega, by go_num, G2⟩
          case measure => simp [intOf]; omega
        | true =>
          have C2 : Hid (∀ w, _) := fun w => CO.out k w
          rw [hb] at C2 hpk
          change p k = true at hpk
          have hkl := KK_le p k
          have hsz := g.bel.size
          have HK : Hid (p k = true) := hpk
          clear ha hb hpk
          go_wp2_with fail
          refine (C1.out _).mono ?_
          rintro e w' ⟨rfl, rfl⟩
          go_wp2_with fail
          refine (C2.out _).mono ?_
          rintro e w' ⟨rfl, rfl⟩
          go_wp2_with (at_builtin; refine wpList_append_own _ rfl _ _ 23 rfl w.heap.size 3 i0 (.int .i64 0) 1 8 Try.underlying23 hi hz0 hz1 hz2 rfl (by decide) _ _ _ rfl (g.own.alloc _) ⟨_, 0, none⟩ 1 1 [.int .i64 (k : Int)] rfl rfl ?c1 ?c2 ?c3 ?c4 ?c5 ?_)
          case c1 =>
            intro j u hj
            match j, hj with
            | 0, hj => simp at hj; subst hj; exact (Blk.new _ [_] _).cell 0
          case c2 => intro u hu; simp at hu; subst hu; rfl
          case c3 => unfold maxLen; omega
          case c4 => omega
          case c5 => simp; omega
          intro v' w1 hown' hgrow _
          have G2 := gat_keep g HK.out hown' hgrow
          clear hown' hgrow
          go_wp2
          go_roundw
          case rel => exact ⟨k + 1, by omega, by go_num, G2⟩
          case measure => simp [intOf]; omega
    · obtain rfl : k = 64 := by omega
      have F : Hid (∀ _ : Unit, _) := fun _ => krefof_any (KK p 64) _ _ (by have := KK_le p 64; omega) (gat_row g)
      rw [E.out] at F
      have hbel := g.bel
      clear g
      go_wp2_with fail
      refine (F.out ()).mono ?_
      rintro e w' ⟨rfl, rfl⟩
      go_wp2
      go_ret
      exact ⟨rfl, hbel⟩

end Go.Proofs.Ytijicghdmlfheaa
