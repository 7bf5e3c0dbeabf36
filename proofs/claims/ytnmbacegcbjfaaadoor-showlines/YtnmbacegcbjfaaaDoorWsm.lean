/- What mask's Many and List and the document's Has and List answer, for all masks. -/
import Derived.Test.YtnmbacegcbjfaaaDoorWsb
import Derived.Test.YtnmbacegcbjfaaaDoorMq
import Derived.Test.YtnmbacegcbjfaaaDoorKj
import Derived.Test.YtnmbacegcbjfaaaDoorKh
import Derived.Test.YtnmbacegcbjfaaaDoorFj
import Derived.Laws.Bits64b
import Derived.Laws.BitsAllLaws
import Derived.WalkKit
import Derived.ProofKit
import Derived.OpenShut
import Derived.BigQuiet
import Derived.WalkSmall
import Derived.WalkSpells
namespace Go.Proofs.YtnmbacegcbjfaaaDoor
open Go.ChangeShapes Go.WideShapes Go.ChangeAt Go.RowKit
open Wd Mm
set_option linter.unusedVariables false
set_option linter.unusedSimpArgs false
set_option maxRecDepth 100000

set_option maxRecDepth 100000 in
set_option maxHeartbeats 400000 in
theorem kmany_any (a : Nat) (w : World) (ha : a < 18446744073709551616) :
    Calls Tryd.prog 29 #[.int .u64 a] w fun e w' => e = .returned (.int .i64 ((ls a).length : Nat)) ∧ w' = w := by
  have N : Hid (∀ w, _) := fun w => ones_any a w ha
  generalize (ls a).length = P at *
  clear ha
  go_enter Tryd.func29, Tryd.ntmps29
  go_wp2_with (go_at_call 45; refine (N.out _).mono ?_; rintro e w' ⟨rfl, rfl⟩)
  go_ret
  exact ⟨rfl, rfl⟩
set_option maxRecDepth 100000 in
set_option maxHeartbeats 400000 in
theorem krefhas_any (m : Nat) (c : Int) (w : World) (hm : m < 18446744073709551616) :
    Calls Tryd.prog 35 #[.int .u64 m, .int .i64 c] w fun e w' => e = .returned (.bool (tb m c)) ∧ w' = w := by
  by_cases h : 0 ≤ c ∧ c < 64
  · obtain ⟨k, rfl⟩ := Int.eq_ofNat_of_zero_le h.1
    have e := tb_some m k h
    rw [Int.toNat_natCast, Nat.testBit_eq_decide_div_mod_eq] at e
    obtain ⟨d, hd⟩ : ∃ d, m / 2 ^ k = d := ⟨_, rfl⟩
    have hd' : (m : Int) / 2 ^ k = (d : Int) := by rw [← hd]; simp
    rw [hd] at e
    have hk : (k : Int) < 64 := h.2
    have hdl : (d : Int) ≤ 18446744073709551615 := by
      have : d ≤ m := by rw [← hd]; exact Nat.div_le_self _ _
      omega
    rw [e]
    clear e h hm hd
    by_cases h1 : d % 2 = 1
    · have h2 : ((d : Int) % 2 == 1) = true := by rw [beq_iff_eq]; omega
      simp only [h1, decide_true]
      clear h1
      go_enter Tryd.func35, Tryd.ntmps35
      go_wp2
      go_ret
      exact ⟨rfl, rfl⟩
    · have h2 : ((d : Int) % 2 == 1) = false := by rw [beq_eq_false_iff_ne]; omega
      simp only [h1, decide_false]
      clear h1
      go_enter Tryd.func35, Tryd.ntmps35
      go_wp2
      go_ret
      exact ⟨rfl, rfl⟩
  · rw [tb_none m c h]
    by_cases h1 : c < 0
    · go_enter Tryd.func35, Tryd.ntmps35
      go_wp2
      go_ret
      exact ⟨rfl, rfl⟩
    · have h2 : (64 : Int) ≤ c := by omega
      clear h
      go_enter Tryd.func35, Tryd.ntmps35
      go_wp2
      go_ret
      exact ⟨rfl, rfl⟩
/-- All cores of a mask, rising, as integers. -/
def lz (m : Nat) : List Int := KK (fun i => m.testBit i) 64
theorem lz_ls (m : Nat) : lz m = (ls m).map fun k : Nat => (k : Int) := rfl
theorem row_slice {w : World} {v : Value} {xs : List Int} (h : Row w v xs) : ∃ n cap a, v = Value.slice a n cap := by
  obtain ⟨a, cap, rfl⟩ := h.shape
  exact ⟨_, _, _, rfl⟩
set_option maxRecDepth 100000 in
set_option maxHeartbeats 1000000 in
theorem kreflist_any (m : Nat) (w : World) (hm : m < 18446744073709551616) :
    Calls Tryd.prog 23 #[.int .u64 m] w fun e w' => ∃ v, e = .returned v ∧ Row w' v (lz m) ∧ Below w.heap.size w w' := by
  obtain ⟨i0, hi, hz0, hz1, hz2⟩ := info_parts Tryd.info3
  obtain ⟨p, hp⟩ : ∃ p : Nat → Bool, (fun i => m.testBit i) = p := ⟨_, rfl⟩
  have HP : Hid (∀ k : Nat, (k : Int) < 64 → p k = tb m k) := fun k hk => by rw [← hp, tb_bit m k hk]
  rw [show lz m = KK p 64 by rw [lz, hp]]
  have CM : Hid (∀ (c : Int) (w : World), _) := fun c w => krefhas_any m c w hm
  have G0 : Gat w w (.slice none 0 0) p 0 := gat_start w p
  clear hp hm
  go_enter Tryd.func23, Tryd.ntmps23
  go_wp2
  go_loopw [3, 4] (fun v i wr => ∃ k : Nat, (k : Int) ≤ 64 ∧ i = .int .i64 k ∧ Gat w wr v p k) (fun _ i _ => 64 - (intOf i).toNat)
  case atStart => exact ⟨0, by omega, rfl, G0⟩
  case round =>
    obtain ⟨k, hk, rfl, g⟩ := hrel
    by_cases h : (k : Int) < 64
    · have hpk := HP.out k h
      cases ha : tb m k with
      | false =>
        have C1 : Hid (∀ w, _) := fun w => CM.out k w
        rw [ha] at C1 hpk
        have G2 := gat_drop g hpk
        clear ha hpk
        go_wp2_with fail
        refine (C1.out _).mono ?_
        rintro e w' ⟨rfl, rfl⟩
        go_wp2
        go_roundw
        case rel => exact ⟨k + 1, by omega, by go_num, G2⟩
        case measure => simp [intOf]; omega
      | true =>
        have C1 : Hid (∀ w, _) := fun w => CM.out k w
        rw [ha] at C1 hpk
        have hkl := KK_le p k
        have hsz := g.bel.size
        have HK : Hid (p k = true) := hpk
        clear ha hpk
        go_wp2_with fail
        refine (C1.out _).mono ?_
        rintro e w' ⟨rfl, rfl⟩
        go_wp2_with (at_builtin; refine wpList_append_own _ rfl _ _ 46 rfl w.heap.size 3 i0 (.int .i64 0) 1 8 Tryd.underlying46 hi hz0 hz1 hz2 rfl (by decide) _ _ _ rfl (g.own.alloc _) ⟨_, 0, none⟩ 1 1 [.int .i64 (k : Int)] rfl rfl ?c1 ?c2 ?c3 ?c4 ?c5 ?_)
        case c1 =>
          intro j u hj
          match j, hj with
          | 0, hj => simp at hj; subst hj; exact (Blk.new _ [_] _).cell 0
        case c2 => intro u hu; simp at hu; subst hu; rfl
        case c3 => unfold maxLen; omega
        case c4 => omega
        case c5 => simp; omega
        intro v' w1 hown' hgrow _
        have G2 := gat_keep g HK.out hown' hgrow
        clear hown' hgrow
        go_wp2
        go_roundw
        case rel => exact ⟨k + 1, by omega, by go_num, G2⟩
        case measure => simp [intOf]; omega
    · obtain rfl : k = 64 := by omega
      have hrow := gat_row g
      have hbel := g.bel
      have HB : Hid (Below w.heap.size w wr) := hbel
      have HRW : Hid (Row wr _ (KK p 64)) := hrow
      obtain ⟨n, cap, a, hv⟩ : ∃ n cap a, u3 = Value.slice a n cap := row_slice hrow
      rw [hv] at HRW
      clear g hrow hbel
      go_wp2
      go_ret
      exact ⟨_, rfl, HRW.out, HB.out⟩
set_option maxRecDepth 100000 in
theorem lz_len (m : Nat) : (lz m).length = (ls m).length := by rw [lz_ls, List.length_map]
set_option maxRecDepth 100000 in
theorem lz_get (m i : Nat) : (lz m).getD i 0 = (((ls m).getD i 0 : Nat) : Int) := by
  rw [lz_ls, List.getD_eq_getElem?_getD, List.getD_eq_getElem?_getD, List.getElem?_map]
  cases (ls m)[i]? <;> rfl
set_option maxRecDepth 100000 in
theorem hd_get (xs : List Nat) : hd xs = xs.getD 0 0 := by
  cases xs <;> rfl
set_option maxRecDepth 100000 in
theorem kreflist_nil (m : Nat) (w : World) (hm : m < 18446744073709551616) (h : ls m = []) :
    Calls Tryd.prog 23 #[.int .u64 m] w fun e w' => ∃ a cap, e = .returned (.slice a 0 cap) ∧ Below w.heap.size w w' :=
  (kreflist_any m w hm).mono fun e w' ⟨v, he, hr, hb⟩ => by
    have l : lz m = [] := by rw [lz_ls, h]; rfl
    rcases hr with ⟨_, a, cap, hv⟩ | ⟨b, off, cap, hv, _⟩
    · exact ⟨a, cap, by rw [he, hv], hb⟩
    · rw [l] at hv
      exact ⟨_, cap, by rw [he, hv]; rfl, hb⟩
set_option maxRecDepth 100000 in
theorem kreflist_some (m : Nat) (w : World) (hm : m < 18446744073709551616) (h : ls m ≠ []) :
    Calls Tryd.prog 23 #[.int .u64 m] w fun e w' => ∃ b off cap, e = .returned (.slice (some ⟨b, off, none⟩) (ls m).length cap) ∧ (∀ i, i < (ls m).length → w'.cell? ⟨b, off + i, none⟩ = some (.int .i64 ((ls m).getD i 0 : Nat))) ∧ Below w.heap.size w w' :=
  (kreflist_any m w hm).mono fun e w' ⟨v, he, hr, hb⟩ => by
    rcases hr with ⟨l, _⟩ | ⟨b, off, cap, hv, _, hc⟩
    · rw [lz_ls] at l
      exact absurd (List.map_eq_nil_iff.1 l) h
    · rw [lz_len] at hv hc
      exact ⟨b, off, cap, by rw [he, hv], fun i hi => by rw [← lz_get]; exact hc i hi, hb⟩
set_option maxRecDepth 100000 in
theorem len_pos (xs : List Nat) (h : xs ≠ []) : 0 < xs.length := List.length_pos_iff.2 h
set_option maxRecDepth 100000 in
set_option maxHeartbeats 1000000 in
theorem klist_any (m : Nat) (w : World) (hm : m < 18446744073709551616) :
    Calls Tryd.prog 20 #[.int .u64 m] w fun e w' => ∃ v, e = .returned v ∧ Row w' v (lz m) ∧ Below w.heap.size w w' := by
  obtain ⟨i0, hi, hz0, hz1, hz2⟩ := info_parts Tryd.info3
  obtain ⟨p, hp⟩ : ∃ p : Nat → Bool, (fun i => m.testBit i) = p := ⟨_, rfl⟩
  have HP : Hid (∀ k : Nat, (k : Int) < 64 → p k = tb m k) := fun k hk => by rw [← hp, tb_bit m k hk]
  rw [show lz m = KK p 64 by rw [lz, hp]]
  have CM : Hid (∀ (c : Int) (w : World), _) := fun c w => khas_any m c w hm
  have CN : Hid (∀ w, _) := fun w => kmany_any m w hm
  have hN := ls_le m
  generalize (ls m).length = N at *
  clear hp hm
  go_enter Tryd.func20, Tryd.ntmps20
  go_wp2_with fail
  refine (CN.out _).mono ?_
  rintro e w' ⟨rfl, rfl⟩
  go_wp2_with (at_make; refine wpList_make_own _ rfl _ _ 46 rfl w'.heap.size 3 i0 (.int .i64 0) 1 Tryd.underlying46 hi hz0 hz1 _ _ _ N rfl rfl (by omega) (by rw [hz2]; omega) (by unfold maxLen; omega) (Nat.le_refl _) ?_; intro w0 hown0 hgrow0)
  have G0 : Gat w' w0 (.slice (some ⟨w'.heap.size, 0, none⟩) 0 N) p 0 := ⟨hown0, (Below.refl _ _).grown hgrow0 (Nat.le_refl _) (fun k hk => by cases hk)⟩
  clear hown0 hgrow0
  obtain ⟨w, rfl⟩ : ∃ w, w = w' := ⟨_, rfl⟩
  go_loopw [3, 8] (fun v i wr => ∃ k : Nat, (k : Int) ≤ 64 ∧ i = .int .i64 k ∧ Gat w wr v p k) (fun _ i _ => 64 - (intOf i).toNat)
  case atStart => exact ⟨0, by omega, rfl, G0⟩
  case round =>
    obtain ⟨k, hk, rfl, g⟩ := hrel
    by_cases h : (k : Int) < 64
    · have hpk := HP.out k h
      cases ha : tb m k with
      | false =>
        have C1 : Hid (∀ w, _) := fun w => CM.out k w
        rw [ha] at C1 hpk
        have G2 := gat_drop g hpk
        clear ha hpk
        go_wp2_with fail
        refine (C1.out _).mono ?_
        rintro e w' ⟨rfl, rfl⟩
        go_wp2
        go_roundw
        case rel => exact ⟨k + 1, by omega, by go_num, G2⟩
        case measure => simp [intOf]; omega
      | true =>
        have C1 : Hid (∀ w, _) := fun w => CM.out k w
        rw [ha] at C1 hpk
        have hkl := KK_le p k
        have hsz := g.bel.size
        have HK : Hid (p k = true) := hpk
        clear ha hpk
        go_wp2_with fail
        refine (C1.out _).mono ?_
        rintro e w' ⟨rfl, rfl⟩
        go_wp2_with (at_builtin; refine wpList_append_own _ rfl _ _ 46 rfl w.heap.size 3 i0 (.int .i64 0) 1 8 Tryd.underlying46 hi hz0 hz1 hz2 rfl (by decide) _ _ _ rfl (g.own.alloc _) ⟨_, 0, none⟩ 1 1 [.int .i64 (k : Int)] rfl rfl ?c1 ?c2 ?c3 ?c4 ?c5 ?_)
        case c1 =>
          intro j u hj
          match j, hj with
          | 0, hj => simp at hj; subst hj; exact (Blk.new _ [_] _).cell 0
        case c2 => intro u hu; simp at hu; subst hu; rfl
        case c3 => unfold maxLen; omega
        case c4 => omega
        case c5 => simp; omega
        intro v' w1 hown' hgrow _
        have G2 := gat_keep g HK.out hown' hgrow
        clear hown' hgrow
        go_wp2
        go_roundw
        case rel => exact ⟨k + 1, by omega, by go_num, G2⟩
        case measure => simp [intOf]; omega
    · obtain rfl : k = 64 := by omega
      have hrow := gat_row g
      have hbel := g.bel
      have HB : Hid (Below w.heap.size w wr) := hbel
      have HRW : Hid (Row wr _ (KK p 64)) := hrow
      obtain ⟨n, cap, a, hv⟩ : ∃ n cap a, u3 = Value.slice a n cap := row_slice hrow
      rw [hv] at HRW
      clear g hrow hbel
      go_wp2
      go_ret
      exact ⟨_, rfl, HRW.out, HB.out⟩
theorem lz_at (m k : Nat) (h : k < (ls m).length) : (lz m).getD k 0 = (((ls m)[k] : Nat) : Int) := by
  rw [lz_get, List.getD_eq_getElem?_getD, List.getElem?_eq_getElem h]
  rfl
theorem ls_take (m k : Nat) (h : k < (ls m).length) : ((ls m).take (k + 1)).map (fun k : Nat => Lib.itoa k) = ((ls m).take k).map (fun k : Nat => Lib.itoa k) ++ [Lib.itoa ((lz m).getD k 0)] := by
  rw [lz_at m k h, List.take_add_one, List.getElem?_eq_getElem h, List.map_append]
  rfl
end Go.Proofs.YtnmbacegcbjfaaaDoor
