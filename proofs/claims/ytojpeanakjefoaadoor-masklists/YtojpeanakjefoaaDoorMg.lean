/- Lists that a loop gathers by append: the cores that a test keeps; and what the document's And, Or, Not and List answer, for all masks. -/
import Derived.Test.YtojpeanakjefoaaDoorRows
import Derived.Test.YtojpeanakjefoaaDoorMo
import Derived.WalkKit
import Derived.ProofKit
import Derived.OpenShut
namespace Go.Proofs.YtojpeanakjefoaaDoor
open Go.ChangeShapes Go.WideShapes Go.ChangeAt Go.RowKit
open Mm

theorem Tryd.info3 : (Tryd.prog.info? 3).map (fun i => (i.zero, i.size, i.bytes)) = some (some (.int .i64 0), 1, 8) := by kernel_rfl

/-- Of the first k cores, those that a test keeps. -/
def K (p : Nat → Bool) (k : Nat) : List Int := ((List.range k).filter p).map fun i : Nat => (i : Int)

theorem K_le (p : Nat → Bool) (k : Nat) : (K p k).length ≤ k := by
  unfold K
  rw [List.length_map]
  have := List.length_filter_le p (List.range k)
  simpa using this

theorem K_hit (p : Nat → Bool) (k : Nat) (h : p k = true) : K p (k + 1) = K p k ++ [(k : Int)] := by
  unfold K
  rw [List.range_succ, List.filter_append, List.map_append]
  simp [h]

theorem K_miss (p : Nat → Bool) (k : Nat) (h : p k = false) : K p (k + 1) = K p k := by
  unfold K
  rw [List.range_succ, List.filter_append, List.map_append]
  simp [h]

/-- What has been gathered so far: v owns it; nothing that was there has turned. -/
structure Gat (w wr : World) (v : Value) (p : Nat → Bool) (k : Nat) : Prop where
  own : wr.ownsRow w.heap.size 3 1 v (K p k).length ((K p k).map (Value.int .i64))
  bel : Below w.heap.size w wr

theorem gat_start (w : World) (p : Nat → Bool) : Gat w w (.slice none 0 0) p 0 := ⟨World.ownsRow_nil _ _ _ _, Below.refl _ _⟩

theorem gat_drop {w wr : World} {v : Value} {p : Nat → Bool} {k : Nat} (g : Gat w wr v p k) (h : p k = false) : Gat w wr v p (k + 1) := by
  refine ⟨?_, g.bel⟩
  rw [K_miss p k h]
  exact g.own

theorem gat_keep {w wr w1 : World} {v v' : Value} {p : Nat → Bool} {k : Nat} {o : Obj} (g : Gat w wr v p k) (h : p k = true)
    (hown' : w1.ownsRow w.heap.size 3 1 v' ((K p k).length + 1) ((K p k).map (Value.int .i64) ++ [.int .i64 (k : Int)])) (hgrow : (wr.alloc o).grownBy w1 v.ownBlock) : Gat w w1 v' p (k + 1) := by
  have hs := g.bel.size
  refine ⟨?_, (g.bel.alloc hs o).grown hgrow (by simp; omega) (fun j hj => (g.own.lt j hj).1)⟩
  rw [K_hit p k h]
  simpa using hown'

theorem gat_row {w wr : World} {v : Value} {p : Nat → Bool} {k : Nat} (g : Gat w wr v p k) : Row wr v (K p k) := by
  have h := g.own
  rcases h.2 with ⟨hv, hn⟩ | ⟨b, cap, cur, hv, hb, hh, hn, hc, hz, ht⟩
  · exact Or.inl ⟨List.eq_nil_of_length_eq_zero hn, none, 0, hv⟩
  · subst hv
    refine Or.inr ⟨b, 0, cap, rfl, fun i hi => ?_⟩
    rw [Nat.zero_add, h.cellAt i (by omega), List.getElem?_map, List.getElem?_eq_getElem hi, List.getD_eq_getElem?_getD, List.getElem?_eq_getElem hi]
    rfl

theorem tb_bit (m k : Nat) (h : (k : Int) < 64) : tb m (k : Int) = m.testBit k := tb_nat m k (by omega)

set_option maxHeartbeats 1000000 in
theorem refand_any (m o : Nat) (w : World) (hm : m < 18446744073709551616) (ho : o < 18446744073709551616) :
    Calls Tryd.prog 20 #[.int .u64 m, .int .u64 o] w fun e w' => e = .returned (.int .u64 (m &&& o : Nat)) ∧ Below w.heap.size w w' := by
  obtain ⟨i0, hi, hz0, hz1, hz2⟩ := info_parts Tryd.info3
  have E : Hid (wl 0 (K (fun i => m.testBit i && o.testBit i) 64) = m &&& o) := wl_and m o hm
  have CM : Hid (∀ (c : Int) (w : World), _) := fun c w => refhas_any m c w hm
  have CO : Hid (∀ (c : Int) (w : World), _) := fun c w => refhas_any o c w ho
  obtain ⟨p, hp⟩ : ∃ p : Nat → Bool, (fun i => m.testBit i && o.testBit i) = p := ⟨_, rfl⟩
  have HP : Hid (∀ k : Nat, (k : Int) < 64 → p k = (tb m k && tb o k)) := fun k hk => by rw [← hp, tb_bit m k hk, tb_bit o k hk]
  rw [hp] at E
  obtain ⟨R, hR⟩ : ∃ R, m &&& o = R := ⟨_, rfl⟩
  rw [hR] at E ⊢
  clear hp hR hm ho
  go_enter Tryd.func20, Tryd.ntmps20
  go_wp2
  go_loopw [5, 6] (fun v i wr => ∃ k : Nat, (k : Int) ≤ 64 ∧ i = .int .i64 k ∧ Gat w wr v p k) (fun _ i _ => 64 - (intOf i).toNat)
  case atStart => exact ⟨0, by omega, rfl, gat_start w p⟩
  case round =>
    obtain ⟨k, hk, rfl, g⟩ := hrel
    by_cases h : (k : Int) < 64
    · have hpk := HP.out k h
      cases ha : tb m k with
      | false =>
        have C1 : Hid (∀ w, _) := fun w => CM.out k w
        rw [ha] at C1 hpk
        rw [Bool.false_and] at hpk
        have G2 := gat_drop g hpk
        clear ha hpk
        go_wp2_with fail
        refine (C1.out _).mono ?_
        rintro e w' ⟨rfl, rfl⟩
        go_wp2
        go_roundw
        case rel => exact ⟨k + 1, by omega, by go_num, G2⟩
        case measure => simp [intOf]; omega
      | true =>
        have C1 : Hid (∀ w, _) := fun w => CM.out k w
        rw [ha] at C1 hpk
        cases hb : tb o k with
        | false =>
          have C2 : Hid (∀ w, _) := fun w => CO.out k w
          rw [hb] at C2 hpk
          change p k = false at hpk
          have G2 := gat_drop g hpk
          clear ha hb hpk
          go_wp2_with fail
          refine (C1.out _).mono ?_
          rintro e w' ⟨rfl, rfl⟩
          go_wp2_with fail
          refine (C2.out _).mono ?_
          rintro e w' ⟨rfl, rfl⟩
          go_wp2
          go_roundw
          case rel => exact ⟨k + 1, by omega, by go_num, G2⟩
          case measure => simp [intOf]; omega
        | true =>
          have C2 : Hid (∀ w, _) := fun w => CO.out k w
          rw [hb] at C2 hpk
          change p k = true at hpk
          have hkl := K_le p k
          have hsz := g.bel.size
          have HK : Hid (p k = true) := hpk
          clear ha hb hpk
          go_wp2_with fail
          refine (C1.out _).mono ?_
          rintro e w' ⟨rfl, rfl⟩
          go_wp2_with fail
          refine (C2.out _).mono ?_
          rintro e w' ⟨rfl, rfl⟩
          go_wp2_with (at_builtin; refine wpList_append_own _ rfl _ _ 23 rfl w.heap.size 3 i0 (.int .i64 0) 1 8 Tryd.underlying23 hi hz0 hz1 hz2 rfl (by decide) _ _ _ rfl (g.own.alloc _) ⟨_, 0, none⟩ 1 1 [.int .i64 (k : Int)] rfl rfl ?c1 ?c2 ?c3 ?c4 ?c5 ?_)
          case c1 =>
            intro j u hj
            match j, hj with
            | 0, hj => simp at hj; subst hj; simp [Addr.add]
          case c2 => intro u hu; simp at hu; subst hu; rfl
          case c3 => unfold maxLen; omega
          case c4 => omega
          case c5 => simp; omega
          intro v' w1 hown' hgrow _
          have G2 := gat_keep g HK.out hown' hgrow
          clear hown' hgrow
          go_wp2
          go_roundw
          case rel => exact ⟨k + 1, by omega, by go_num, G2⟩
          case measure => simp [intOf]; omega
    · obtain rfl : k = 64 := by omega
      have F : Hid (∀ _ : Unit, _) := fun _ => refof_any (K p 64) _ _ (by have := K_le p 64; omega) (gat_row g)
      rw [E.out] at F
      have hbel := g.bel
      clear g
      go_wp2_with fail
      refine (F.out ()).mono ?_
      rintro e w' ⟨rfl, rfl⟩
      go_wp2
      go_ret
      exact ⟨rfl, hbel⟩

set_option maxHeartbeats 1000000 in
theorem refor_any (m o : Nat) (w : World) (hm : m < 18446744073709551616) (ho : o < 18446744073709551616) :
    Calls Tryd.prog 22 #[.int .u64 m, .int .u64 o] w fun e w' => e = .returned (.int .u64 (m ||| o : Nat)) ∧ Below w.heap.size w w' := by
  obtain ⟨i0, hi, hz0, hz1, hz2⟩ := info_parts Tryd.info3
  have E : Hid (wl 0 (K (fun i => m.testBit i || o.testBit i) 64) = m ||| o) := wl_or m o hm ho
  have CM : Hid (∀ (c : Int) (w : World), _) := fun c w => refhas_any m c w hm
  have CO : Hid (∀ (c : Int) (w : World), _) := fun c w => refhas_any o c w ho
  obtain ⟨p, hp⟩ : ∃ p : Nat → Bool, (fun i => m.testBit i || o.testBit i) = p := ⟨_, rfl⟩
  have HP : Hid (∀ k : Nat, (k : Int) < 64 → p k = (tb m k || tb o k)) := fun k hk => by rw [← hp, tb_bit m k hk, tb_bit o k hk]
  rw [hp] at E
  obtain ⟨R, hR⟩ : ∃ R, m ||| o = R := ⟨_, rfl⟩
  rw [hR] at E ⊢
  clear hp hR hm ho
  go_enter Tryd.func22, Tryd.ntmps22
  go_wp2
  go_loopw [5, 6] (fun v i wr => ∃ k : Nat, (k : Int) ≤ 64 ∧ i = .int .i64 k ∧ Gat w wr v p k) (fun _ i _ => 64 - (intOf i).toNat)
  case atStart => exact ⟨0, by omega, rfl, gat_start w p⟩
  case round =>
    obtain ⟨k, hk, rfl, g⟩ := hrel
    by_cases h : (k : Int) < 64
    · have hpk := HP.out k h
      cases ha : tb m k with
      | false =>
        have C1 : Hid (∀ w, _) := fun w => CM.out k w
        rw [ha] at C1 hpk
        cases hb : tb o k with
        | false =>
          have C2 : Hid (∀ w, _) := fun w => CO.out k w
          rw [hb] at C2 hpk
          change p k = false at hpk
          have G2 := gat_drop g hpk
          clear ha hb hpk
          go_wp2_with fail
          refine (C1.out _).mono ?_
          rintro e w' ⟨rfl, rfl⟩
          go_wp2_with fail
          refine (C2.out _).mono ?_
          rintro e w' ⟨rfl, rfl⟩
          go_wp2
          go_roundw
          case rel => exact ⟨k + 1, by omega, by go_num, G2⟩
          case measure => simp [intOf]; omega
        | true =>
          have C2 : Hid (∀ w, _) := fun w => CO.out k w
          rw [hb] at C2 hpk
          change p k = true at hpk
          have hkl := K_le p k
          have hsz := g.bel.size
          have HK : Hid (p k = true) := hpk
          clear ha hb hpk
          go_wp2_with fail
          refine (C1.out _).mono ?_
          rintro e w' ⟨rfl, rfl⟩
          go_wp2_with fail
          refine (C2.out _).mono ?_
          rintro e w' ⟨rfl, rfl⟩
          go_wp2_with (at_builtin; refine wpList_append_own _ rfl _ _ 23 rfl w.heap.size 3 i0 (.int .i64 0) 1 8 Tryd.underlying23 hi hz0 hz1 hz2 rfl (by decide) _ _ _ rfl (g.own.alloc _) ⟨_, 0, none⟩ 1 1 [.int .i64 (k : Int)] rfl rfl ?c1 ?c2 ?c3 ?c4 ?c5 ?_)
          case c1 =>
            intro j u hj
            match j, hj with
            | 0, hj => simp at hj; subst hj; simp [Addr.add]
          case c2 => intro u hu; simp at hu; subst hu; rfl
          case c3 => unfold maxLen; omega
          case c4 => omega
          case c5 => simp; omega
          intro v' w1 hown' hgrow _
          have G2 := gat_keep g HK.out hown' hgrow
          clear hown' hgrow
          go_wp2
          go_roundw
          case rel => exact ⟨k + 1, by omega, by go_num, G2⟩
          case measure => simp [intOf]; omega
      | true =>
        have C1 : Hid (∀ w, _) := fun w => CM.out k w
        rw [ha] at C1 hpk
        rw [Bool.true_or] at hpk
        have hkl := K_le p k
        have hsz := g.bel.size
        have HK : Hid (p k = true) := hpk
        clear ha hpk
        go_wp2_with fail
        refine (C1.out _).mono ?_
        rintro e w' ⟨rfl, rfl⟩
        go_wp2_with (at_builtin; refine wpList_append_own _ rfl _ _ 23 rfl w.heap.size 3 i0 (.int .i64 0) 1 8 Tryd.underlying23 hi hz0 hz1 hz2 rfl (by decide) _ _ _ rfl (g.own.alloc _) ⟨_, 0, none⟩ 1 1 [.int .i64 (k : Int)] rfl rfl ?c1 ?c2 ?c3 ?c4 ?c5 ?_)
        case c1 =>
          intro j u hj
          match j, hj with
          | 0, hj => simp at hj; subst hj; simp [Addr.add]
        case c2 => intro u hu; simp at hu; subst hu; rfl
        case c3 => unfold maxLen; omega
        case c4 => omega
        case c5 => simp; omega
        intro v' w1 hown' hgrow _
        have G2 := gat_keep g HK.out hown' hgrow
        clear hown' hgrow
        go_wp2
        go_roundw
        case rel => exact ⟨k + 1, by omega, by go_num, G2⟩
        case measure => simp [intOf]; omega
    · obtain rfl : k = 64 := by omega
      have F : Hid (∀ _ : Unit, _) := fun _ => refof_any (K p 64) _ _ (by have := K_le p 64; omega) (gat_row g)
      rw [E.out] at F
      have hbel := g.bel
      clear g
      go_wp2_with fail
      refine (F.out ()).mono ?_
      rintro e w' ⟨rfl, rfl⟩
      go_wp2
      go_ret
      exact ⟨rfl, hbel⟩

set_option maxHeartbeats 1000000 in
theorem refnot_any (m o : Nat) (w : World) (hm : m < 18446744073709551616) (ho : o < 18446744073709551616) :
    Calls Tryd.prog 24 #[.int .u64 m, .int .u64 o] w fun e w' => e = .returned (.int .u64 (nt m o : Nat)) ∧ Below w.heap.size w w' := by
  obtain ⟨i0, hi, hz0, hz1, hz2⟩ := info_parts Tryd.info3
  have E : Hid (wl 0 (K (fun i => m.testBit i && !o.testBit i) 64) = nt m o) := wl_nt m o ho
  have CM : Hid (∀ (c : Int) (w : World), _) := fun c w => refhas_any m c w hm
  have CO : Hid (∀ (c : Int) (w : World), _) := fun c w => refhas_any o c w ho
  obtain ⟨p, hp⟩ : ∃ p : Nat → Bool, (fun i => m.testBit i && !o.testBit i) = p := ⟨_, rfl⟩
  have HP : Hid (∀ k : Nat, (k : Int) < 64 → p k = (tb m k && !tb o k)) := fun k hk => by rw [← hp, tb_bit m k hk, tb_bit o k hk]
  rw [hp] at E
  obtain ⟨R, hR⟩ : ∃ R, nt m o = R := ⟨_, rfl⟩
  rw [hR] at E ⊢
  clear hp hR hm ho
  go_enter Tryd.func24, Tryd.ntmps24
  go_wp2
  go_loopw [5, 6] (fun v i wr => ∃ k : Nat, (k : Int) ≤ 64 ∧ i = .int .i64 k ∧ Gat w wr v p k) (fun _ i _ => 64 - (intOf i).toNat)
  case atStart => exact ⟨0, by omega, rfl, gat_start w p⟩
  case round =>
    obtain ⟨k, hk, rfl, g⟩ := hrel
    by_cases h : (k : Int) < 64
    · have hpk := HP.out k h
      cases ha : tb m k with
      | false =>
        have C1 : Hid (∀ w, _) := fun w => CM.out k w
        rw [ha] at C1 hpk
        rw [Bool.false_and] at hpk
        have G2 := gat_drop g hpk
        clear ha hpk
        go_wp2_with fail
        refine (C1.out _).mono ?_
        rintro e w' ⟨rfl, rfl⟩
        go_wp2
        go_roundw
        case rel => exact ⟨k + 1, by omega, by go_num, G2⟩
        case measure => simp [intOf]; omega
      | true =>
        have C1 : Hid (∀ w, _) := fun w => CM.out k w
        rw [ha] at C1 hpk
        cases hb : tb o k with
        | false =>
          have C2 : Hid (∀ w, _) := fun w => CO.out k w
          rw [hb] at C2 hpk
          change p k = true at hpk
          have hkl := K_le p k
          have hsz := g.bel.size
          have HK : Hid (p k = true) := hpk
          clear ha hb hpk
          go_wp2_with fail
          refine (C1.out _).mono ?_
          rintro e w' ⟨rfl, rfl⟩
          go_wp2_with fail
          refine (C2.out _).mono ?_
          rintro e w' ⟨rfl, rfl⟩
          go_wp2_with (at_builtin; refine wpList_append_own _ rfl _ _ 23 rfl w.heap.size 3 i0 (.int .i64 0) 1 8 Tryd.underlying23 hi hz0 hz1 hz2 rfl (by decide) _ _ _ rfl (g.own.alloc _) ⟨_, 0, none⟩ 1 1 [.int .i64 (k : Int)] rfl rfl ?c1 ?c2 ?c3 ?c4 ?c5 ?_)
          case c1 =>
            intro j u hj
            match j, hj with
            | 0, hj => simp at hj; subst hj; simp [Addr.add]
          case c2 => intro u hu; simp at hu; subst hu; rfl
          case c3 => unfold maxLen; omega
          case c4 => omega
          case c5 => simp; omega
          intro v' w1 hown' hgrow _
          have G2 := gat_keep g HK.out hown' hgrow
          clear hown' hgrow
          go_wp2
          go_roundw
          case rel => exact ⟨k + 1, by omega, by go_num, G2⟩
          case measure => simp [intOf]; omega
        | true =>
          have C2 : Hid (∀ w, _) := fun w => CO.out k w
          rw [hb] at C2 hpk
          change p k = false at hpk
          have G2 := gat_drop g hpk
          clear ha hb hpk
          go_wp2_with fail
          refine (C1.out _).mono ?_
          rintro e w' ⟨rfl, rfl⟩
          go_wp2_with fail
          refine (C2.out _).mono ?_
          rintro e w' ⟨rfl, rfl⟩
          go_wp2
          go_roundw
          case rel => exact ⟨k + 1, by omega, by go_num, G2⟩
          case measure => simp [intOf]; omega
    · obtain rfl : k = 64 := by omega
      have F : Hid (∀ _ : Unit, _) := fun _ => refof_any (K p 64) _ _ (by have := K_le p 64; omega) (gat_row g)
      rw [E.out] at F
      have hbel := g.bel
      clear g
      go_wp2_with fail
      refine (F.out ()).mono ?_
      rintro e w' ⟨rfl, rfl⟩
      go_wp2
      go_ret
      exact ⟨rfl, hbel⟩

end Go.Proofs.YtojpeanakjefoaaDoor
