/- What the document's List, First and Next answer, for all masks and numbers. -/
import Derived.Test.YtghnpmkibnggeaaDoorRows
import Derived.Test.YtghnpmkibnggeaaDoorKd
import Derived.Test.YtghnpmkibnggeaaDoorKh
import Derived.WalkKit
import Derived.ProofKit
import Derived.OpenShut
import Derived.BigQuiet
import Derived.Laws.Bits64b
import Derived.Laws.BitsAllLaws
namespace Go.Proofs.YtghnpmkibnggeaaDoor
open Go.ChangeShapes Go.WideShapes Go.ChangeAt Go.RowKit
open Mm

/-- All cores of a mask, rising, as integers. -/
def lz (m : Nat) : List Int := KK (fun i => m.testBit i) 64
theorem lz_ls (m : Nat) : lz m = (ls m).map fun k : Nat => (k : Int) := rfl
theorem row_slice {w : World} {v : Value} {xs : List Int} (h : Row w v xs) : ∃ n cap a, v = Value.slice a n cap := by
  obtain ⟨a, cap, rfl⟩ := h.shape
  exact ⟨_, _, _, rfl⟩

set_option maxRecDepth 100000 in
set_option maxHeartbeats 1000000 in
theorem kreflist_any (m : Nat) (w : World) (hm : m < 18446744073709551616) :
    Calls Tryd.prog 67 #[.int .u64 m] w fun e w' => ∃ v, e = .returned v ∧ Row w' v (lz m) ∧ Below w.heap.size w w' := by
  obtain ⟨i0, hi, hz0, hz1, hz2⟩ := info_parts Tryd.info3
  obtain ⟨p, hp⟩ : ∃ p : Nat → Bool, (fun i => m.testBit i) = p := ⟨_, rfl⟩
  have HP : Hid (∀ k : Nat, (k : Int) < 64 → p k = tb m k) := fun k hk => by rw [← hp, tb_bit m k hk]
  rw [show lz m = KK p 64 by rw [lz, hp]]
  have CM : Hid (∀ (c : Int) (w : World), _) := fun c w => krefhas_any m c w hm
  have G0 : Gat w w (.slice none 0 0) p 0 := gat_start w p
  clear hp hm
  go_enter Tryd.func67, Tryd.ntmps67
  go_wp2
  go_loopw [3, 4] (fun v i wr => ∃ k : Nat, (k : Int) ≤ 64 ∧ i = .int .i64 k ∧ Gat w wr v p k) (fun _ i _ => 64 - (intOf i).toNat)
  case atStart => exact ⟨0, by omega, rfl, G0⟩
  case round =>
    obtain ⟨k, hk, rfl, g⟩ := hrel
    by_cases h : (k : Int) < 64
    · have hpk := HP.out k h
      cases ha : tb m k with
      | false =>
        have C1 : Hid (∀ w, _) := fun w => CM.out k w
        rw [ha] at C1 hpk
        have G2 := gat_drop g hpk
        clear ha hpk
        go_wp2_with fail
        refine (C1.out _).mono ?_
        rintro e w' ⟨rfl, rfl⟩
        go_wp2
        go_roundw
        case rel => exact ⟨k + 1, by omega, by go_num, G2⟩
        case measure => simp [intOf]; omega
      | true =>
        have C1 : Hid (∀ w, _) := fun w => CM.out k w
        rw [ha] at C1 hpk
        have hkl := KK_le p k
        have hsz := g.bel.size
        have HK : Hid (p k = true) := hpk
        clear ha hpk
        go_wp2_with fail
        refine (C1.out _).mono ?_
        rintro e w' ⟨rfl, rfl⟩
        go_wp2_with (at_builtin; refine wpList_append_own _ rfl _ _ 36 rfl w.heap.size 3 i0 (.int .i64 0) 1 8 Tryd.underlying36 hi hz0 hz1 hz2 rfl (by decide) _ _ _ rfl (g.own.alloc _) ⟨_, 0, none⟩ 1 1 [.int .i64 (k : Int)] rfl rfl ?c1 ?c2 ?c3 ?c4 ?c5 ?_)
        case c1 =>
          intro j u hj
          match j, hj with
          | 0, hj => simp at hj; subst hj; exact (Blk.new _ [_] _).cell 0
        case c2 => intro u hu; simp at hu; subst hu; rfl
        case c3 => unfold maxLen; omega
        case c4 => omega
        case c5 => simp; omega
        intro v' w1 hown' hgrow _
        have G2 := gat_keep g HK.out hown' hgrow
        clear hown' hgrow
        go_wp2
        go_roundw
        case rel => exact ⟨k + 1, by omega, by go_num, G2⟩
        case measure => simp [intOf]; omega
    · obtain rfl : k = 64 := by omega
      have hrow := gat_row g
      have hbel := g.bel
      have HB : Hid (Below w.heap.size w wr) := hbel
      have HRW : Hid (Row wr _ (KK p 64)) := hrow
      obtain ⟨n, cap, a, hv⟩ : ∃ n cap a, u3 = Value.slice a n cap := row_slice hrow
      rw [hv] at HRW
      clear g hrow hbel
      go_wp2
      go_ret
      exact ⟨_, rfl, HRW.out, HB.out⟩

set_option maxRecDepth 100000 in
theorem lz_len (m : Nat) : (lz m).length = (ls m).length := by rw [lz_ls, List.length_map]

set_option maxRecDepth 100000 in
theorem lz_get (m i : Nat) : (lz m).getD i 0 = (((ls m).getD i 0 : Nat) : Int) := by
  rw [lz_ls, List.getD_eq_getElem?_getD, List.getD_eq_getElem?_getD, List.getElem?_map]
  cases (ls m)[i]? <;> rfl

set_option maxRecDepth 100000 in
theorem hd_get (xs : List Nat) : hd xs = xs.getD 0 0 := by
  cases xs <;> rfl

set_option maxRecDepth 100000 in
theorem kreflist_nil (m : Nat) (w : World) (hm : m < 18446744073709551616) (h : ls m = []) :
    Calls Tryd.prog 67 #[.int .u64 m] w fun e w' => ∃ a cap, e = .returned (.slice a 0 cap) ∧ Below w.heap.size w w' :=
  (kreflist_any m w hm).mono fun e w' ⟨v, he, hr, hb⟩ => by
    have l : lz m = [] := by rw [lz_ls, h]; rfl
    rcases hr with ⟨_, a, cap, hv⟩ | ⟨b, off, cap, hv, _⟩
    · exact ⟨a, cap, by rw [he, hv], hb⟩
    · rw [l] at hv
      exact ⟨_, cap, by rw [he, hv]; rfl, hb⟩

set_option maxRecDepth 100000 in
theorem kreflist_some (m : Nat) (w : World) (hm : m < 18446744073709551616) (h : ls m ≠ []) :
    Calls Tryd.prog 67 #[.int .u64 m] w fun e w' => ∃ b off cap, e = .returned (.slice (some ⟨b, off, none⟩) (ls m).length cap) ∧ (∀ i, i < (ls m).length → w'.cell? ⟨b, off + i, none⟩ = some (.int .i64 ((ls m).getD i 0 : Nat))) ∧ Below w.heap.size w w' :=
  (kreflist_any m w hm).mono fun e w' ⟨v, he, hr, hb⟩ => by
    rcases hr with ⟨l, _⟩ | ⟨b, off, cap, hv, _, hc⟩
    · rw [lz_ls] at l
      exact absurd (List.map_eq_nil_iff.1 l) h
    · rw [lz_len] at hv hc
      exact ⟨b, off, cap, by rw [he, hv], fun i hi => by rw [← lz_get]; exact hc i hi, hb⟩

set_option maxRecDepth 100000 in
theorem len_pos (xs : List Nat) (h : xs ≠ []) : 0 < xs.length := List.length_pos_iff.2 h

set_option maxRecDepth 100000 in
set_option maxHeartbeats 400000 in
theorem kreffirst_any (m : Nat) (w : World) (hm : m < 18446744073709551616) :
    Calls Tryd.prog 68 #[.int .u64 m] w fun e w' => e = .returned (.tuple #[.int .i64 (hd (ls m) : Nat), .int .i64 (er (ls m))]) ∧ Below w.heap.size w w' := by
  by_cases h0 : ls m = []
  · have CL : Hid (∀ w, _) := fun w => kreflist_nil m w hm h0
    rw [h0]
    clear hm h0
    go_enter Tryd.func68, Tryd.ntmps68
    go_wp2_with fail
    refine (CL.out _).mono ?_
    rintro e w' ⟨a, cap, rfl, hb⟩
    have HB : Hid (Below w.heap.size w w') := hb
    clear hb
    go_wp2
    go_ret2
    exact ⟨rfl, HB.out⟩
  · have CL : Hid (∀ w, _) := fun w => kreflist_some m w hm h0
    have hl := len_pos _ h0
    rw [show er (ls m) = 0 from if_neg h0, hd_get]
    have e0 : Hid (∀ (b off : Nat) (w' : World), (∀ i, i < (ls m).length → w'.cell? ⟨b, off + i, none⟩ = some (.int .i64 ((ls m).getD i 0 : Nat))) → w'.cell? ⟨b, off, none⟩ = some (.int .i64 ((ls m).getD 0 0 : Nat))) := fun b off w' h => h 0 hl
    generalize (ls m).getD 0 0 = x at *
    obtain ⟨n, hn⟩ : ∃ n, (ls m).length = n := ⟨_, rfl⟩
    rw [hn] at hl
    have h1 : ((n : Int) == 0) = false := by rw [beq_eq_false_iff_ne]; omega
    have h2 : (0 : Int) < n := by omega
    have HN : Hid ((ls m).length = n) := hn
    clear hm h0 hl hn
    go_enter Tryd.func68, Tryd.ntmps68
    go_wp2_with fail
    refine (CL.out _).mono ?_
    rintro e w' ⟨b, off, cap, rfl, hc, hb⟩
    have HB : Hid (Below w.heap.size w w') := hb
    have hc0 := e0.out b off w' hc
    rw [HN.out]
    clear hb hc
    go_wp2
    go_ret2
    exact ⟨rfl, HB.out⟩

set_option maxRecDepth 100000 in
theorem nx_hit (m : Nat) (c : Int) (k : Nat) (hk : k < (ls m).length) (h : c < ((ls m).getD k 0 : Nat)) (hb : ∀ t, t < k → (((ls m).getD t 0 : Nat) : Int) ≤ c) :
    hd (nx m c) = (ls m).getD k 0 ∧ er (nx m c) = 0 := by
  have gk : (ls m).getD k 0 = (ls m)[k] := by rw [List.getD_eq_getElem?_getD, List.getElem?_eq_getElem hk]; rfl
  rw [gk] at h ⊢
  have f : ((ls m).filter fun k : Nat => decide (c < (k : Int))).head? = some (ls m)[k] := by
    rw [List.head?_filter, List.find?_eq_some_iff_getElem]
    refine ⟨decide_eq_true h, k, hk, rfl, fun j hj => ?_⟩
    have gj : (ls m).getD j 0 = (ls m)[j]'(by omega) := by rw [List.getD_eq_getElem?_getD, List.getElem?_eq_getElem (by omega)]; rfl
    have := hb j hj
    rw [gj] at this
    simp
    omega
  have n : ((ls m).filter fun k : Nat => decide (c < (k : Int))) ≠ [] := by
    intro e
    rw [e] at f
    cases f
  have e : nx m c = (ls m).filter fun k : Nat => decide (c < (k : Int)) := if_neg n
  rw [e]
  refine ⟨?_, if_neg n⟩
  unfold hd
  rw [List.headD_eq_head?_getD, f]
  rfl

set_option maxRecDepth 100000 in
theorem nx_none (m : Nat) (c : Int) (hb : ∀ t, t < (ls m).length → (((ls m).getD t 0 : Nat) : Int) ≤ c) : nx m c = ls m := by
  apply if_pos
  rw [List.filter_eq_nil_iff]
  intro x hx
  obtain ⟨j, hj, e⟩ := List.mem_iff_getElem.1 hx
  have := hb j hj
  rw [List.getD_eq_getElem?_getD, List.getElem?_eq_getElem hj, e] at this
  simp only [Option.getD_some] at this
  simp
  omega

set_option maxRecDepth 100000 in
set_option maxHeartbeats 1000000 in
theorem krefnext_any (m : Nat) (c : Int) (w : World) (hm : m < 18446744073709551616) :
    Calls Tryd.prog 54 #[.int .u64 m, .int .i64 c] w fun e w' => e = .returned (.tuple #[.int .i64 (hd (nx m c) : Nat), .int .i64 (er (nx m c))]) ∧ Below w.heap.size w w' := by
  have CF : Hid (∀ w, _) := fun w => kreffirst_any m w hm
  by_cases h0 : ls m = []
  · have CL : Hid (∀ w, _) := fun w => kreflist_nil m w hm h0
    have e : nx m c = ls m := nx_none m c (by rw [h0]; intro t ht; simp at ht)
    rw [e]
    generalize hd (ls m) = x at *
    generalize er (ls m) = y at *
    clear hm h0 e
    go_enter Tryd.func54, Tryd.ntmps54
    go_wp2_with fail
    refine (CL.out _).mono ?_
    rintro e w' ⟨a, cap, rfl, hb⟩
    have HB : Hid (Below w.heap.size w w') := hb
    clear hb
    go_wp2
    go_loop [7] (fun i => i = .int .i64 0) (fun _ => 0)
    case atStart => rfl
    case round =>
      obtain rfl := hrel
      go_wp2_with fail
      refine (CF.out _).mono ?_
      rintro e w2 ⟨rfl, hb2⟩
      have HB2 : Hid (Below w.heap.size w w2) := HB.out.trans (hb2.mono HB.out.size)
      clear hb2
      go_wp2
      go_ret2
      exact ⟨rfl, HB2.out⟩
  · have CL : Hid (∀ w, _) := fun w => kreflist_some m w hm h0
    have hl2 := ls_le m
    obtain ⟨n, hn⟩ : ∃ n, (ls m).length = n := ⟨_, rfl⟩
    have HN : Hid ((ls m).length = n) := hn
    have hn2 : (n : Int) ≤ 64 := by omega
    obtain ⟨X, hX⟩ : ∃ X, hd (nx m c) = X := ⟨_, rfl⟩
    obtain ⟨Y, hY⟩ : ∃ Y, er (nx m c) = Y := ⟨_, rfl⟩
    have HXY : Hid (hd (nx m c) = X ∧ er (nx m c) = Y) := ⟨hX, hY⟩
    rw [hX, hY]
    clear hm h0 hn hl2 hX hY
    go_enter Tryd.func54, Tryd.ntmps54
    go_wp2_with fail
    refine (CL.out _).mono ?_
    rintro e w' ⟨b, off, cap, rfl, hc, hb⟩
    have HB : Hid (Below w.heap.size w w') := hb
    have HC : Hid (∀ i, i < (ls m).length → w'.cell? ⟨b, off + i, none⟩ = some (.int .i64 ((ls m).getD i 0 : Nat))) := hc
    rw [HN.out]
    clear hb hc
    go_wp2
    go_loop [7] (fun i => ∃ k : Nat, (k : Int) ≤ n ∧ Hid (∀ t, t < k → (((ls m).getD t 0 : Nat) : Int) ≤ c) ∧ i = .int .i64 k) (fun i => n - (intOf i).toNat)
    case atStart => exact ⟨0, by omega, fun t ht => by omega, rfl⟩
    case round =>
      obtain ⟨k, hk, hS, rfl⟩ := hrel
      by_cases h : (k : Int) < n
      · have hkl : k < (ls m).length := by have := HN.out; omega
        have hc := HC.out k hkl
        by_cases hit : c < (((ls m).getD k 0 : Nat) : Int)
        · obtain ⟨e1, e2⟩ := nx_hit m c k hkl hit hS.out
          rw [HXY.out.1] at e1
          rw [HXY.out.2] at e2
          rw [← e1] at hc hit
          subst e2
          clear hkl e1 hS
          go_wp2
          go_ret2
          exact ⟨rfl, HB.out⟩
        · have hS2 : Hid (∀ t, t < k + 1 → (((ls m).getD t 0 : Nat) : Int) ≤ c) := fun t ht => by
            by_cases e : t = k
            · subst e; omega
            · exact hS.out t (by omega)
          generalize (ls m).getD k 0 = x at *
          clear hkl hS
          go_wp2
          go_round
          case rel => exact ⟨k + 1, by omega, hS2, by go_num⟩
          case measure => simp [intOf]; omega
      · have e : nx m c = ls m := nx_none m c (fun t ht => hS.out t (by have := HN.out; omega))
        have CF2 : Hid (∀ w, _) := fun w => CF.out w
        rw [← e, HXY.out.1, HXY.out.2] at CF2
        clear hS e
        go_wp2_with fail
        refine (CF2.out _).mono ?_
        rintro e w2 ⟨rfl, hb2⟩
        have HB2 : Hid (Below w.heap.size w w2) := HB.out.trans (hb2.mono HB.out.size)
        clear hb2
        go_wp2
        go_ret2
        exact ⟨rfl, HB2.out⟩

end Go.Proofs.YtghnpmkibnggeaaDoor
