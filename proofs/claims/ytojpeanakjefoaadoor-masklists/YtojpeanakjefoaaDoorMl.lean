/- What mask's List and the document's List, Many, First, Last, Next and Ints answer, for all masks and numbers. -/
import Derived.Test.YtojpeanakjefoaaDoorRows
import Derived.Test.YtojpeanakjefoaaDoorMg
import Derived.WalkKit
import Derived.ProofKit
import Derived.OpenShut
namespace Go.Proofs.YtojpeanakjefoaaDoor
open Go.ChangeShapes Go.WideShapes Go.ChangeAt Go.RowKit
open Mm

/-- All cores of a mask, rising, as integers. -/
def li (m : Nat) : List Int := K (fun i => m.testBit i) 64

theorem li_ls (m : Nat) : li m = (ls m).map fun k : Nat => (k : Int) := rfl

theorem row_slice {w : World} {v : Value} {xs : List Int} (h : Row w v xs) : ∃ n cap a, v = Value.slice a n cap := by
  rcases h with ⟨_, a, cap, rfl⟩ | ⟨b, off, cap, rfl, _⟩
  · exact ⟨0, cap, a, rfl⟩
  · exact ⟨_, cap, _, rfl⟩

theorem Row.below {w w' : World} {v : Value} {xs : List Int} (h : Row w v xs) (hb : Below w.heap.size w w') : Row w' v xs := by
  rcases h with h | ⟨b, off, cap, hv, hc⟩
  · exact Or.inl h
  · refine Or.inr ⟨b, off, cap, hv, fun i hi => ?_⟩
    have := hc i hi
    rw [hb.cell (p := ⟨b, off + i, none⟩) (World.block_lt_of_cell? w _ this)]
    exact this

set_option maxHeartbeats 1000000 in
theorem reflist_any (m : Nat) (w : World) (hm : m < 18446744073709551616) :
    Calls Tryd.prog 36 #[.int .u64 m] w fun e w' => ∃ v, e = .returned v ∧ Row w' v (li m) ∧ Below w.heap.size w w' := by
  obtain ⟨i0, hi, hz0, hz1, hz2⟩ := info_parts Tryd.info3
  obtain ⟨p, hp⟩ : ∃ p : Nat → Bool, (fun i => m.testBit i) = p := ⟨_, rfl⟩
  have HP : Hid (∀ k : Nat, (k : Int) < 64 → p k = tb m k) := fun k hk => by rw [← hp, tb_bit m k hk]
  rw [show li m = K p 64 by rw [li, hp]]
  have CM : Hid (∀ (c : Int) (w : World), _) := fun c w => refhas_any m c w hm
  have G0 : Gat w w (.slice none 0 0) p 0 := gat_start w p
  clear hp hm
  go_enter Tryd.func36, Tryd.ntmps36
  go_wp2
  go_loopw [3, 4] (fun v i wr => ∃ k : Nat, (k : Int) ≤ 64 ∧ i = .int .i64 k ∧ Gat w wr v p k) (fun _ i _ => 64 - (intOf i).toNat)
  case atStart => exact ⟨0, by omega, rfl, G0⟩
  case round =>
    obtain ⟨k, hk, rfl, g⟩ := hrel
    by_cases h : (k : Int) < 64
    · have hpk := HP.out k h
      cases ha : tb m k with
      | false =>
        have C1 : Hid (∀ w, _) := fun w => CM.out k w
        rw [ha] at C1 hpk
        have G2 := gat_drop g hpk
        clear ha hpk
        go_wp2_with fail
        refine (C1.out _).mono ?_
        rintro e w' ⟨rfl, rfl⟩
        go_wp2
        go_roundw
        case rel => exact ⟨k + 1, by omega, by go_num, G2⟩
        case measure => simp [intOf]; omega
      | true =>
        have C1 : Hid (∀ w, _) := fun w => CM.out k w
        rw [ha] at C1 hpk
        have hkl := K_le p k
        have hsz := g.bel.size
        have HK : Hid (p k = true) := hpk
        clear ha hpk
        go_wp2_with fail
        refine (C1.out _).mono ?_
        rintro e w' ⟨rfl, rfl⟩
        go_wp2_with (at_builtin; refine wpList_append_own _ rfl _ _ 23 rfl w.heap.size 3 i0 (.int .i64 0) 1 8 Tryd.underlying23 hi hz0 hz1 hz2 rfl (by decide) _ _ _ rfl (g.own.alloc _) ⟨_, 0, none⟩ 1 1 [.int .i64 (k : Int)] rfl rfl ?c1 ?c2 ?c3 ?c4 ?c5 ?_)
        case c1 =>
          intro j u hj
          match j, hj with
          | 0, hj => simp at hj; subst hj; simp [Addr.add]
        case c2 => intro u hu; simp at hu; subst hu; rfl
        case c3 => unfold maxLen; omega
        case c4 => omega
        case c5 => simp; omega
        intro v' w1 hown' hgrow _
        have G2 := gat_keep g HK.out hown' hgrow
        clear hown' hgrow
        go_wp2
        go_roundw
        case rel => exact ⟨k + 1, by omega, by go_num, G2⟩
        case measure => simp [intOf]; omega
    · obtain rfl : k = 64 := by omega
      have hrow := gat_row g
      have hbel := g.bel
      have HB : Hid (Below w.heap.size w wr) := hbel
      have HRW : Hid (Row wr _ (K p 64)) := hrow
      obtain ⟨n, cap, a, hv⟩ : ∃ n cap a, u3 = Value.slice a n cap := row_slice hrow
      rw [hv] at HRW
      clear g hrow hbel
      go_wp2
      go_ret
      exact ⟨_, rfl, HRW.out, HB.out⟩

set_option maxHeartbeats 1000000 in
theorem list_any (m : Nat) (w : World) (hm : m < 18446744073709551616) :
    Calls Tryd.prog 32 #[.int .u64 m] w fun e w' => ∃ v, e = .returned v ∧ Row w' v (li m) ∧ Below w.heap.size w w' := by
  obtain ⟨i0, hi, hz0, hz1, hz2⟩ := info_parts Tryd.info3
  obtain ⟨p, hp⟩ : ∃ p : Nat → Bool, (fun i => m.testBit i) = p := ⟨_, rfl⟩
  have HP : Hid (∀ k : Nat, (k : Int) < 64 → p k = tb m k) := fun k hk => by rw [← hp, tb_bit m k hk]
  rw [show li m = K p 64 by rw [li, hp]]
  have CM : Hid (∀ (c : Int) (w : World), _) := fun c w => has_any m c w hm
  have CN : Hid (∀ w, _) := fun w => many_any m w hm
  have hN := ls_le m
  generalize (ls m).length = N at *
  clear hp hm
  go_enter Tryd.func32, Tryd.ntmps32
  go_wp2_with fail
  refine (CN.out _).mono ?_
  rintro e w' ⟨rfl, rfl⟩
  go_wp2_with (at_make; refine wpList_make_own _ rfl _ _ 23 rfl w'.heap.size 3 i0 (.int .i64 0) 1 Tryd.underlying23 hi hz0 hz1 _ _ _ N rfl rfl (by omega) (by rw [hz2]; omega) (by unfold maxLen; omega) (Nat.le_refl _) ?_; intro w0 hown0 hgrow0)
  have G0 : Gat w' w0 (.slice (some ⟨w'.heap.size, 0, none⟩) 0 N) p 0 := ⟨hown0, (Below.refl _ _).grown hgrow0 (Nat.le_refl _) (fun k hk => by cases hk)⟩
  clear hown0 hgrow0
  obtain ⟨w, rfl⟩ : ∃ w, w = w' := ⟨_, rfl⟩
  go_loopw [3, 8] (fun v i wr => ∃ k : Nat, (k : Int) ≤ 64 ∧ i = .int .i64 k ∧ Gat w wr v p k) (fun _ i _ => 64 - (intOf i).toNat)
  case atStart => exact ⟨0, by omega, rfl, G0⟩
  case round =>
    obtain ⟨k, hk, rfl, g⟩ := hrel
    by_cases h : (k : Int) < 64
    · have hpk := HP.out k h
      cases ha : tb m k with
      | false =>
        have C1 : Hid (∀ w, _) := fun w => CM.out k w
        rw [ha] at C1 hpk
        have G2 := gat_drop g hpk
        clear ha hpk
        go_wp2_with fail
        refine (C1.out _).mono ?_
        rintro e w' ⟨rfl, rfl⟩
        go_wp2
        go_roundw
        case rel => exact ⟨k + 1, by omega, by go_num, G2⟩
        case measure => simp [intOf]; omega
      | true =>
        have C1 : Hid (∀ w, _) := fun w => CM.out k w
        rw [ha] at C1 hpk
        have hkl := K_le p k
        have hsz := g.bel.size
        have HK : Hid (p k = true) := hpk
        clear ha hpk
        go_wp2_with fail
        refine (C1.out _).mono ?_
        rintro e w' ⟨rfl, rfl⟩
        go_wp2_with (at_builtin; refine wpList_append_own _ rfl _ _ 23 rfl w.heap.size 3 i0 (.int .i64 0) 1 8 Tryd.underlying23 hi hz0 hz1 hz2 rfl (by decide) _ _ _ rfl (g.own.alloc _) ⟨_, 0, none⟩ 1 1 [.int .i64 (k : Int)] rfl rfl ?c1 ?c2 ?c3 ?c4 ?c5 ?_)
        case c1 =>
          intro j u hj
          match j, hj with
          | 0, hj => simp at hj; subst hj; simp [Addr.add]
        case c2 => intro u hu; simp at hu; subst hu; rfl
        case c3 => unfold maxLen; omega
        case c4 => omega
        case c5 => simp; omega
        intro v' w1 hown' hgrow _
        have G2 := gat_keep g HK.out hown' hgrow
        clear hown' hgrow
        go_wp2
        go_roundw
        case rel => exact ⟨k + 1, by omega, by go_num, G2⟩
        case measure => simp [intOf]; omega
    · obtain rfl : k = 64 := by omega
      have hrow := gat_row g
      have hbel := g.bel
      have HB : Hid (Below w.heap.size w wr) := hbel
      have HRW : Hid (Row wr _ (K p 64)) := hrow
      obtain ⟨n, cap, a, hv⟩ : ∃ n cap a, u3 = Value.slice a n cap := row_slice hrow
      rw [hv] at HRW
      clear g hrow hbel
      go_wp2
      go_ret
      exact ⟨_, rfl, HRW.out, HB.out⟩

theorem li_len (m : Nat) : (li m).length = (ls m).length := by rw [li_ls, List.length_map]
theorem li_get (m i : Nat) : (li m).getD i 0 = (((ls m).getD i 0 : Nat) : Int) := by
  rw [li_ls, List.getD_eq_getElem?_getD, List.getD_eq_getElem?_getD, List.getElem?_map]
  cases (ls m)[i]? <;> rfl
theorem hd_get (xs : List Nat) : hd xs = xs.getD 0 0 := by
  cases xs <;> rfl
theorem la_get (xs : List Nat) : la xs = xs.getD (xs.length - 1) 0 := by
  unfold la
  rw [List.getLastD_eq_getLast?, List.getLast?_eq_getElem?, List.getD_eq_getElem?_getD]

theorem reflist_nil (m : Nat) (w : World) (hm : m < 18446744073709551616) (h : ls m = []) :
    Calls Tryd.prog 36 #[.int .u64 m] w fun e w' => ∃ a cap, e = .returned (.slice a 0 cap) ∧ Below w.heap.size w w' :=
  (reflist_any m w hm).mono fun e w' ⟨v, he, hr, hb⟩ => by
    have l : li m = [] := by rw [li_ls, h]; rfl
    rcases hr with ⟨_, a, cap, hv⟩ | ⟨b, off, cap, hv, _⟩
    · exact ⟨a, cap, by rw [he, hv], hb⟩
    · rw [l] at hv
      exact ⟨_, cap, by rw [he, hv]; rfl, hb⟩

theorem reflist_some (m : Nat) (w : World) (hm : m < 18446744073709551616) (h : ls m ≠ []) :
    Calls Tryd.prog 36 #[.int .u64 m] w fun e w' => ∃ b off cap, e = .returned (.slice (some ⟨b, off, none⟩) (ls m).length cap) ∧ (∀ i, i < (ls m).length → w'.cell? ⟨b, off + i, none⟩ = some (.int .i64 ((ls m).getD i 0 : Nat))) ∧ Below w.heap.size w w' :=
  (reflist_any m w hm).mono fun e w' ⟨v, he, hr, hb⟩ => by
    rcases hr with ⟨l, _⟩ | ⟨b, off, cap, hv, hc⟩
    · rw [li_ls] at l
      exact absurd (List.map_eq_nil_iff.1 l) h
    · rw [li_len] at hv hc
      exact ⟨b, off, cap, by rw [he, hv], fun i hi => by rw [← li_get]; exact hc i hi, hb⟩

theorem len_pos (xs : List Nat) (h : xs ≠ []) : 0 < xs.length := List.length_pos_iff.2 h

set_option maxHeartbeats 400000 in
theorem refmany_any (m : Nat) (w : World) (hm : m < 18446744073709551616) :
    Calls Tryd.prog 34 #[.int .u64 m] w fun e w' => e = .returned (.int .i64 ((ls m).length : Nat)) ∧ Below w.heap.size w w' := by
  by_cases h0 : ls m = []
  · have CL : Hid (∀ w, _) := fun w => reflist_nil m w hm h0
    rw [h0]
    clear hm h0
    go_enter Tryd.func34, Tryd.ntmps34
    go_wp2_with fail
    refine (CL.out _).mono ?_
    rintro e w' ⟨a, cap, rfl, hb⟩
    have HB : Hid (Below w.heap.size w w') := hb
    clear hb
    go_wp2
    go_ret
    exact ⟨rfl, HB.out⟩
  · have CL : Hid (∀ w, _) := fun w => reflist_some m w hm h0
    generalize (ls m).length = n at *
    clear hm h0
    go_enter Tryd.func34, Tryd.ntmps34
    go_wp2_with fail
    refine (CL.out _).mono ?_
    rintro e w' ⟨b, off, cap, rfl, hc, hb⟩
    have HB : Hid (Below w.heap.size w w') := hb
    clear hb hc
    go_wp2
    go_ret
    exact ⟨rfl, HB.out⟩

set_option maxHeartbeats 400000 in
theorem reffirst_any (m : Nat) (w : World) (hm : m < 18446744073709551616) :
    Calls Tryd.prog 27 #[.int .u64 m] w fun e w' => e = .returned (.tuple #[.int .i64 (hd (ls m) : Nat), .int .i64 (er (ls m))]) ∧ Below w.heap.size w w' := by
  by_cases h0 : ls m = []
  · have CL : Hid (∀ w, _) := fun w => reflist_nil m w hm h0
    rw [h0]
    clear hm h0
    go_enter Tryd.func27, Tryd.ntmps27
    go_wp2_with fail
    refine (CL.out _).mono ?_
    rintro e w' ⟨a, cap, rfl, hb⟩
    have HB : Hid (Below w.heap.size w w') := hb
    clear hb
    go_wp2
    go_ret2
    exact ⟨rfl, HB.out⟩
  · have CL : Hid (∀ w, _) := fun w => reflist_some m w hm h0
    have hl := len_pos _ h0
    rw [show er (ls m) = 0 from if_neg h0, hd_get]
    have e0 : Hid (∀ (b off : Nat) (w' : World), (∀ i, i < (ls m).length → w'.cell? ⟨b, off + i, none⟩ = some (.int .i64 ((ls m).getD i 0 : Nat))) → w'.cell? ⟨b, off, none⟩ = some (.int .i64 ((ls m).getD 0 0 : Nat))) := fun b off w' h => h 0 hl
    generalize (ls m).getD 0 0 = x at *
    obtain ⟨n, hn⟩ : ∃ n, (ls m).length = n := ⟨_, rfl⟩
    rw [hn] at hl
    have h1 : ((n : Int) == 0) = false := by rw [beq_eq_false_iff_ne]; omega
    have h2 : (0 : Int) < n := by omega
    have HN : Hid ((ls m).length = n) := hn
    clear hm h0 hl hn
    go_enter Tryd.func27, Tryd.ntmps27
    go_wp2_with fail
    refine (CL.out _).mono ?_
    rintro e w' ⟨b, off, cap, rfl, hc, hb⟩
    have HB : Hid (Below w.heap.size w w') := hb
    have hc0 := e0.out b off w' hc
    rw [HN.out]
    clear hb hc
    go_wp2
    go_ret2
    exact ⟨rfl, HB.out⟩

set_option maxHeartbeats 400000 in
theorem reflast_any (m : Nat) (w : World) (hm : m < 18446744073709551616) :
    Calls Tryd.prog 29 #[.int .u64 m] w fun e w' => e = .returned (.tuple #[.int .i64 (la (ls m) : Nat), .int .i64 (er (ls m))]) ∧ Below w.heap.size w w' := by
  by_cases h0 : ls m = []
  · have CL : Hid (∀ w, _) := fun w => reflist_nil m w hm h0
    rw [h0]
    clear hm h0
    go_enter Tryd.func29, Tryd.ntmps29
    go_wp2_with fail
    refine (CL.out _).mono ?_
    rintro e w' ⟨a, cap, rfl, hb⟩
    have HB : Hid (Below w.heap.size w w') := hb
    clear hb
    go_wp2
    go_ret2
    exact ⟨rfl, HB.out⟩
  · have CL : Hid (∀ w, _) := fun w => reflist_some m w hm h0
    have hl := len_pos _ h0
    have hl2 := ls_le m
    rw [show er (ls m) = 0 from if_neg h0, la_get]
    have e0 : Hid (∀ (b off : Nat) (w' : World), (∀ i, i < (ls m).length → w'.cell? ⟨b, off + i, none⟩ = some (.int .i64 ((ls m).getD i 0 : Nat))) → w'.cell? ⟨b, off + ((ls m).length - 1), none⟩ = some (.int .i64 ((ls m).getD ((ls m).length - 1) 0 : Nat))) := fun b off w' h => h _ (by omega)
    generalize (ls m).getD ((ls m).length - 1) 0 = x at *
    obtain ⟨n, hn⟩ : ∃ n, (ls m).length = n + 1 := ⟨(ls m).length - 1, by omega⟩
    rw [hn] at hl2
    have e0' : Hid (∀ (b off : Nat) (w' : World), (∀ i, i < (ls m).length → w'.cell? ⟨b, off + i, none⟩ = some (.int .i64 ((ls m).getD i 0 : Nat))) → w'.cell? ⟨b, off + n, none⟩ = some (.int .i64 (x : Nat))) := fun b off w' h => by
      have := e0.out b off w' h
      rw [hn, Nat.add_sub_cancel] at this
      exact this
    have h1 : ((n : Int) + 1 == 0) = false := by rw [beq_eq_false_iff_ne]; omega
    have h2 : (n : Int) ≤ 63 := by omega
    have HN : Hid ((ls m).length = n + 1) := hn
    clear hm h0 hl hn e0 hl2
    go_enter Tryd.func29, Tryd.ntmps29
    go_wp2_with fail
    refine (CL.out _).mono ?_
    rintro e w' ⟨b, off, cap, rfl, hc, hb⟩
    have HB : Hid (Below w.heap.size w w') := hb
    have hc0 := e0'.out b off w' hc
    rw [HN.out]
    clear hb hc
    go_wp2
    go_ret2
    exact ⟨rfl, HB.out⟩
end Go.Proofs.YtojpeanakjefoaaDoor
