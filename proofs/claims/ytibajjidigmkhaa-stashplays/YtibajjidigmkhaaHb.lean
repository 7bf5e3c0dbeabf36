/- What stash's keeps, Has, Kept and Out answer and leave, for every stash. -/
import Derived.Test.YtibajjidigmkhaaRows
import Derived.Test.YtibajjidigmkhaaHa
import Derived.WalkKit
import Derived.ProofKit
import Derived.OpenShut
import Derived.BigQuiet
namespace Go.Proofs.Ytibajjidigmkhaa
open Go.ChangeShapes Go.WideShapes Go.ChangeAt Go.RowKit
open Om Hm

theorem Gt.drewN {w wr : World} {v : Value} {G : List Int} (g : Gt w wr v G) (n : Nat) : Gt w (wr.drewN n) v G := ⟨g.own, ((Fr.of_below g.bel).drewN n).below (by simp)⟩
theorem mem_getD' (xs : List Int) (x : Int) (h : x ∈ xs) : ∃ j, j < xs.length ∧ xs.getD j 0 = x := by
  obtain ⟨j, hj, e⟩ := List.mem_iff_getElem.1 h
  exact ⟨j, hj, by rw [List.getD_eq_getElem?_getD, List.getElem?_eq_getElem hj]; exact e⟩
theorem getD_mem' (xs : List Int) (j : Nat) (h : j < xs.length) : xs.getD j 0 ∈ xs := by
  rw [List.getD_eq_getElem?_getD, List.getElem?_eq_getElem h]
  exact List.getElem_mem h

set_option maxHeartbeats 1000000 in
theorem keeps_any {b pb lb n m : Nat} {A : List Nat} {V : List Value} {K : List (List Int)} (x : Int) (w : World) (h : SH w b pb lb n m A V K) (kl : ∀ i, (ks K i).length ≤ 4) :
    Calls Try.prog 47 #[.pointer (some ⟨b, 0, none⟩), .int .i64 x] w fun e w' => e = .returned (.bool (kp K x)) ∧ w' = w := by
  have c1 := h.st.c1
  have hn : (n : Int) ≤ 64 := by have := h.st.n2; omega
  have HV : Hid (∀ k : Nat, (k : Int) < n → w.cell? ⟨lb, k, none⟩ = some (V.getD k nv) ∧ ∃ a cap, V.getD k nv = .slice a (ks K k).length cap) := fun k hk => ⟨h.st.cv (by omega), (h.st.lv (by omega)).shape⟩
  have HC : Hid (∀ (k : Nat) (a : Option Addr) (cap : Nat), (k : Int) < n → V.getD k nv = .slice a (ks K k).length cap → ∀ j : Nat, (j : Int) < (ks K k).length → ∃ g off, a = some ⟨g, off, none⟩ ∧ w.cell? ⟨g, off + j, none⟩ = some (.int .i64 ((ks K k).getD j 0))) := fun k a cap hk e j hj => by
    have r := (h.st.lv (i := k) (by omega)).row
    rw [e] at r
    exact row_cell r rfl (Below.refl _ _) hj
  have KL : Hid (∀ i, ((ks K i).length : Int) ≤ 4) := fun i => by have := kl i; omega
  have KN : Hid (K.length = n) := h.st.kn
  obtain ⟨R, hR⟩ : ∃ R, kp K x = R := ⟨_, rfl⟩
  have HR : Hid (kp K x = R) := hR
  rw [hR]
  clear h hR kl
  go_enter Try.func47, Try.ntmps47
  go_wp2
  go_loop [14] (fun i => ∃ k : Nat, (k : Int) ≤ n ∧ Hid (∀ j, j < k → x ∉ ks K j) ∧ i = .int .i64 k) (fun i => n - (intOf i).toNat)
  case atStart => exact ⟨0, by omega, fun j hj => by omega, rfl⟩
  case round =>
    obtain ⟨k, hk, hN, rfl⟩ := hrel
    by_cases l : (k : Int) < n
    · obtain ⟨cv, a, cap, hv⟩ := HV.out k l
      have CC := HC.out k a cap l hv
      have HCC : Hid (∀ j : Nat, (j : Int) < (ks K k).length → ∃ g off, a = some ⟨g, off, none⟩ ∧ w.cell? ⟨g, off + j, none⟩ = some (.int .i64 ((ks K k).getD j 0))) := CC
      have l4 := KL.out k
      rw [hv] at cv
      obtain ⟨xs, hxs⟩ : ∃ xs, ks K k = xs := ⟨_, rfl⟩
      have HX : Hid (ks K k = xs) := hxs
      rw [hxs] at cv HCC l4
      obtain ⟨q, hq⟩ : ∃ q, xs.length = q := ⟨_, rfl⟩
      have HQ : Hid (xs.length = q) := hq
      rw [hq] at cv HCC l4
      clear CC hv hxs hq
      go_wp2
      go_loop [20] (fun i => ∃ j : Nat, (j : Int) ≤ q ∧ Hid (∀ t, t < j → xs.getD t 0 ≠ x) ∧ i = .int .i64 j) (fun i => q - (intOf i).toNat)
      case atStart => exact ⟨0, by omega, fun j hj => by omega, rfl⟩
      case round =>
        obtain ⟨j, hj, hM, rfl⟩ := hrel
        by_cases l2 : (j : Int) < q
        · obtain ⟨g, off, rfl, cc⟩ := HCC.out j l2
          by_cases e : xs.getD j 0 = x
          · have s : R = true := by
              rw [← HR.out]
              refine kp_yes (i := k) ?_
              rw [HX.out, ← e]
              exact getD_mem' xs j (by have := HQ.out; omega)
            subst s
            rw [e] at cc
            clear e
            go_wp2
            go_ret
            exact ⟨rfl, rfl⟩
          · have s : Hid (∀ t, t < j + 1 → xs.getD t 0 ≠ x) := fun t ht => by
              by_cases d : t = j
              · subst d; exact e
              · exact hM.out t (by omega)
            generalize xs.getD j 0 = y at *
            have e2 : (y == x) = false := by simpa using e
            clear e
            go_wp2
            go_round
            case rel => exact ⟨j + 1, by omega, s, by go_num⟩
            case measure => simp [intOf]; omega
        · have s : Hid (∀ t, t < k + 1 → x ∉ ks K t) := fun t ht => by
            by_cases d : t = k
            · subst d
              rw [HX.out]
              intro hm
              obtain ⟨t, ht, e⟩ := mem_getD' xs x hm
              exact hM.out t (by have := HQ.out; omega) e
            · exact hN.out t (by omega)
          go_wp2
          go_round
          case rel => exact ⟨k + 1, by omega, s, by go_num⟩
          case measure => simp [intOf]; omega
    · have s : R = false := by
        rw [← HR.out]
        cases e : kp K x with
        | false => rfl
        | true =>
          obtain ⟨i, hi, hm⟩ := kp_at e
          exact absurd hm (hN.out i (by have := KN.out; omega))
      subst s
      go_wp2
      go_ret
      exact ⟨rfl, rfl⟩

theorem shas_any {b pb lb n m : Nat} {A : List Nat} {V : List Value} {K : List (List Int)} (x : Int) (w : World) (h : SH w b pb lb n m A V K) (kl : ∀ i, (ks K i).length ≤ 4) :
    Calls Try.prog 30 #[.pointer (some ⟨b, 0, none⟩), .int .i64 x] w fun e w' => e = .returned (.bool (hs m A K x)) ∧ ∃ k, w' = w.drewN k := by
  have c0 := h.st.c0
  have C : Hid (∀ _ : Unit, _) := fun _ => pout_any x w h.po
  have D : Hid (∀ k : Nat, _) := fun k => keeps_any x (w.drewN k) (h.heap rfl) kl
  clear h kl
  unfold hs
  cases e : ou m A x with
  | false =>
    rw [e] at C
    rw [Bool.false_and]
    clear e
    go_enter Try.func30, Try.ntmps30
    go_wp2_with fail
    refine (C.out ()).mono ?_
    rintro e w' ⟨rfl, k, rfl⟩
    go_wp2
    go_ret
    exact ⟨rfl, _, rfl⟩
  | true =>
    rw [e] at C
    rw [Bool.true_and]
    generalize kp K x = y at *
    clear e
    go_enter Try.func30, Try.ntmps30
    go_wp2_with fail
    refine (C.out ()).mono ?_
    rintro e w' ⟨rfl, k, rfl⟩
    go_wp2_with fail
    refine (D.out k).mono ?_
    rintro e w' ⟨rfl, rfl⟩
    go_wp2
    go_ret
    exact ⟨rfl, _, rfl⟩

set_option maxHeartbeats 2000000 in
theorem sout_any {b pb lb n m : Nat} {A : List Nat} {V : List Value} {K : List (List Int)} (w : World) (h : SH w b pb lb n m A V K) (kl : ∀ i, (ks K i).length ≤ 4) :
    Calls Try.prog 27 #[.pointer (some ⟨b, 0, none⟩)] w fun e w' => ∃ v, e = .returned v ∧ Gt w w' v (ol m A K 96) := by
  obtain ⟨i0, hi, hz0, hz1, hz2⟩ := info_parts Try.info3
  have HS : Hid (∀ wr, Below w.heap.size w wr → ∀ x, _) := fun wr hb x => shas_any x wr (h.keep (Fr.of_below hb) (Nat.le_refl _) (by simp) (by simp) (by simp) (by simp)) kl
  obtain ⟨W, hW⟩ : ∃ W, ol m A K 96 = W := ⟨_, rfl⟩
  have HW : Hid (ol m A K 96 = W) := hW
  rw [hW]
  clear h kl hW
  go_enter Try.func27, Try.ntmps27
  go_wp2
  go_loopw [3, 4] (fun v i wr => ∃ (k : Nat) (G : List Int), (k : Int) ≤ 96 ∧ i = .int .i64 ((k : Int) + 1) ∧ Gt w wr v G ∧ Hid (ol m A K k = G) ∧ (G.length : Int) ≤ k) (fun _ i _ => 97 - (intOf i).toNat)
  case atStart => exact ⟨0, [], by omega, by go_num, gt_start w, rfl, by simp⟩
  case round =>
    obtain ⟨k, G, hk, rfl, g, hG, hgl⟩ := hrel
    by_cases l : (k : Int) < 96
    · have C : Hid (∀ _ : Unit, _) := fun _ => HS.out wr g.bel ((k : Int) + 1)
      have hs := ol_succ m A K k
      rw [hG.out] at hs
      cases e : Hm.hs m A K ((k : Int) + 1) with
      | false =>
        rw [e] at C hs
        have S : Hid (ol m A K (k + 1) = G) := hs
        have g2 := g.drewN
        clear hs e g
        go_wp2_with fail
        refine (C.out ()).mono ?_
        rintro e u ⟨rfl, d, rfl⟩
        go_wp2
        go_roundw
        case rel => exact ⟨k + 1, G, by omega, by go_num, g2 d, S, by omega⟩
        case measure => simp [intOf]; omega
      | true =>
        rw [e] at C hs
        have S : Hid (ol m A K (k + 1) = G ++ [(k : Int) + 1]) := hs
        have hsz := g.bel.size
        have HG := g.drewN
        clear hs e g
        go_wp2_with fail
        refine (C.out ()).mono ?_
        rintro e u ⟨rfl, d, rfl⟩
        have g2 := HG d
        go_wp2_with (at_builtin; refine wpList_append_own _ rfl _ _ 22 rfl w.heap.size 3 i0 (.int .i64 0) 1 8 Try.underlying22 hi hz0 hz1 hz2 rfl (by decide) _ _ _ rfl (g2.own.alloc _) ⟨_, 0, none⟩ 1 1 [.int .i64 ((k : Int) + 1)] rfl rfl ?c1 ?c2 ?c3 ?c4 ?c5 ?_)
        case c1 =>
          intro j u hj
          match j, hj with
          | 0, hj => simp at hj; subst hj; exact (Blk.new _ [_] _).cell 0
        case c2 => intro u hu; simp at hu; subst hu; rfl
        case c3 => unfold maxLen; omega
        case c4 => omega
        case c5 => simp; omega
        intro v' w1 hown' hgrow _
        have G2 := gt_app g2 hown' hgrow
        clear hown' hgrow g2 HG
        go_wp2
        go_roundw
        case rel => exact ⟨k + 1, G ++ [(k : Int) + 1], by omega, by go_num, G2, S, by simp; omega⟩
        case measure => simp [intOf]; omega
    · have e : G = W := by
        rw [← hG.out, ← HW.out, show k = 96 by omega]
      subst e
      go_wp2
      go_ret
      exact ⟨_, rfl, g⟩

theorem splice_all' {α : Type} (Z X : List α) (h : Z.length = X.length) : splice Z 0 X = X := by
  unfold splice
  rw [List.take_zero, List.nil_append, Nat.zero_add, List.drop_eq_nil_of_le (by omega), List.append_nil]
/-- A new block that holds a whole list is owned. -/
theorem own_blk' {w : World} {base g : Nat} {t : TypeId} {xs : List Int} (h : Blk w g (xs.map (Value.int .i64)) t) (hg : base ≤ g) (hl : (xs.length : Int) ≤ 100000) : w.ownsRow base t 1 (.slice (some ⟨g, 0, none⟩) xs.length xs.length) xs.length (xs.map (Value.int .i64)) :=
  ⟨by simp, Or.inr ⟨g, xs.length, _, rfl, hg, h, Nat.le_refl _, by unfold maxLen; omega, by simp, by rw [Nat.mul_one]; exact List.take_of_length_le (by simp)⟩⟩

/-- What a core keeps; none of no core. -/
def kc (n : Nat) (K : List (List Int)) (c : Int) : List Int := if isc n c = true then ks K c.toNat else []

set_option maxHeartbeats 2000000 in
theorem skept_any {b pb lb n m : Nat} {A : List Nat} {V : List Value} {K : List (List Int)} (c : Int) (w : World) (h : SH w b pb lb n m A V K) (kl : ∀ i, (ks K i).length ≤ 4) :
    Calls Try.prog 33 #[.pointer (some ⟨b, 0, none⟩), .int .i64 c] w fun e w' => ∃ v, e = .returned v ∧ Gt w w' v (kc n K c) := by
  have C : Hid (∀ _ : Unit, _) := fun _ => isCore_any c w h
  cases i : isc n c with
  | false =>
    rw [i] at C
    rw [show kc n K c = [] by unfold kc; rw [i]; rfl]
    clear h kl i
    go_enter Try.func33, Try.ntmps33
    go_wp2_with fail
    refine (C.out ()).mono ?_
    rintro e w' ⟨rfl, rfl⟩
    go_wp2
    go_ret
    exact ⟨_, rfl, gt_start _⟩
  | true =>
    rw [i] at C
    have hi := isc_true i
    obtain ⟨c, rfl⟩ := Int.eq_ofNat_of_zero_le hi.1
    rw [show kc n K (c : Int) = ks K c by unfold kc; rw [i]; rfl]
    have hc : (c : Int) < n := hi.2
    have c1 := h.st.c1
    have cv := h.st.cv (i := c) (by omega)
    have lv := h.st.lv (i := c) (by omega)
    obtain ⟨a, cap, hv⟩ := lv.shape
    have hr := lv.row
    have hl : ((ks K c).length : Int) ≤ 4 := by have := kl c; omega
    rw [hv] at cv hr
    change Row w (.slice a (ks K c).length cap) (ks K c) at hr
    change w.cell? ⟨lb, c, none⟩ = some (.slice a (ks K c).length cap) at cv
    obtain ⟨xs, hxs⟩ : ∃ xs, ks K c = xs := ⟨_, rfl⟩
    rw [hxs] at hl cv hr ⊢
    have hmk := run_make_row' (P := Try.prog) 22 3 (.int .i64 0) 8 Try.underlying22 Try.info3 rfl .i64 .i64 xs.length (by omega) (by omega)
    rw [made_int] at hmk
    obtain ⟨Z, hZ⟩ : ∃ Z : List Value, (List.replicate xs.length (0 : Int)).map (Value.int .i64) = Z := ⟨_, rfl⟩
    have lZ : Hid (Z.length = xs.length) := by rw [← hZ]; simp [Hid]
    rw [hZ] at hmk
    have B0 : Fr w.heap.size [] w (w.alloc (.cells Z.toArray 3)) := (Fr.refl _ _ _).alloc (Nat.le_refl _) _
    have d1 : (w.alloc (.cells Z.toArray 3)).cell? ⟨b, 1, none⟩ = some (.slice (some ⟨lb, 0, none⟩) n n) := (h.st.sb.alloc _).cell 1
    have d2 : (w.alloc (.cells Z.toArray 3)).cell? ⟨lb, c, none⟩ = some (.slice a xs.length cap) := ((h.st.sl.alloc _).cell c).trans ((h.st.sl.cell c).symm.trans cv)
    have SB : Hid (Blk (w.alloc (.cells Z.toArray 3)) w.heap.size Z 3) := Blk.new w Z 3
    obtain ⟨X, hX⟩ : ∃ X, xs.map (Value.int .i64) = X := ⟨_, rfl⟩
    have lX : Hid (X.length = xs.length) := by rw [← hX]; simp [Hid]
    have oX : Hid (∀ v ∈ X, v.oneCell' = true) := by rw [← hX]; exact ints_one _
    have P1 : Hid (0 < X.length → _) := fun hp => row_src (w := w.alloc (.cells Z.toArray 3)) (hr.keep B0 (Nat.le_refl _)) (by have := lX.out; omega)
    rw [hX] at P1
    have N1 : Hid (X.length = Nat.min xs.length xs.length) := by rw [lX.out]; exact (Nat.min_self _).symm
    have F1 : Hid (0 + X.length ≤ Z.length) := by rw [lX.out, lZ.out]; unfold Hid; omega
    have FIN : Hid (∀ (w2 : World), Blk w2 w.heap.size (splice Z 0 X) 3 → Fr (w.alloc (.cells Z.toArray 3)).heap.size [w.heap.size] (w.alloc (.cells Z.toArray 3)) w2 → Gt w w2 (.slice (some ⟨w.heap.size, 0, none⟩) xs.length xs.length) xs) := fun w2 f fr => by
      rw [splice_all' Z X (by rw [lZ.out, lX.out]), ← hX] at f
      refine ⟨own_blk' f (Nat.le_refl _) (by omega), ?_⟩
      have f2 : Fr w.heap.size [w.heap.size] w w2 := (B0.mono (Nat.le_refl _) (by simp)).trans (fr.less (by simp))
      exact f2.below (by simp)
    clear h kl i hi hX hZ B0 lv hv hr hxs
    generalize xs.length = q at *
    go_enter Try.func33, Try.ntmps33
    go_wp2_with fail
    refine (C.out ()).mono ?_
    rintro e w' ⟨rfl, rfl⟩
    go_wp2_with (refine wpList_copy_at rfl (.tmp 23) (.tmp 30) 22 22 rfl 3 Try.underlying22 info3s _ _ _ _ _ _ rfl rfl _ 0 Z 3 SB.out X N1.out (fun hp => ⟨rfl, P1.out hp⟩) F1.out oX.out ?_; intro w2 G2 F2)
    go_ret
    exact ⟨_, rfl, FIN.out w2 G2.out F2.out⟩

/- The calls of a stash that is not there. -/
theorem nil_salloc (n : Int) (w : World) : Calls Try.prog 34 #[.pointer none, .int .i64 n] w fun e w' => e = .returned (.tuple #[.int .i64 0, .int .i64 1]) ∧ w' = w := by
  go_enter Try.func34, Try.ntmps34
  go_wp2
  go_ret2
  exact ⟨rfl, rfl⟩
theorem nil_sdrain (n : Int) (w : World) : Calls Try.prog 36 #[.pointer none, .int .i64 n] w fun e w' => e = .returned (.tuple #[.int .i64 0, .int .i64 1]) ∧ w' = w := by
  go_enter Try.func36, Try.ntmps36
  go_wp2
  go_ret2
  exact ⟨rfl, rfl⟩
theorem nil_sgive (n i : Int) (w : World) : Calls Try.prog 35 #[.pointer none, .int .i64 n, .int .i64 i] w fun e w' => e = .returned (.int .i64 1) ∧ w' = w := by
  go_enter Try.func35, Try.ntmps35
  go_wp2
  go_ret
  exact ⟨rfl, rfl⟩
theorem nil_skept (n : Int) (w : World) : Calls Try.prog 33 #[.pointer none, .int .i64 n] w fun e w' => e = .returned (.slice none 0 0) ∧ w' = w := by
  go_enter Try.func33, Try.ntmps33
  go_wp2
  go_ret
  exact ⟨rfl, rfl⟩
theorem nil_sout (w : World) : Calls Try.prog 27 #[.pointer none] w fun e w' => e = .returned (.slice none 0 0) ∧ w' = w := by
  go_enter Try.func27, Try.ntmps27
  go_wp2
  go_ret
  exact ⟨rfl, rfl⟩
theorem nil_sfree (w : World) : Calls Try.prog 29 #[.pointer none] w fun e w' => e = .returned (.int .i64 0) ∧ w' = w := by
  go_enter Try.func29, Try.ntmps29
  go_wp2
  go_ret
  exact ⟨rfl, rfl⟩
theorem nil_shas (n : Int) (w : World) : Calls Try.prog 30 #[.pointer none, .int .i64 n] w fun e w' => e = .returned (.bool false) ∧ w' = w := by
  go_enter Try.func30, Try.ntmps30
  go_wp2
  go_ret
  exact ⟨rfl, rfl⟩
end Go.Proofs.Ytibajjidigmkhaa
