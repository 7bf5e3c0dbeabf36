/- What the document's lists of works answer and leave (davitref17): New, Is, at, Where, List, Queue, Drop, for all lists. -/
import Derived.Test.YtofdhljgchefgaaDoorRows
import Derived.Test.YtofdhljgchefgaaDoorCr
import Derived.WalkKit
import Derived.ProofKit
import Derived.OpenShut
import Derived.BigQuiet
import Derived.Deep.RegionHeld3
import Derived.Deep.RegionLaw
namespace Go.Proofs.YtofdhljgchefgaaDoor
open Go.ChangeShapes Go.WideShapes Go.ChangeAt Go.RowKit
open Fm Sl Cm

set_option maxHeartbeats 400000 in
theorem rgnew_any (n : Nat) (w : World) (h1 : (1 : Int) ≤ n) (h2 : (n : Int) ≤ 64) :
    Calls Tryd.prog 10 #[.int .i64 (n : Int)] w fun e w' => e = .returned (.tuple #[.pointer (some ⟨w.heap.size + 1, 0, none⟩), .int .i64 0]) ∧ RX 69 w' (w.heap.size + 1) w.heap.size (n + 1) (List.replicate (n + 1) nv) (List.replicate (n + 1) []) ∧ Below w.heap.size w w' := by
  have hmk := run_make_row' (P := Tryd.prog) 67 38 (.slice none 0 0) 24 Tryd.underlying67 Tryd.infoSI rfl .i64 .i64 (n + 1) (by omega) (by omega)
  rw [made_nv] at hmk
  have F : Hid (∀ o1 o2, Below w.heap.size w ((w.alloc o1).alloc o2)) := fun o1 o2 => ((Below.refl _ _).alloc (Nat.le_refl _) o1).alloc (by simp) o2
  have N1 : Hid (1 ≤ n + 1 ∧ n + 1 ≤ 65) := by unfold Hid; omega
  rw [show ((n + 1 : Nat) : Int) = (n : Int) + 1 by omega] at hmk
  obtain ⟨p, hp⟩ : ∃ p, n + 1 = p := ⟨_, rfl⟩
  rw [hp] at hmk N1 ⊢
  clear hp
  go_enter Tryd.func10, Tryd.ntmps10
  go_wp2
  go_ret2
  refine ⟨rfl, ⟨?_, ?_, ls_nil _ _, by simp, N1.out.1, N1.out.2⟩, F.out _ _⟩
  · have := Blk.new (w.alloc (.cells (List.replicate p nv).toArray 38)) [.slice (some ⟨w.heap.size, 0, none⟩) p p] 69
    rwa [World.size_alloc] at this
  · exact (Blk.new w (List.replicate p nv) _).alloc _
theorem rgnew_bad (c : Int) (w : World) (h : c < 1 ∨ 64 < c) :
    Calls Tryd.prog 10 #[.int .i64 c] w fun e w' => e = .returned (.tuple #[.pointer none, .int .i64 2]) ∧ w' = w := by
  rcases h with h | h
  · go_enter Tryd.func10, Tryd.ntmps10
    go_wp2
    go_ret2
    exact ⟨rfl, rfl⟩
  · have h2 : (1 : Int) ≤ c := by omega
    go_enter Tryd.func10, Tryd.ntmps10
    go_wp2
    go_ret2
    exact ⟨rfl, rfl⟩

theorem rgis_any {b lb p n : Nat} {V : List Value} {K : Ks} (c : Int) (w : World) (h : RX 69 w b lb p V K) (hp : p = n + 1) :
    Calls Tryd.prog 47 #[.pointer (some ⟨b, 0, none⟩), .int .i64 c] w fun e w' => e = .returned (.bool (isc n c)) ∧ w' = w := by
  have c0 := h.c0
  have h65 : (p : Int) ≤ 65 := by have := h.p2; omega
  have h1 : (1 : Int) ≤ p := by omega
  have hp1 : (p : Int) - 1 = (n : Int) := by omega
  clear h hp
  cases e : isc n c with
  | true =>
    obtain ⟨l, l2⟩ := isc_true e
    have l3 : decide (c < (n : Int)) = true := decide_eq_true l2
    clear e
    go_enter Tryd.func47, Tryd.ntmps47
    go_wp2
    go_ret
    exact ⟨rfl, rfl⟩
  | false =>
    rcases isc_false e with l | ⟨l, l2⟩
    · clear e
      go_enter Tryd.func47, Tryd.ntmps47
      go_wp2
      go_ret
      exact ⟨rfl, rfl⟩
    · have l3 : decide (c < (n : Int)) = false := decide_eq_false (by omega)
      clear e
      go_enter Tryd.func47, Tryd.ntmps47
      go_wp2
      go_ret
      exact ⟨rfl, rfl⟩

theorem rgat_any {b lb p n k : Nat} {V : List Value} {K : Ks} (c : Int) (w : World) (h : RX 69 w b lb p V K) (hp : p = n + 1) (hc : pc n c = some k) :
    Calls Tryd.prog 48 #[.pointer (some ⟨b, 0, none⟩), .int .i64 c] w fun e w' => e = .returned (.int .i64 (k : Int)) ∧ w' = w := by
  have c0 := h.c0
  have h65 : (p : Int) ≤ 65 := by have := h.p2; omega
  have h1 : (1 : Int) ≤ p := by omega
  have hp1 : (p : Int) - 1 = (n : Int) := by omega
  clear h hp
  unfold pc at hc
  by_cases e : c = -1
  · rw [if_pos e] at hc
    obtain rfl : n = k := by injection hc
    subst e
    clear hc
    go_enter Tryd.func48, Tryd.ntmps48
    go_wp2
    go_ret
    exact ⟨by first | rfl | rw [hp1] | rw [← hp1], rfl⟩
  · rw [if_neg e] at hc
    cases i : isc n c with
    | false =>
      rw [i, if_neg (by decide)] at hc
      cases hc
    | true =>
      rw [i, if_pos rfl] at hc
      obtain ⟨q, rfl, hq, hq2⟩ := isc_nat i
      obtain rfl : q = k := by injection hc
      have e2 : ((q : Int) == -1) = false := by simp
      clear hc i e
      go_enter Tryd.func48, Tryd.ntmps48
      go_wp2
      go_ret
      exact ⟨rfl, rfl⟩

set_option maxHeartbeats 1000000 in
theorem rgwhere_any {b lb p n : Nat} {V : List Value} {K : Ks} (x : Int) (w : World) (h : RX 69 w b lb p V K) (a : Al K) (hp : p = n + 1) :
    Calls Tryd.prog 14 #[.pointer (some ⟨b, 0, none⟩), .int .i64 x] w fun e w' => e = .returned (.tuple #[.int .i64 (whN n K x), .bool (haB K x)]) ∧ w' = w := by
  have c0 := h.c0
  have hn : (p : Int) ≤ 65 := by have := h.p2; omega
  have h1 : (1 : Int) ≤ p := by omega
  have hp1 : (p : Int) - 1 = (n : Int) := by omega
  have HV : Hid (∀ k : Nat, (k : Int) < p → w.cell? ⟨lb, k, none⟩ = some (V.getD k nv)) := fun k hk => h.cv (by omega)
  have HC : Hid (∀ k : Nat, (k : Int) < p → _) := fun k hk => rhas_any (ks K k) (V.getD k nv) x w (by have := a.len k; omega) (h.lv (i := k) (by omega)).row
  have KN : Hid (K.length = p) := h.kn
  obtain ⟨R, hR⟩ : ∃ R, haB K x = R := ⟨_, rfl⟩
  obtain ⟨Y, hY⟩ : ∃ Y, whN n K x = Y := ⟨_, rfl⟩
  have HR : Hid (∀ o, onc K x = o → R = o.isSome ∧ Y = ((o.map (nm n)).getD 0)) := fun o e => by
    rw [← hR, ← hY]
    unfold haB whN wq
    rw [e]
    exact ⟨rfl, rfl⟩
  rw [hR, hY]
  clear h hR hY a hp
  go_enter Tryd.func14, Tryd.ntmps14
  go_wp2
  go_loop [6] (fun i => ∃ k : Nat, (k : Int) ≤ p ∧ Hid (∀ j, j < k → x ∉ ks K j) ∧ i = .int .i64 k) (fun i => p - (intOf i).toNat)
  case atStart => exact ⟨0, by omega, fun j hj => by omega, rfl⟩
  case round =>
    obtain ⟨k, hk, hN, rfl⟩ := hrel
    by_cases l : (k : Int) < p
    · have cv := HV.out k l
      have C : Hid (∀ _ : Unit, _) := fun _ => HC.out k l
      generalize V.getD k nv = v at *
      by_cases e : x ∈ ks K k
      · obtain ⟨g1, g2⟩ := HR.out _ (onc_at e hN.out)
        have f1 : R = true := g1
        have f2 : Y = nm n k := g2
        clear g1 g2
        subst f1
        rw [decide_eq_true e] at C
        by_cases q : k = n
        · have f3 : Y = -1 := by rw [f2]; exact if_pos q
          have q2 : ((k : Int) == (n : Int)) = true := by rw [q]; simp
          clear f2 e HR HV HC hN q
          subst f3
          go_wp2_with fail
          refine (C.out ()).mono ?_
          rintro e w' ⟨rfl, rfl⟩
          go_wp2
          go_ret2
          exact ⟨rfl, rfl⟩
        · have f3 : Y = (k : Int) := by rw [f2]; exact if_neg q
          have q2 : ((k : Int) == (n : Int)) = false := by simp; omega
          clear f2 e HR HV HC hN q
          subst f3
          go_wp2_with fail
          refine (C.out ()).mono ?_
          rintro e w' ⟨rfl, rfl⟩
          go_wp2
          go_ret2
          exact ⟨rfl, rfl⟩
      · have s : Hid (∀ t, t < k + 1 → x ∉ ks K t) := fun t ht => by
          by_cases d : t = k
          · subst d; exact e
          · exact hN.out t (by omega)
        rw [decide_eq_false e] at C
        clear e
        go_wp2_with fail
        refine (C.out ()).mono ?_
        rintro e w' ⟨rfl, rfl⟩
        go_wp2
        go_round
        case rel => exact ⟨k + 1, by omega, s, by go_num⟩
        case measure => simp [intOf]; omega
    · obtain ⟨f1, f2⟩ := HR.out _ (onc_none.2 fun c hc => hN.out c (by have := ks_lt hc; have := KN.out; omega) hc)
      have f3 : R = false := f1
      have f4 : Y = 0 := f2
      clear f1 f2
      subst f3
      subst f4
      clear HR HV HC hN
      go_wp2
      go_ret2
      exact ⟨rfl, rfl⟩

theorem pc_neg {n : Nat} {c : Int} (h : pc n c = none) : isc n c = false ∧ (c != -1) = true := by
  unfold pc at h
  split at h
  · cases h
  · rename_i e
    split at h
    · cases h
    · rename_i f
      exact ⟨by simpa using f, by simpa using e⟩
theorem pc_pos {n k : Nat} {c : Int} (h : pc n c = some k) : (isc n c = true ∧ c = (k : Int) ∧ k < n) ∨ (isc n c = false ∧ c = -1 ∧ k = n) := by
  unfold pc at h
  split at h
  · rename_i e
    injection h with h
    refine Or.inr ⟨?_, e, h.symm⟩
    unfold isc
    simp
    omega
  · split at h
    · rename_i f
      have := isc_true f
      injection h with h
      exact Or.inl ⟨f, by omega, by omega⟩
    · cases h

set_option maxHeartbeats 400000 in
theorem rglist_any {b lb p n : Nat} {V : List Value} {K : Ks} (c : Int) (w : World) (h : RX 69 w b lb p V K) (hp : p = n + 1) :
    Calls Tryd.prog 18 #[.pointer (some ⟨b, 0, none⟩), .int .i64 c] w fun e w' => ∃ a cap, e = .returned (.slice a (wlL n K c).length cap) ∧ Row w (.slice a (wlL n K c).length cap) (wlL n K c) ∧ w' = w := by
  have C : Hid (∀ _ : Unit, _) := fun _ => rgis_any c w h hp
  unfold wlL
  cases e : pc n c with
  | none =>
    obtain ⟨e1, e2⟩ := pc_neg e
    rw [e1] at C
    clear h e e1
    go_enter Tryd.func18, Tryd.ntmps18
    go_wp2_with fail
    refine (C.out ()).mono ?_
    rintro e w' ⟨rfl, rfl⟩
    go_wp2
    go_ret
    exact ⟨none, 0, rfl, Or.inl ⟨rfl, none, 0, rfl⟩, rfl⟩
  | some k =>
    have D : Hid (∀ _ : Unit, _) := fun _ => rgat_any c w h hp e
    have hk : k < p := by have := pc_lt e; omega
    have hk2 : (k : Int) < p := by omega
    have c0 := h.c0
    have cv := h.cv hk
    obtain ⟨a, cap, hv⟩ := (h.lv hk).shape
    have R : Hid (Row w (.slice a (ks K k).length cap) (ks K k)) := by rw [← hv]; exact (h.lv hk).row
    rw [hv] at cv
    show Calls _ _ _ _ fun e w' => ∃ a cap, e = .returned (.slice a (ks K k).length cap) ∧ Row w (.slice a (ks K k).length cap) (ks K k) ∧ w' = w
    rcases pc_pos e with ⟨e1, e2, e3⟩ | ⟨e1, e2, e3⟩
    · rw [e1] at C
      clear h e hv e1 e2 e3
      go_enter Tryd.func18, Tryd.ntmps18
      go_wp2_with fail
      refine (C.out ()).mono ?_
      rintro e w' ⟨rfl, rfl⟩
      go_wp2_with fail
      refine (D.out ()).mono ?_
      rintro e w' ⟨rfl, rfl⟩
      go_wp2
      go_ret
      exact ⟨_, _, rfl, R.out, rfl⟩
    · rw [e1] at C
      subst e2
      clear h e hv e1 e3
      go_enter Tryd.func18, Tryd.ntmps18
      go_wp2_with fail
      refine (C.out ()).mono ?_
      rintro e w' ⟨rfl, rfl⟩
      go_wp2_with fail
      refine (D.out ()).mono ?_
      rintro e w' ⟨rfl, rfl⟩
      go_wp2
      go_ret
      exact ⟨_, _, rfl, R.out, rfl⟩

set_option maxRecDepth 100000 in
set_option maxHeartbeats 4000000 in
theorem rgqueue_any {b lb p n : Nat} {V : List Value} {K : Ks} (c : Int) (w : World) (h : RX 69 w b lb p V K) (a : Al K) (hp : p = n + 1) :
    Calls Tryd.prog 40 #[.pointer (some ⟨b, 0, none⟩), .int .i64 c] w fun e w' => e = .returned (.tuple #[.int .i64 (quN n K c), .int .i64 (quE n K c)]) ∧ RC 69 w w' b lb p V (quK n K c) := by
  have C : Hid (∀ _ : Unit, _) := fun _ => rgis_any c w h hp
  have HS : Hid (RC 69 w w b lb p V K) := RC.refl h
  unfold quN quE quK
  cases i : pc n c with
  | none =>
    obtain ⟨e1, e2⟩ := pc_neg i
    rw [e1] at C
    rw [if_neg (by decide), if_neg (by decide)]
    show Calls _ _ _ _ fun e w' => e = .returned (.tuple #[.int .i64 0, .int .i64 3]) ∧ RC 69 w w' b lb p V K
    clear h i a e1
    go_enter Tryd.func40, Tryd.ntmps40
    go_wp2_with fail
    refine (C.out ()).mono ?_
    rintro e w' ⟨rfl, rfl⟩
    go_wp2
    go_ret2
    exact ⟨rfl, HS.out⟩
  | some q =>
    rw [if_pos (show (some q).isSome = true from rfl), if_pos (show (some q).isSome = true from rfl)]
    have AT : Hid (∀ _ : Unit, _) := fun _ => rgat_any c w h hp i
    have hq : q < p := by have := pc_lt i; omega
    have hq2 : (q : Int) < p := by omega
    have HA : Hid (∀ x : Int, _) := fun x => rgwhere_any x w h a hp
    obtain ⟨N, hN⟩ : ∃ N, tN (nx K) = N := ⟨_, rfl⟩
    obtain ⟨E, hE⟩ : ∃ E, tE (nx K) = E := ⟨_, rfl⟩
    obtain ⟨U, hU⟩ : ∃ U, psh K q (nx K) = U := ⟨_, rfl⟩
    have HN : Hid (∀ F, nx K = F → N = tN F ∧ E = tE F ∧ U = psh K q F) := fun F e => by rw [← hN, ← hE, ← hU, e]; exact ⟨rfl, rfl, rfl⟩
    have c0 := h.c0
    have cv := h.cv hq
    have df : w.frozen? ⟨lb, q, none⟩ = false := h.sl.free q
    have LV : Hid (∀ (o : Obj) (wA : World), Sm wA (w.alloc o) → Lv wA (V.getD q nv) (ks K q)) := h.beside hq
    have FF : Hid (∀ (y : Int) (o : Obj) (wA : World) (v2 : Value) (w2 : World), App wA (V.getD q nv) (ks K q) y v2 w2 → Sm wA (w.alloc o) → (w2.cell? ⟨b, 0, none⟩ = some (.slice (some ⟨lb, 0, none⟩) p p) ∧ w2.cell? ⟨lb, q, none⟩ = some (V.getD q nv) ∧ w2.frozen? ⟨lb, q, none⟩ = false) ∧ ∀ w3 : World, Sm w3 w2 → RC 69 w (w3.setCell ⟨lb, q, none⟩ v2) b lb p V (K.set q (ks K q ++ [y]))) := fun y o wA v2 w2 hA e => h.append (by decide) (by decide) hq o wA e v2 w2 hA
    have L1 : Hid ((ks K q).length ≤ 1000) := by have := a.len q; unfold Hid; omega
    have n1 : ¬ (b = lb) := h.sb.ne h.sl (by decide)
    have n2 : ¬ (lb = b) := fun q => n1 q.symm
    have Z1 : Hid (∀ o : Obj, (w.alloc o).cell? ⟨b, 0, none⟩ = some (.slice (some ⟨lb, 0, none⟩) p p) ∧ (w.alloc o).cell? ⟨lb, q, none⟩ = some (V.getD q nv)) := fun o => ⟨(h.sb.alloc o).cell 0, ((h.sl.alloc o).cell q).trans ((h.sl.cell q).symm.trans (h.cv hq))⟩
    rw [hN, hE]
    show Calls _ _ _ _ fun e w' => e = .returned (.tuple #[.int .i64 N, .int .i64 E]) ∧ RC 69 w w' b lb p V (psh K q (nx K))
    rw [hU]
    generalize V.getD q nv = v1 at *
    rcases pc_pos i with ⟨e1, e2, e3⟩ | ⟨e1, e2, e3⟩
    all_goals (
      rw [e1] at C
      subst e2
      clear h i a hN hE hU e1 e3 hp
      go_enter Tryd.func40, Tryd.ntmps40
      go_wp2_with fail
      refine (C.out ()).mono ?_
      rintro e w' ⟨rfl, rfl⟩
      go_wp2
      go_loop [6] (fun i => ∃ k : Nat, (k : Int) ≤ 32 ∧ Hid (∀ j, j < k → onc K ((j + 1 : Nat) : Int) ≠ none) ∧ i = .int .i64 ((k : Int) + 1)) (fun i => 33 - (intOf i).toNat)
      case atStart => exact ⟨0, by omega, fun j hj => by omega, by go_num⟩
      case round =>
        obtain ⟨k, hk, hG, rfl⟩ := hrel
        by_cases l : (k : Int) < 32
        · have D : Hid (∀ _ : Unit, _) := fun _ => HA.out ((k : Int) + 1)
          generalize whN n K ((k : Int) + 1) = y0 at *
          by_cases e : onc K ((k + 1 : Nat) : Int) = none
          · obtain ⟨f1, f2, f3⟩ := HN.out _ (nx_is (by omega) e hG.out)
            have e1 : N = (k : Int) + 1 := by rw [f1]; simp [tN]
            have e2 : E = 0 := f2
            have e3 : U = K.set q (ks K q ++ [(k : Int) + 1]) := by rw [f3]; simp [psh]
            clear f1 f2 f3
            subst e1
            subst e2
            subst e3
            rw [show haB K ((k : Int) + 1) = false by unfold haB; rw [show (k : Int) + 1 = ((k + 1 : Nat) : Int) by omega, e]; rfl] at D
            have F1 : Hid (∀ (o : Obj) (wA : World) (v2 : Value) (w2 : World), _ → _ → _) := FF.out ((k : Int) + 1)
            obtain ⟨z1, z2⟩ := Z1.out (.cells #[.int .i64 ((k : Int) + 1)] 3)
            clear e hG FF HN HA
            go_wp2_with fail
            refine (D.out ()).mono ?_
            rintro e u1 ⟨rfl, rfl⟩
            go_wp2_with fail
            refine (AT.out ()).mono ?_
            rintro e u1 ⟨rfl, rfl⟩
            go_wp2_with fail
            go_region_law
              (first | (refine step_app (v := v1) rfl (.tmp 44) (.tmp 46) rfl ((k : Int) + 1) rfl (LV.out _ _ ⟨rfl, rfl, rfl, rfl⟩) L1.out _ _ rfl (((Blk.new u1 [_] _).heap rfl).cell 0) ?_; intro v2 w2 hA; obtain ⟨x2, q2, rfl⟩ := app_shape hA; obtain ⟨⟨a1, a2, a3⟩, a4⟩ := F1.out _ _ _ _ hA ⟨rfl, rfl, rfl, rfl⟩; have HA : Hid (∀ w3 : World, Sm w3 w2 → RC 69 u1 (w3.setCell ⟨lb, q, none⟩ (.slice x2 ((ks K q).length + 1) q2)) b lb p V (K.set q (ks K q ++ [(k : Int) + 1]))) := a4; clear hA a4))
            all_goals go_wp2
            all_goals go_ret2
            all_goals exact ⟨rfl, HA.out _ ⟨rfl, rfl, rfl, rfl⟩⟩
          · have G2 : Hid (∀ j, j < k + 1 → onc K ((j + 1 : Nat) : Int) ≠ none) := fun j hj => by
              by_cases d : j = k
              · subst d; exact e
              · exact hG.out j (by omega)
            rw [show haB K ((k : Int) + 1) = true by unfold haB; rw [show (k : Int) + 1 = ((k + 1 : Nat) : Int) by omega]; exact Option.isSome_iff_ne_none.2 e] at D
            clear e hG
            go_wp2_with fail
            refine (D.out ()).mono ?_
            rintro e u1 ⟨rfl, rfl⟩
            go_wp2
            go_round
            case rel => exact ⟨k + 1, by omega, G2, by go_num⟩
            case measure => simp [intOf]; omega
        · obtain ⟨f1, f2, f3⟩ := HN.out _ (nx_none fun j hj => hG.out j (by omega))
          have e1 : N = 0 := f1
          have e2 : E = 5 := f2
          have e3 : U = K := f3
          clear f1 f2 f3
          subst e1
          subst e2
          subst e3
          clear hG HN FF
          go_wp2
          go_ret2
          exact ⟨rfl, HS.out⟩)

set_option maxRecDepth 100000 in
set_option maxHeartbeats 4000000 in
theorem rgdrop_any {b lb p n : Nat} {V : List Value} {K : Ks} (id : Int) (w : World) (h : RX 69 w b lb p V K) (a : Al K) (hp : p = n + 1) :
    Calls Tryd.prog 43 #[.pointer (some ⟨b, 0, none⟩), .int .i64 id] w fun e w' => e = .returned (.int .i64 (drE K id)) ∧ RC 69 w w' b lb p V (drK K id) := by
  have C : Hid (∀ _ : Unit, _) := fun _ => rgwhere_any id w h a hp
  have HS : Hid (RC 69 w w b lb p V K) := RC.refl h
  unfold drE drK
  unfold haB whN wq at C
  cases e : onc K id with
  | none =>
    rw [e] at C
    rw [if_neg (by decide)]
    show Calls _ _ _ _ fun e w' => e = .returned (.int .i64 4) ∧ RC 69 w w' b lb p V K
    clear h a e
    go_enter Tryd.func43, Tryd.ntmps43
    go_wp2_with fail
    refine (C.out ()).mono ?_
    rintro e w' ⟨rfl, rfl⟩
    go_wp2
    go_ret
    exact ⟨rfl, HS.out⟩
  | some q =>
    rw [e] at C
    have hm := onc_spec e
    have hq : q < p := by have := ks_lt hm; have := h.kn; omega
    have hq2 : (q : Int) < p := by omega
    have AT : Hid (∀ _ : Unit, _) := fun _ => rgat_any (nm n q) w h hp (pc_nm (by omega))
    rw [if_pos (show (some q).isSome = true from rfl)]
    show Calls _ _ _ _ fun e w' => e = .returned (.int .i64 0) ∧ RC 69 w w' b lb p V (K.set q (wo (ks K q) id))
    have c0 := h.c0
    have cv := h.cv hq
    have lv := h.lv hq
    have hne : ks K q ≠ [] := fun z => by rw [z] at hm; simp at hm
    obtain ⟨g, off, cap, cur, hv, hcap, hb, hfit, hcell⟩ := lv_pos lv hne
    have WO : Hid (∀ wz : World, Sm wz w → Calls Tryd.prog 59 #[.slice (some ⟨g, off, none⟩) (ks K q).length cap, .int .i64 id] wz fun e w' => ∃ v', e = .returned v' ∧ Gt wz w' v' (wo (ks K q) id)) := fun wz ez =>
      without_any (ks K q) (.slice (some ⟨g, off, none⟩) (ks K q).length cap) id wz (by have := a.len q; omega) (by rw [← hv]; exact (lv.heap ez.1).row)
    have FF : Hid (∀ (wz w2 : World) (v2 : Value), Gt wz w2 v2 (wo (ks K q) id) → Sm wz w → (w2.cell? ⟨b, 0, none⟩ = some (.slice (some ⟨lb, 0, none⟩) p p) ∧ w2.cell? ⟨lb, q, none⟩ = some (V.getD q nv) ∧ w2.frozen? ⟨lb, q, none⟩ = false) ∧ ∀ w3 : World, Sm w3 w2 → RC 69 w (w3.setCell ⟨lb, q, none⟩ v2) b lb p V (K.set q (wo (ks K q) id))) := fun wz w2 v2 gt ez => h.fresh (by decide) (by decide) hq wz w2 v2 gt ez
    rw [hv] at cv FF
    have n1 : ¬ (b = lb) := h.sb.ne h.sl (by decide)
    have n2 : ¬ (lb = b) := fun q => n1 q.symm
    have df : w.frozen? ⟨lb, q, none⟩ = false := h.sl.free q
    rw [show ((Option.map (nm n) (some q)).getD 0) = nm n q from rfl, show (some q).isSome = true from rfl] at C
    generalize nm n q = x0 at *
    generalize wo (ks K q) id = Z at *
    generalize (ks K q).length = len at *
    clear h a lv hv e hcell hfit hb hcap hm hne
    go_enter Tryd.func43, Tryd.ntmps43
    go_wp2_with fail
    refine (C.out ()).mono ?_
    rintro e w' ⟨rfl, rfl⟩
    go_wp2_with fail
    refine (AT.out ()).mono ?_
    rintro e w' ⟨rfl, rfl⟩
    go_wp2_with fail
    go_region_with
      (first | (go_at_call 59; refine (WO.out _ ?_).mono ?_; exact ⟨rfl, rfl, rfl, rfl⟩; rintro e w2 ⟨v2, rfl, gt⟩; obtain ⟨x2, q2, rfl⟩ := own_shape gt.own; obtain ⟨⟨a1, a2, a3⟩, a4⟩ := FF.out _ _ _ gt ⟨rfl, rfl, rfl, rfl⟩; have HA : Hid (∀ w3 : World, Sm w3 w2 → RC 69 w' (w3.setCell ⟨lb, q, none⟩ (.slice x2 Z.length q2)) b lb p V (K.set q Z)) := a4; clear gt a4))
    all_goals go_wp2
    all_goals go_ret
    all_goals exact ⟨rfl, HA.out _ ⟨rfl, rfl, rfl, rfl⟩⟩
end Go.Proofs.YtofdhljgchefgaaDoor
