/- What the document's box of calls answers and leaves (davitref18), for every box. -/
import Derived.Test.YtofdhljgchefgaaDoorRows
import Derived.Test.YtofdhljgchefgaaDoorCr
import Derived.WalkKit
import Derived.ProofKit
import Derived.OpenShut
import Derived.BigQuiet
import Derived.Deep.RegionHeld3
import Derived.Deep.RegionLaw
import Derived.Deep.DeepCutAuto
import Derived.Deep.CutBlock
namespace Go.Proofs.YtofdhljgchefgaaDoor
open Go.ChangeShapes Go.WideShapes Go.ChangeAt Go.RowKit
open Fm Sl Cm

set_option maxHeartbeats 400000 in
theorem rcnew_any (n : Nat) (w : World) (h1 : (1 : Int) ≤ n) (h2 : (n : Int) ≤ 64) :
    Calls Tryd.prog 25 #[.int .i64 (n : Int)] w fun e w' => e = .returned (.tuple #[.pointer (some ⟨w.heap.size + 1, 0, none⟩), .int .i64 0]) ∧ RX 76 w' (w.heap.size + 1) w.heap.size n (List.replicate n nv) (List.replicate n []) ∧ Below w.heap.size w w' := by
  have hmk := run_make_row' (P := Tryd.prog) 67 38 (.slice none 0 0) 24 Tryd.underlying67 Tryd.infoSI rfl .i64 .i64 n (by omega) (by omega)
  rw [made_nv] at hmk
  have F : Hid (∀ o1 o2, Below w.heap.size w ((w.alloc o1).alloc o2)) := fun o1 o2 => ((Below.refl _ _).alloc (Nat.le_refl _) o1).alloc (by simp) o2
  have N1 : Hid (1 ≤ n ∧ n ≤ 65) := by unfold Hid; omega
  go_enter Tryd.func25, Tryd.ntmps25
  go_wp2
  go_ret2
  refine ⟨rfl, ⟨?_, ?_, ls_nil _ _, by simp, N1.out.1, N1.out.2⟩, F.out _ _⟩
  · have := Blk.new (w.alloc (.cells (List.replicate n nv).toArray 38)) [.slice (some ⟨w.heap.size, 0, none⟩) n n] 76
    rwa [World.size_alloc] at this
  · exact (Blk.new w (List.replicate n nv) _).alloc _
theorem rcnew_bad (c : Int) (w : World) (h : c < 1 ∨ 64 < c) :
    Calls Tryd.prog 25 #[.int .i64 c] w fun e w' => e = .returned (.tuple #[.pointer none, .int .i64 2]) ∧ w' = w := by
  rcases h with h | h
  · go_enter Tryd.func25, Tryd.ntmps25
    go_wp2
    go_ret2
    exact ⟨rfl, rfl⟩
  · have h2 : (1 : Int) ≤ c := by omega
    go_enter Tryd.func25, Tryd.ntmps25
    go_wp2
    go_ret2
    exact ⟨rfl, rfl⟩

theorem rcis_any {b lb p : Nat} {V : List Value} {K : Ks} (c : Int) (w : World) (h : RX 76 w b lb p V K) :
    Calls Tryd.prog 57 #[.pointer (some ⟨b, 0, none⟩), .int .i64 c] w fun e w' => e = .returned (.bool (isc p c)) ∧ w' = w := by
  have c0 := h.c0
  clear h
  cases e : isc p c with
  | true =>
    obtain ⟨l, l2⟩ := isc_true e
    clear e
    go_enter Tryd.func57, Tryd.ntmps57
    go_wp2
    go_ret
    exact ⟨rfl, rfl⟩
  | false =>
    rcases isc_false e with l | ⟨l, l2⟩
    · clear e
      go_enter Tryd.func57, Tryd.ntmps57
      go_wp2
      go_ret
      exact ⟨rfl, rfl⟩
    · have l3 : decide (c < (p : Int)) = false := decide_eq_false (by omega)
      clear e
      go_enter Tryd.func57, Tryd.ntmps57
      go_wp2
      go_ret
      exact ⟨rfl, rfl⟩

set_option maxHeartbeats 1000000 in
theorem rchas_any {b lb p : Nat} {V : List Value} {K : Ks} (x : Int) (w : World) (h : RX 76 w b lb p V K) (a : Al K) :
    Calls Tryd.prog 34 #[.pointer (some ⟨b, 0, none⟩), .int .i64 x] w fun e w' => e = .returned (.bool (haB K x)) ∧ w' = w := by
  have c0 := h.c0
  have hn : (p : Int) ≤ 65 := by have := h.p2; omega
  have HV : Hid (∀ k : Nat, (k : Int) < p → w.cell? ⟨lb, k, none⟩ = some (V.getD k nv)) := fun k hk => h.cv (by omega)
  have HC : Hid (∀ k : Nat, (k : Int) < p → _) := fun k hk => rhas_any (ks K k) (V.getD k nv) x w (by have := a.len k; omega) (h.lv (i := k) (by omega)).row
  have KN : Hid (K.length = p) := h.kn
  obtain ⟨R, hR⟩ : ∃ R, haB K x = R := ⟨_, rfl⟩
  have HR : Hid (haB K x = R) := hR
  rw [hR]
  clear h hR a
  go_enter Tryd.func34, Tryd.ntmps34
  go_wp2
  go_loop [5] (fun i => ∃ k : Nat, (k : Int) ≤ p ∧ Hid (∀ j, j < k → x ∉ ks K j) ∧ i = .int .i64 k) (fun i => p - (intOf i).toNat)
  case atStart => exact ⟨0, by omega, fun j hj => by omega, rfl⟩
  case round =>
    obtain ⟨k, hk, hN, rfl⟩ := hrel
    by_cases l : (k : Int) < p
    · have cv := HV.out k l
      have C : Hid (∀ _ : Unit, _) := fun _ => HC.out k l
      generalize V.getD k nv = v at *
      by_cases e : x ∈ ks K k
      · have s : R = true := by
          rw [← HR.out]
          unfold haB
          rw [onc_at e hN.out]
          rfl
        subst s
        rw [decide_eq_true e] at C
        clear e
        go_wp2_with fail
        refine (C.out ()).mono ?_
        rintro e w' ⟨rfl, rfl⟩
        go_wp2
        go_ret
        exact ⟨rfl, rfl⟩
      · have s : Hid (∀ t, t < k + 1 → x ∉ ks K t) := fun t ht => by
          by_cases d : t = k
          · subst d; exact e
          · exact hN.out t (by omega)
        rw [decide_eq_false e] at C
        clear e
        go_wp2_with fail
        refine (C.out ()).mono ?_
        rintro e w' ⟨rfl, rfl⟩
        go_wp2
        go_round
        case rel => exact ⟨k + 1, by omega, s, by go_num⟩
        case measure => simp [intOf]; omega
    · have s : R = false := by
        rw [← HR.out]
        unfold haB
        rw [onc_none.2 fun c hc => hN.out c (by have := ks_lt hc; have := KN.out; omega) hc]
        rfl
      subst s
      go_wp2
      go_ret
      exact ⟨rfl, rfl⟩

set_option maxHeartbeats 400000 in
theorem rclist_any {b lb p : Nat} {V : List Value} {K : Ks} (c : Int) (w : World) (h : RX 76 w b lb p V K) :
    Calls Tryd.prog 36 #[.pointer (some ⟨b, 0, none⟩), .int .i64 c] w fun e w' => ∃ a cap, e = .returned (.slice a (clL K c).length cap) ∧ Row w (.slice a (clL K c).length cap) (clL K c) ∧ w' = w := by
  have C : Hid (∀ _ : Unit, _) := fun _ => rcis_any c w h
  unfold clL
  rw [h.kn]
  cases e : isc p c with
  | false =>
    rw [e] at C
    rw [if_neg (by decide)]
    clear h e
    go_enter Tryd.func36, Tryd.ntmps36
    go_wp2_with fail
    refine (C.out ()).mono ?_
    rintro e w' ⟨rfl, rfl⟩
    go_wp2
    go_ret
    exact ⟨none, 0, rfl, Or.inl ⟨rfl, none, 0, rfl⟩, rfl⟩
  | true =>
    rw [e] at C
    obtain ⟨k, rfl, hk, hk2⟩ := isc_nat e
    rw [if_pos rfl, Int.toNat_natCast]
    have c0 := h.c0
    have cv := h.cv hk
    obtain ⟨a, cap, hv⟩ := (h.lv hk).shape
    have R : Hid (Row w (.slice a (ks K k).length cap) (ks K k)) := by rw [← hv]; exact (h.lv hk).row
    rw [hv] at cv
    clear h e hv
    go_enter Tryd.func36, Tryd.ntmps36
    go_wp2_with fail
    refine (C.out ()).mono ?_
    rintro e w' ⟨rfl, rfl⟩
    go_wp2
    go_ret
    exact ⟨_, _, rfl, R.out, rfl⟩

set_option maxRecDepth 100000 in
set_option maxHeartbeats 4000000 in
theorem rcsend_any {b lb p : Nat} {V : List Value} {K : Ks} (c : Int) (w : World) (h : RX 76 w b lb p V K) (a : Al K) :
    Calls Tryd.prog 28 #[.pointer (some ⟨b, 0, none⟩), .int .i64 c] w fun e w' => e = .returned (.tuple #[.int .i64 (seN K c), .int .i64 (seE K c)]) ∧ RC 76 w w' b lb p V (seK K c) := by
  have C : Hid (∀ _ : Unit, _) := fun _ => rcis_any c w h
  have HS : Hid (RC 76 w w b lb p V K) := RC.refl h
  unfold seN seE seK
  rw [h.kn]
  cases i : isc p c with
  | false =>
    rw [i] at C
    rw [if_neg (by decide), if_neg (by decide), if_neg (by decide)]
    clear h i a
    go_enter Tryd.func28, Tryd.ntmps28
    go_wp2_with fail
    refine (C.out ()).mono ?_
    rintro e w' ⟨rfl, rfl⟩
    go_wp2
    go_ret2
    exact ⟨rfl, HS.out⟩
  | true =>
    rw [i] at C
    obtain ⟨q, rfl, hq, hq2⟩ := isc_nat i
    rw [if_pos rfl, if_pos rfl, if_pos rfl, Int.toNat_natCast]
    have HA : Hid (∀ x : Int, _) := fun x => rchas_any x w h a
    obtain ⟨N, hN⟩ : ∃ N, tN (nx K) = N := ⟨_, rfl⟩
    obtain ⟨E, hE⟩ : ∃ E, tE (nx K) = E := ⟨_, rfl⟩
    obtain ⟨U, hU⟩ : ∃ U, psh K q (nx K) = U := ⟨_, rfl⟩
    have HN : Hid (∀ F, nx K = F → N = tN F ∧ E = tE F ∧ U = psh K q F) := fun F e => by rw [← hN, ← hE, ← hU, e]; exact ⟨rfl, rfl, rfl⟩
    have c0 := h.c0
    have cv := h.cv hq
    have df : w.frozen? ⟨lb, q, none⟩ = false := h.sl.free q
    have LV : Hid (∀ (o : Obj) (wA : World), Sm wA (w.alloc o) → Lv wA (V.getD q nv) (ks K q)) := h.beside hq
    have FF : Hid (∀ (y : Int) (o : Obj) (wA : World) (v2 : Value) (w2 : World), App wA (V.getD q nv) (ks K q) y v2 w2 → Sm wA (w.alloc o) → (w2.cell? ⟨b, 0, none⟩ = some (.slice (some ⟨lb, 0, none⟩) p p) ∧ w2.cell? ⟨lb, q, none⟩ = some (V.getD q nv) ∧ w2.frozen? ⟨lb, q, none⟩ = false) ∧ ∀ w3 : World, Sm w3 w2 → RC 76 w (w3.setCell ⟨lb, q, none⟩ v2) b lb p V (K.set q (ks K q ++ [y]))) := fun y o wA v2 w2 hA e => h.append (by decide) (by decide) hq o wA e v2 w2 hA
    have L1 : Hid ((ks K q).length ≤ 1000) := by have := a.len q; unfold Hid; omega
    have n1 : ¬ (b = lb) := h.sb.ne h.sl (by decide)
    have n2 : ¬ (lb = b) := fun q => n1 q.symm
    have Z1 : Hid (∀ o : Obj, (w.alloc o).cell? ⟨b, 0, none⟩ = some (.slice (some ⟨lb, 0, none⟩) p p) ∧ (w.alloc o).cell? ⟨lb, q, none⟩ = some (V.getD q nv)) := fun o => ⟨(h.sb.alloc o).cell 0, ((h.sl.alloc o).cell q).trans ((h.sl.cell q).symm.trans (h.cv hq))⟩
    rw [hN, hE, hU]
    generalize V.getD q nv = v1 at *
    clear h i a hN hE hU
    go_enter Tryd.func28, Tryd.ntmps28
    go_wp2_with fail
    refine (C.out ()).mono ?_
    rintro e w' ⟨rfl, rfl⟩
    go_wp2
    go_loop [6] (fun i => ∃ k : Nat, (k : Int) ≤ 32 ∧ Hid (∀ j, j < k → onc K ((j + 1 : Nat) : Int) ≠ none) ∧ i = .int .i64 ((k : Int) + 1)) (fun i => 33 - (intOf i).toNat)
    case atStart => exact ⟨0, by omega, fun j hj => by omega, by go_num⟩
    case round =>
      obtain ⟨k, hk, hG, rfl⟩ := hrel
      by_cases l : (k : Int) < 32
      · have D : Hid (∀ _ : Unit, _) := fun _ => HA.out ((k : Int) + 1)
        by_cases e : onc K ((k + 1 : Nat) : Int) = none
        · obtain ⟨f1, f2, f3⟩ := HN.out _ (nx_is (by omega) e hG.out)
          have e1 : N = (k : Int) + 1 := by rw [f1]; simp [tN]
          have e2 : E = 0 := f2
          have e3 : U = K.set q (ks K q ++ [(k : Int) + 1]) := by rw [f3]; simp [psh]
          clear f1 f2 f3
          subst e1
          subst e2
          subst e3
          rw [show haB K ((k : Int) + 1) = false by unfold haB; rw [show (k : Int) + 1 = ((k + 1 : Nat) : Int) by omega, e]; rfl] at D
          have F1 : Hid (∀ (o : Obj) (wA : World) (v2 : Value) (w2 : World), _ → _ → _) := FF.out ((k : Int) + 1)
          obtain ⟨z1, z2⟩ := Z1.out (.cells #[.int .i64 ((k : Int) + 1)] 3)
          clear e hG FF HN HA
          go_wp2_with fail
          refine (D.out ()).mono ?_
          rintro e u1 ⟨rfl, rfl⟩
          go_wp2_with fail
          go_region_law
            (first | (refine step_app (v := v1) rfl (.tmp 30) (.tmp 32) rfl ((k : Int) + 1) rfl (LV.out _ _ ⟨rfl, rfl, rfl, rfl⟩) L1.out _ _ rfl (((Blk.new u1 [_] _).heap rfl).cell 0) ?_; intro v2 w2 hA; obtain ⟨x2, q2, rfl⟩ := app_shape hA; obtain ⟨⟨a1, a2, a3⟩, a4⟩ := F1.out _ _ _ _ hA ⟨rfl, rfl, rfl, rfl⟩; have HA : Hid (∀ w3 : World, Sm w3 w2 → RC 76 u1 (w3.setCell ⟨lb, q, none⟩ (.slice x2 ((ks K q).length + 1) q2)) b lb p V (K.set q (ks K q ++ [(k : Int) + 1]))) := a4; clear hA a4))
          all_goals go_wp2
          all_goals go_ret2
          all_goals exact ⟨rfl, HA.out _ ⟨rfl, rfl, rfl, rfl⟩⟩
        · have G2 : Hid (∀ j, j < k + 1 → onc K ((j + 1 : Nat) : Int) ≠ none) := fun j hj => by
            by_cases d : j = k
            · subst d; exact e
            · exact hG.out j (by omega)
          rw [show haB K ((k : Int) + 1) = true by unfold haB; rw [show (k : Int) + 1 = ((k + 1 : Nat) : Int) by omega]; exact Option.isSome_iff_ne_none.2 e] at D
          clear e hG
          go_wp2_with fail
          refine (D.out ()).mono ?_
          rintro e u1 ⟨rfl, rfl⟩
          go_wp2
          go_round
          case rel => exact ⟨k + 1, by omega, G2, by go_num⟩
          case measure => simp [intOf]; omega
      · obtain ⟨f1, f2, f3⟩ := HN.out _ (nx_none fun j hj => hG.out j (by omega))
        have e1 : N = 0 := f1
        have e2 : E = 5 := f2
        have e3 : U = K := f3
        clear f1 f2 f3
        subst e1
        subst e2
        subst e3
        clear hG HN FF
        go_wp2
        go_ret2
        exact ⟨rfl, HS.out⟩

set_option maxRecDepth 100000 in
set_option maxHeartbeats 4000000 in
theorem rctake_any {b lb p : Nat} {V : List Value} {K : Ks} (c : Int) (w : World) (h : RX 76 w b lb p V K) (a : Al K) :
    Calls Tryd.prog 30 #[.pointer (some ⟨b, 0, none⟩), .int .i64 c] w fun e w' => e = .returned (.tuple #[.int .i64 (ckN K c), .int .i64 (ckE K c)]) ∧ RC 76 w w' b lb p V (ckK K c) := by
  have C : Hid (∀ _ : Unit, _) := fun _ => rcis_any c w h
  have HS : Hid (RC 76 w w b lb p V K) := RC.refl h
  unfold ckN ckE ckK
  rw [h.kn]
  cases i : isc p c with
  | false =>
    rw [i] at C
    rw [if_neg (by decide), if_neg (by decide), if_neg (by decide)]
    clear h i a
    go_enter Tryd.func30, Tryd.ntmps30
    go_wp2_with fail
    refine (C.out ()).mono ?_
    rintro e w' ⟨rfl, rfl⟩
    go_wp2
    go_ret2
    exact ⟨rfl, HS.out⟩
  | true =>
    rw [i] at C
    obtain ⟨q, rfl, hq, hq2⟩ := isc_nat i
    rw [if_pos rfl, if_pos rfl, if_pos rfl, Int.toNat_natCast]
    have c0 := h.c0
    have cv := h.cv hq
    have lv := h.lv hq
    by_cases e : ks K q = []
    · rw [show fE (ks K q) = 12 from if_pos e, show (ks K q).headD 0 = 0 by rw [e]; rfl, set_same K q _ (by rw [e]; rfl)]
      obtain ⟨x, cap, hv⟩ := lv.shape
      rw [e] at hv
      simp only [List.length_nil] at hv
      rw [hv] at cv
      clear h i a lv hv e
      go_enter Tryd.func30, Tryd.ntmps30
      go_wp2_with fail
      refine (C.out ()).mono ?_
      rintro e w' ⟨rfl, rfl⟩
      go_wp2
      go_ret2
      exact ⟨rfl, HS.out⟩
    · rw [show fE (ks K q) = 0 from if_neg e]
      obtain ⟨g, off, cap, cur, hv, hcap, hb, hfit, hcell⟩ := lv_pos lv e
      have hp := List.length_pos_iff.2 e
      have ce := hcell 0 hp
      rw [show (ks K q).getD 0 0 = (ks K q).headD 0 by cases ks K q <;> rfl] at ce
      have cg : w.cell? ⟨g, off, none⟩ = some (.int .i64 ((ks K q).headD 0)) := by rw [hb.cell]; exact ce
      have WO : Hid (∀ wz : World, Sm wz w → Calls Tryd.prog 59 #[.slice (some ⟨g, off, none⟩) (ks K q).length cap, .int .i64 ((ks K q).headD 0)] wz fun e w' => ∃ v', e = .returned v' ∧ Gt wz w' v' (ks K q).tail) := fun wz ez => by
        have := without_any (ks K q) (.slice (some ⟨g, off, none⟩) (ks K q).length cap) ((ks K q).headD 0) wz (by have := a.len q; omega) (by rw [← hv]; exact (lv.heap ez.1).row)
        rwa [wo_hd (a.nd q) e] at this
      have FF : Hid (∀ (wz w2 : World) (v2 : Value), Gt wz w2 v2 (ks K q).tail → Sm wz w → (w2.cell? ⟨b, 0, none⟩ = some (.slice (some ⟨lb, 0, none⟩) p p) ∧ w2.cell? ⟨lb, q, none⟩ = some (V.getD q nv) ∧ w2.frozen? ⟨lb, q, none⟩ = false) ∧ ∀ w3 : World, Sm w3 w2 → RC 76 w (w3.setCell ⟨lb, q, none⟩ v2) b lb p V (K.set q (ks K q).tail)) := fun wz w2 v2 gt ez => h.fresh (by decide) (by decide) hq wz w2 v2 gt ez
      rw [hv] at cv FF
      have l1 : (1 : Int) ≤ (ks K q).length := by omega
      have l2 : ((ks K q).length : Int) ≤ cap := by omega
      have z0 : (((ks K q).length : Int) == 0) = false := by simp; omega
      have n1 : ¬ (b = lb) := h.sb.ne h.sl (by decide)
      have n2 : ¬ (lb = b) := fun q => n1 q.symm
      have df : w.frozen? ⟨lb, q, none⟩ = false := h.sl.free q
      have TL : Hid (((ks K q).tail.length : Nat) = ((ks K q).tail.length : Nat)) := rfl
      generalize (ks K q).headD 0 = x at *
      generalize (ks K q).tail = Z at *
      generalize (ks K q).length = len at *
      clear h i a lv hv e hcell hfit hb hcap hp ce TL
      go_enter Tryd.func30, Tryd.ntmps30
      go_wp2_with fail
      refine (C.out ()).mono ?_
      rintro e w' ⟨rfl, rfl⟩
      go_wp2_with fail
      go_region_with
        (first | (go_at_call 59; refine (WO.out _ ?_).mono ?_; exact ⟨rfl, rfl, rfl, rfl⟩; rintro e w2 ⟨v2, rfl, gt⟩; obtain ⟨x2, q2, rfl⟩ := own_shape gt.own; obtain ⟨⟨a1, a2, a3⟩, a4⟩ := FF.out _ _ _ gt ⟨rfl, rfl, rfl, rfl⟩; have HA : Hid (∀ w3 : World, Sm w3 w2 → RC 76 w' (w3.setCell ⟨lb, q, none⟩ (.slice x2 Z.length q2)) b lb p V (K.set q Z)) := a4; clear gt a4))
      all_goals go_wp2
      all_goals go_ret2
      all_goals exact ⟨rfl, HA.out _ ⟨rfl, rfl, rfl, rfl⟩⟩
end Go.Proofs.YtofdhljgchefgaaDoor
