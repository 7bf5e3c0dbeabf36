/- What the document's List, Load, Prio, Put, Pick, Back and Take of queues of cores answer and leave. -/
import Derived.Test.YtpmjojemcpgpiaaDoorVa
import Derived.Test.YtpmjojemcpgpiaaDoorUb
import Derived.WalkKit
import Derived.ProofKit
import Derived.OpenShut
import Derived.BigQuiet
namespace Go.Proofs.YtpmjojemcpgpiaaDoor
open Go.ChangeShapes Go.WideShapes Go.ChangeAt Go.RowKit
open Fm Qm

set_option maxRecDepth 100000 in
set_option maxHeartbeats 1000000 in
theorem xlist_any {w : World} {lo b g cap n : Nat} {A : Nat → Nat} {V : Nat → Value} {K : Ks} (c : Int) (h : RX w lo b g cap n A V K) :
    Calls Tryd.prog 16 #[.pointer (some ⟨b, 0, none⟩), .int .i64 c] w fun e w' => ∃ v, e = .returned v ∧ Gt w w' v (liL n K c) := by
  by_cases hc : isC n c
  · rw [show liL n K c = cat (K c.toNat) from if_pos hc]
    obtain ⟨k, rfl⟩ : ∃ k : Nat, c = (k : Int) := ⟨c.toNat, by unfold isC at hc; omega⟩
    have hk : (k : Int) < n := hc.2
    rw [Int.toNat_natCast]
    have C : Hid (∀ _ : Unit, _) := fun _ => xis_yes k hk h
    have D : Hid (∀ _ : Unit, _) := fun _ => rplist_any w (h.qs k (by omega))
    have c0 := h.c0
    have cq := h.cq (c := k) (by omega)
    have hn : (n : Int) ≤ cap := by have := h.nc; omega
    clear h hc
    go_enter Tryd.func16, Tryd.ntmps16
    go_wp2_with fail
    refine (C.out ()).mono ?_
    rintro e w' ⟨rfl, rfl⟩
    go_wp2_with fail
    refine (D.out ()).mono ?_
    rintro e w2 ⟨v, rfl, g2⟩
    go_wp2
    go_ret
    exact ⟨v, rfl, g2⟩
  · rw [show liL n K c = [] from if_neg hc]
    have C : Hid (∀ _ : Unit, _) := fun _ => xis_no c hc h
    clear h hc
    go_enter Tryd.func16, Tryd.ntmps16
    go_wp2_with fail
    refine (C.out ()).mono ?_
    rintro e w' ⟨rfl, rfl⟩
    go_wp2
    go_ret
    exact ⟨.slice none 0 0, rfl, gt_start _⟩

theorem lo_len {n : Nat} {K : Ks} (h : Al n K) (c : Int) : loN n K c = ((liL n K c).length : Int) := by
  unfold loN liL
  by_cases hc : isC n c
  · rw [if_pos hc, if_pos hc, len_cat (h.ok c.toNat (by unfold isC at hc; omega)).rg]
  · rw [if_neg hc, if_neg hc]
    rfl

set_option maxRecDepth 100000 in
set_option maxHeartbeats 1000000 in
theorem xload_any {w : World} {lo b g cap n : Nat} {A : Nat → Nat} {V : Nat → Value} {K : Ks} (c : Int) (h : RX w lo b g cap n A V K) :
    Calls Tryd.prog 13 #[.pointer (some ⟨b, 0, none⟩), .int .i64 c] w fun e w' => e = .returned (.int .i64 (loN n K c)) ∧ Below w.heap.size w w' := by
  have C : Hid (∀ _ : Unit, _) := fun _ => xlist_any c h
  rw [lo_len h.al c]
  clear h
  go_enter Tryd.func13, Tryd.ntmps13
  go_wp2_with fail
  refine (C.out ()).mono ?_
  rintro e w2 ⟨v, rfl, g2⟩
  obtain ⟨a2, c2, rfl⟩ := own_shape g2.own
  have hb : Hid (Below w.heap.size w w2) := g2.bel
  clear g2
  go_wp2
  go_ret
  exact ⟨rfl, hb.out⟩

set_option maxRecDepth 100000 in
set_option maxHeartbeats 1000000 in
theorem xprio_any {w : World} {lo b g cap n : Nat} {A : Nat → Nat} {V : Nat → Value} {K : Ks} (id : Int) (h : RX w lo b g cap n A V K) :
    Calls Tryd.prog 11 #[.pointer (some ⟨b, 0, none⟩), .int .i64 id] w fun e w' => e = .returned (.tuple #[.int .i64 (rpN n K id), .bool (whB n K id)]) ∧ w' = w := by
  have C : Hid (∀ _ : Unit, _) := fun _ => xwhere_any id h
  cases e : onc n K id with
  | none =>
    rw [show whN n K id = 0 by unfold whN; rw [e]; rfl, show whB n K id = false by unfold whB; rw [e]; rfl] at C
    rw [show rpN n K id = 0 by unfold rpN; rw [e], show whB n K id = false by unfold whB; rw [e]; rfl]
    clear h e
    go_enter Tryd.func11, Tryd.ntmps11
    go_wp2_with fail
    refine (C.out ()).mono ?_
    rintro e w' ⟨rfl, rfl⟩
    go_wp2
    go_ret2
    exact ⟨rfl, rfl⟩
  | some k =>
    obtain ⟨hk, hi⟩ := onc_spec e
    rw [show whN n K id = k by unfold whN; rw [e]; rfl, show whB n K id = true by unfold whB; rw [e]; rfl] at C
    rw [show rpN n K id = prP (K k) id by unfold rpN; rw [e], show whB n K id = true by unfold whB; rw [e]; rfl]
    have D : Hid (∀ _ : Unit, _) := fun _ => rprio_any id w (h.qs k hk)
    rw [decide_eq_true hi] at D
    have c0 := h.c0
    have cq := h.cq hk
    have hk2 : (k : Int) < n := by omega
    have hn : (n : Int) ≤ cap := by have := h.nc; omega
    generalize prP (K k) id = p at *
    clear h e hi
    go_enter Tryd.func11, Tryd.ntmps11
    go_wp2_with fail
    refine (C.out ()).mono ?_
    rintro e w' ⟨rfl, rfl⟩
    go_wp2_with fail
    refine (D.out ()).mono ?_
    rintro e w2 ⟨rfl, rfl⟩
    go_wp2
    go_ret2
    exact ⟨rfl, rfl⟩

set_option maxRecDepth 100000 in
set_option maxHeartbeats 2000000 in
theorem xput_any {w : World} {lo b g cap n : Nat} {A : Nat → Nat} {V : Nat → Value} {K : Ks} (c p id : Int) (hw : (Lit.int .i64 id).wf = true) (h : RX w lo b g cap n A V K) :
    Calls Tryd.prog 26 #[.pointer (some ⟨b, 0, none⟩), .int .i64 c, .int .i64 p, .int .i64 id] w fun e w' => e = .returned (.int .i64 (puE n K c p id)) ∧ ∃ V', RX w' lo b g cap n A V' (puK n K c p id) ∧ XC lo w w' := by
  have H0 : Hid (RX w lo b g cap n A V K) := h
  by_cases hc : isC n c
  · obtain ⟨k, rfl⟩ : ∃ k : Nat, c = (k : Int) := ⟨c.toNat, by unfold isC at hc; omega⟩
    have hk : (k : Int) < n := hc.2
    have C : Hid (∀ _ : Unit, _) := fun _ => xis_yes k hk h
    have W : Hid (∀ _ : Unit, _) := fun _ => xwhere_any id h
    cases e : onc n K id with
    | some d =>
      have eB : whB n K id = true := by unfold whB; rw [e]; rfl
      rw [show puE n K k p id = 6 by unfold puE; rw [if_pos hc, if_pos eB], show puK n K k p id = K by unfold puK; rw [if_pos hc, if_pos eB]]
      rw [eB] at W
      generalize whN n K id = wn at *
      clear h hc e eB
      go_enter Tryd.func26, Tryd.ntmps26
      go_wp2_with fail
      refine (C.out ()).mono ?_
      rintro e w' ⟨rfl, rfl⟩
      go_wp2_with fail
      refine (W.out ()).mono ?_
      rintro e w' ⟨rfl, rfl⟩
      go_wp2
      go_ret
      exact ⟨rfl, V, H0.out, XC.refl _ _⟩
    | none =>
      have eB : whB n K id = false := by unfold whB; rw [e]; rfl
      have eB2 : ¬ whB n K id = true := by rw [eB]; decide
      rw [show puE n K k p id = psE 32 (K k) p id by unfold puE; rw [if_pos hc, if_neg eB2, Int.toNat_natCast], show puK n K k p id = up K k (psX 32 (K k) p id) by unfold puK; rw [if_pos hc, if_neg eB2, Int.toNat_natCast]]
      rw [eB] at W
      have al : Al n (up K k (psX 32 (K k) p id)) := by
        rcases ps_cases 32 (K k) p id with ⟨e1, e2, e3, e4, e5, e6⟩ | ⟨e1, e2⟩
        · rw [e2]
          exact (al_push h.al (c := k) (by omega) (p := p) hw e (ok_push (h.al.ok k (by omega)) ⟨e4, e5⟩ e3 e6)).1
        · rw [e2, up_id]
          exact h.al
      have P : Hid (∀ _ : Unit, _) := fun _ => rppush_any p id w (h.qs k (by omega))
      have ST : Hid (∀ (w2 : World) (v' : Value), RQ w2 (A k) v' 32 (psX 32 (K k) p id) → RC w w2 (A k) (V k) v' → _) := fun w2 v' q2 f2 => h.put (by omega) q2 f2 al
      have c0 := h.c0
      have cq := h.cq (c := k) (by omega)
      have hn : (n : Int) ≤ cap := by have := h.nc; omega
      generalize whN n K id = wn at *
      generalize psE 32 (K k) p id = ee at *
      generalize psX 32 (K k) p id = X2 at *
      clear h hc e eB eB2 al
      go_enter Tryd.func26, Tryd.ntmps26
      go_wp2_with fail
      refine (C.out ()).mono ?_
      rintro e w' ⟨rfl, rfl⟩
      go_wp2_with fail
      refine (W.out ()).mono ?_
      rintro e w' ⟨rfl, rfl⟩
      go_wp2_with fail
      refine (P.out ()).mono ?_
      rintro e w2 ⟨rfl, v2, q2, f2⟩
      have R2 := ST.out w2 v2 q2 f2
      clear q2 f2
      go_wp2
      go_ret
      exact ⟨rfl, _, R2.1, R2.2⟩
  · rw [show puE n K c p id = 3 from if_neg hc, show puK n K c p id = K from if_neg hc]
    have C : Hid (∀ _ : Unit, _) := fun _ => xis_no c hc h
    clear h hc
    go_enter Tryd.func26, Tryd.ntmps26
    go_wp2_with fail
    refine (C.out ()).mono ?_
    rintro e w' ⟨rfl, rfl⟩
    go_wp2
    go_ret
    exact ⟨rfl, V, H0.out, XC.refl _ _⟩

set_option maxRecDepth 100000 in
set_option maxHeartbeats 2000000 in
theorem xpick_any {w : World} {lo b g cap n : Nat} {A : Nat → Nat} {V : Nat → Value} {K : Ks} (c : Int) (h : RX w lo b g cap n A V K) :
    Calls Tryd.prog 27 #[.pointer (some ⟨b, 0, none⟩), .int .i64 c] w fun e w' => e = .returned (.tuple #[.int .i64 (pkN n K c), .int .i64 (pkE n K c)]) ∧ ∃ V', RX w' lo b g cap n A V' (pkK n K c) ∧ XC lo w w' := by
  have H0 : Hid (RX w lo b g cap n A V K) := h
  by_cases hc : isC n c
  · rw [show pkN n K c = tpN (K c.toNat) from if_pos hc, show pkE n K c = tpE (K c.toNat) from if_pos hc, show pkK n K c = up K c.toNat (tnX (K c.toNat)) from if_pos hc]
    obtain ⟨k, rfl⟩ : ∃ k : Nat, c = (k : Int) := ⟨c.toNat, by unfold isC at hc; omega⟩
    have hk : (k : Int) < n := hc.2
    rw [Int.toNat_natCast]
    have C : Hid (∀ _ : Unit, _) := fun _ => xis_yes k hk h
    have T : Hid (∀ _ : Unit, _) := fun _ => rptop_any w (h.qs k (by omega))
    have c0 := h.c0
    have cq := h.cq (c := k) (by omega)
    have hn : (n : Int) ≤ cap := by have := h.nc; omega
    by_cases hX : K k = []
    · rw [show tpE (K k) = 12 from if_pos hX, show tpN (K k) = 0 by rw [hX]; rfl] at T
      rw [show tpE (K k) = 12 from if_pos hX, show tpN (K k) = 0 by rw [hX]; rfl, show tnX (K k) = K k from if_pos hX, up_id]
      clear h hc hX
      go_enter Tryd.func27, Tryd.ntmps27
      go_wp2_with fail
      refine (C.out ()).mono ?_
      rintro e w' ⟨rfl, rfl⟩
      go_wp2_with fail
      refine (T.out ()).mono ?_
      rintro e w2 ⟨rfl, b2⟩
      go_wp2
      go_ret2
      exact ⟨rfl, V, H0.out.below b2, XC.of b2 H0.out.hi⟩
    · rw [show tpE (K k) = 0 from if_neg hX] at T
      rw [show tpE (K k) = 0 from if_neg hX]
      obtain ⟨al, _⟩ := al_same h.al (c := k) (by omega) (ok_tnX (h.al.ok k (by omega))) (fun id => ids_tn (h.al.ok k (by omega)) id)
      have U : Hid (∀ w2 : World, Below w.heap.size w w2 → w2.cell? ⟨b, 0, none⟩ = some (.slice (some ⟨g, 0, none⟩) n cap) ∧ w2.cell? ⟨g, k, none⟩ = some (.pointer (some ⟨A k, 0, none⟩)) ∧ Calls Tryd.prog 51 #[.pointer (some ⟨A k, 0, none⟩)] w2 fun e w' => e = .returned (.int .i64 0) ∧ ∃ V', RX w' lo b g cap n A V' (up K k (tnX (K k))) ∧ XC lo w w') := fun w2 b2 => by
        have h2 := h.below b2
        have := rpturn_any w2 (h2.qs k (by omega))
        rw [show tpE (K k) = 0 from if_neg hX] at this
        refine ⟨h2.c0, h2.cq (by omega), this.mono ?_⟩
        rintro e w3 ⟨rfl, v3, q3, f3⟩
        obtain ⟨r1, r2⟩ := h2.put (by omega) q3 f3 al
        exact ⟨rfl, _, r1, (XC.of b2 h.hi).trans r2⟩
      generalize tpN (K k) = tn at *
      generalize tnX (K k) = X2 at *
      clear h hc hX al
      go_enter Tryd.func27, Tryd.ntmps27
      go_wp2_with fail
      refine (C.out ()).mono ?_
      rintro e w' ⟨rfl, rfl⟩
      go_wp2_with fail
      refine (T.out ()).mono ?_
      rintro e w2 ⟨rfl, b2⟩
      obtain ⟨d0, dq, U2⟩ := U.out w2 b2
      have U3 : Hid (∀ _ : Unit, _) := fun _ => U2
      clear b2 U2
      go_wp2_with fail
      refine (U3.out ()).mono ?_
      rintro e w3 ⟨rfl, V3, r3, f3⟩
      go_wp2
      go_ret2
      exact ⟨rfl, V3, r3, f3⟩
  · rw [show pkN n K c = 0 from if_neg hc, show pkE n K c = 3 from if_neg hc, show pkK n K c = K from if_neg hc]
    have C : Hid (∀ _ : Unit, _) := fun _ => xis_no c hc h
    clear h hc
    go_enter Tryd.func27, Tryd.ntmps27
    go_wp2_with fail
    refine (C.out ()).mono ?_
    rintro e w' ⟨rfl, rfl⟩
    go_wp2
    go_ret2
    exact ⟨rfl, V, H0.out, XC.refl _ _⟩
end Go.Proofs.YtpmjojemcpgpiaaDoor
