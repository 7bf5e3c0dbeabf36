/- What the document's Request, Free, Aim, Hush, Raise and Clear of interrupts (davitref15) answer and leave, for every table. -/
import Derived.Test.YthhgmnkgeombhaaRows
import Derived.Test.YthhgmnkgeombhaaBh
import Derived.WalkKit
import Derived.ProofKit
import Derived.OpenShut
import Derived.BigQuiet
namespace Go.Proofs.Ythhgmnkgeombhaa
open Go.ChangeShapes Go.WideShapes Go.ChangeAt Go.RowKit
open Mm Bm

/-- Behind a store into a field of an interrupt. -/
theorem ri_set {w : World} {g c i : Nat} {X : Nat → Iq} (h : RI w g c X) (hi : i < 16) (j : Nat) (hj : j < 4) (v : Value) (t : Iq) (h4 : ∀ cs, Four cs (i * 4) (X i) → i * 4 + 3 < cs.length → Four (cs.set (i * 4 + j) v) (i * 4) t) : RI (w.setCell ⟨g, i * 4 + j, none⟩ v) g c (sx X i t) := by
  obtain ⟨cs, hb, hc⟩ := h.bk
  exact ⟨h.sb.other (p := ⟨g, i * 4 + j, none⟩) (by show g + 1 ≠ g; omega) v, _, hb.set (i * 4 + j) v, hc.upd (List.length_set ..) (fun k hk => iset_out cs _ j k v hj hk) (h4 cs (hc.t i hi) (by rw [hc.len]; omega))⟩
theorem ri_four {w : World} {g c i : Nat} {X : Nat → Iq} (h : RI w g c X) (hi : i < 16) (t : Iq) : RI ((((w.setCell ⟨g, i * 4, none⟩ (.bool t.wt)).setCell ⟨g, i * 4 + 1, none⟩ (.bool t.ms)).setCell ⟨g, i * 4 + 2, none⟩ (.bool t.pd)).setCell ⟨g, i * 4 + 3, none⟩ (.int .u64 (t.bs : Int))) g c (sx X i t) := by
  have h0 := ri_set h hi 0 (by omega) (.bool t.wt) _ fun _ h4 hl => four_wt h4 hl t.wt
  have h1 := ri_set h0 hi 1 (by omega) (.bool t.ms) _ fun _ h4 hl => four_ms h4 hl t.ms
  have h2 := ri_set h1 hi 2 (by omega) (.bool t.pd) _ fun _ h4 hl => four_pd h4 hl t.pd
  have h3 := ri_set h2 hi 3 (by omega) (.int .u64 (t.bs : Int)) _ fun _ h4 hl => four_bs h4 hl t.bs
  simp only [sx_sx, sx_same] at h3
  exact h3

set_option maxRecDepth 100000 in
set_option maxHeartbeats 400000 in
theorem rirequest_any {g c : Nat} {X : Nat → Iq} (n : Int) (m : Nat) (w : World) (hm : m < 18446744073709551616) (h : RI w g c X) :
    Calls Try.prog 43 #[.pointer (some ⟨g + 1, 0, none⟩), .int .i64 n, .int .u64 (m : Int)] w fun e w' => e = .returned (.int .i64 (rqE c X n m)) ∧ RI w' g c (stp (rqE c X n m) X n (nw m)) ∧ Fr w.heap.size [g] w w' := by
  have C1 : Hid (∀ _ : Unit, _) := fun _ => riis_any n w h
  have C2 : Hid (∀ w, _) := fun w => riright_any c m w hm
  have HT : Hid (RI w g c X) := h
  have k0 := h.k0
  have k1 := h.k1
  cases e : is n with
  | false =>
    rw [e] at C1
    rw [show rqE c X n m = 3 by unfold rqE; rw [e]; rfl, stp_no (by decide)]
    clear h e hm
    go_enter Try.func43, Try.ntmps43
    go_wp2_with fail
    refine (C1.out ()).mono ?_
    rintro e w' ⟨rfl, rfl⟩
    go_wp2
    go_ret
    exact ⟨rfl, HT.out, Fr.refl _ _ _⟩
  | true =>
    rw [e] at C1
    obtain ⟨i, hi, rfl, e2⟩ := is_some e
    have hi2 : (i : Int) < 16 := by omega
    have HI : Hid (i < 16) := hi
    obtain ⟨a0, a1, a2, a3⟩ := h.four hi
    cases q : (X i).wt with
    | true =>
      rw [show rqE c X (i : Int) m = 6 by unfold rqE; rw [e, e2, q]; rfl, stp_no (by decide)]
      rw [q] at a0
      clear h e hm q e2 a1 a2 a3 hi
      go_enter Try.func43, Try.ntmps43
      go_wp2_with fail
      refine (C1.out ()).mono ?_
      rintro e w' ⟨rfl, rfl⟩
      go_wp2
      go_ret
      exact ⟨rfl, HT.out, Fr.refl _ _ _⟩
    | false =>
      rw [q] at a0
      cases e3 : can c m with
      | false =>
        rw [e3] at C2
        rw [show rqE c X (i : Int) m = 2 by unfold rqE; rw [e, e2, q, e3]; rfl, stp_no (by decide)]
        clear h e hm q e2 e3 a1 a2 a3 hi
        go_enter Try.func43, Try.ntmps43
        go_wp2_with fail
        refine (C1.out ()).mono ?_
        rintro e w' ⟨rfl, rfl⟩
        go_wp2_with fail
        refine (C2.out _).mono ?_
        rintro e w2 ⟨rfl, b2⟩
        have h2 := HT.out.below b2
        have B2 : Hid (Fr w'.heap.size [g] w' w2) := (Fr.of_below b2).mono (Nat.le_refl _) (fun _ _ _ => by simp)
        have k2 := h2.k1
        obtain ⟨d0, d1, d2, d3⟩ := h2.four HI.out
        have g0 := h2.free (i * 4)
        have g1 := h2.free (i * 4 + 1)
        have g2 := h2.free (i * 4 + 2)
        have g3 := h2.free (i * 4 + 3)
        have H2 : Hid (RI w2 g c X) := h2
        clear h2 b2
        go_wp2
        go_ret
        exact ⟨rfl, H2.out, B2.out⟩
      | true =>
        rw [e3] at C2
        rw [show rqE c X (i : Int) m = 0 by unfold rqE; rw [e, e2, q, e3]; rfl, stp_ok, e2]
        clear h e hm q e2 e3 hi
        go_enter Try.func43, Try.ntmps43
        go_wp2_with fail
        refine (C1.out ()).mono ?_
        rintro e w' ⟨rfl, rfl⟩
        go_wp2_with fail
        refine (C2.out _).mono ?_
        rintro e w2 ⟨rfl, b2⟩
        have h2 := HT.out.below b2
        have B2 : Hid (Fr w'.heap.size [g] w' w2) := (Fr.of_below b2).mono (Nat.le_refl _) (fun _ _ _ => by simp)
        have k2 := h2.k1
        obtain ⟨d0, d1, d2, d3⟩ := h2.four HI.out
        have g0 := h2.free (i * 4)
        have g1 := h2.free (i * 4 + 1)
        have g2 := h2.free (i * 4 + 2)
        have g3 := h2.free (i * 4 + 3)
        have H2 : Hid (RI w2 g c X) := h2
        clear h2 b2
        go_wp2
        go_ret
        exact ⟨rfl, ri_four H2.out HI.out (nw m), fr_four B2.out (Or.inr (by simp)) _ _ _ _⟩

set_option maxRecDepth 100000 in
set_option maxHeartbeats 400000 in
theorem rifree_any {g c : Nat} {X : Nat → Iq} (n : Int) (w : World) (h : RI w g c X) :
    Calls Try.prog 44 #[.pointer (some ⟨g + 1, 0, none⟩), .int .i64 n] w fun e w' => e = .returned (.int .i64 (waE X n)) ∧ RI w' g c (stp (waE X n) X n (zi)) ∧ Fr w.heap.size [g] w w' := by
  have C1 : Hid (∀ _ : Unit, _) := fun _ => riwa_any n w h
  have HT : Hid (RI w g c X) := h
  have k0 := h.k0
  have k1 := h.k1
  by_cases e : waE X n = 0
  · obtain ⟨i, hi, rfl, e2, q⟩ := wa_some e
    have hi2 : (i : Int) < 16 := by omega
    have HI : Hid (i < 16) := hi
    obtain ⟨a0, a1, a2, a3⟩ := h.four hi
    have f0 := h.free (i * 4)
    have f1 := h.free (i * 4 + 1)
    have f2 := h.free (i * 4 + 2)
    have f3 := h.free (i * 4 + 3)
    rw [e] at C1
    rw [e, stp_ok, e2]
    clear h e e2 q hi
    go_enter Try.func44, Try.ntmps44
    go_wp2_with fail
    refine (C1.out ()).mono ?_
    rintro e w' ⟨rfl, rfl⟩
    go_wp2
    go_ret
    exact ⟨rfl, ri_four HT.out HI.out zi, fr_four (Fr.refl _ _ _) (Or.inr (by simp)) _ _ _ _⟩
  · have e3 : (waE X n == 0) = false := by simpa using e
    have e4 : (waE X n != 0) = true := by simpa using e
    rw [stp_no e]
    generalize waE X n = E at *
    clear h
    go_enter Try.func44, Try.ntmps44
    go_wp2_with fail
    refine (C1.out ()).mono ?_
    rintro e w' ⟨rfl, rfl⟩
    go_wp2
    go_ret
    exact ⟨rfl, HT.out, Fr.refl _ _ _⟩
set_option maxRecDepth 100000 in
set_option maxHeartbeats 400000 in
theorem riraise_any {g c : Nat} {X : Nat → Iq} (n : Int) (w : World) (h : RI w g c X) :
    Calls Try.prog 47 #[.pointer (some ⟨g + 1, 0, none⟩), .int .i64 n] w fun e w' => e = .returned (.int .i64 (waE X n)) ∧ RI w' g c (stp (waE X n) X n ({ X n.toNat with pd := true })) ∧ Fr w.heap.size [g] w w' := by
  have C1 : Hid (∀ _ : Unit, _) := fun _ => riwa_any n w h
  have HT : Hid (RI w g c X) := h
  have k0 := h.k0
  have k1 := h.k1
  by_cases e : waE X n = 0
  · obtain ⟨i, hi, rfl, e2, q⟩ := wa_some e
    have hi2 : (i : Int) < 16 := by omega
    have HI : Hid (i < 16) := hi
    obtain ⟨a0, a1, a2, a3⟩ := h.four hi
    have f0 := h.free (i * 4)
    have f1 := h.free (i * 4 + 1)
    have f2 := h.free (i * 4 + 2)
    have f3 := h.free (i * 4 + 3)
    rw [e] at C1
    rw [e, stp_ok, e2]
    clear h e e2 q hi
    go_enter Try.func47, Try.ntmps47
    go_wp2_with fail
    refine (C1.out ()).mono ?_
    rintro e w' ⟨rfl, rfl⟩
    go_wp2
    go_ret
    exact ⟨rfl, ri_set HT.out HI.out 2 (by omega) _ _ fun _ h4 hl => four_pd h4 hl true, (Fr.refl _ _ _).setCell (Or.inr (by simp)) _⟩
  · have e3 : (waE X n == 0) = false := by simpa using e
    have e4 : (waE X n != 0) = true := by simpa using e
    rw [stp_no e]
    generalize waE X n = E at *
    clear h
    go_enter Try.func47, Try.ntmps47
    go_wp2_with fail
    refine (C1.out ()).mono ?_
    rintro e w' ⟨rfl, rfl⟩
    go_wp2
    go_ret
    exact ⟨rfl, HT.out, Fr.refl _ _ _⟩
set_option maxRecDepth 100000 in
set_option maxHeartbeats 400000 in
theorem riaim_any {g c : Nat} {X : Nat → Iq} (n : Int) (m : Nat) (w : World) (hm : m < 18446744073709551616) (h : RI w g c X) :
    Calls Try.prog 45 #[.pointer (some ⟨g + 1, 0, none⟩), .int .i64 n, .int .u64 (m : Int)] w fun e w' => e = .returned (.int .i64 (amE c X n m)) ∧ RI w' g c (stp (amE c X n m) X n ({ X n.toNat with bs := m })) ∧ Fr w.heap.size [g] w w' := by
  have C1 : Hid (∀ _ : Unit, _) := fun _ => riwa_any n w h
  have HT : Hid (RI w g c X) := h
  have k0 := h.k0
  have k1 := h.k1
  have C2 : Hid (∀ w, _) := fun w => riright_any c m w hm
  by_cases e : waE X n = 0
  · obtain ⟨i, hi, rfl, e2, q⟩ := wa_some e
    have hi2 : (i : Int) < 16 := by omega
    have HI : Hid (i < 16) := hi
    obtain ⟨a0, a1, a2, a3⟩ := h.four hi
    have f0 := h.free (i * 4)
    have f1 := h.free (i * 4 + 1)
    have f2 := h.free (i * 4 + 2)
    have f3 := h.free (i * 4 + 3)
    rw [e] at C1
    cases e3 : can c m with
    | false =>
      rw [e3] at C2
      rw [show amE c X (i : Int) m = 2 by unfold amE; rw [if_pos e, e3]; rfl, stp_no (by decide)]
      clear h e e2 q hi e3 hm
      go_enter Try.func45, Try.ntmps45
      go_wp2_with fail
      refine (C1.out ()).mono ?_
      rintro e w' ⟨rfl, rfl⟩
      go_wp2_with fail
      refine (C2.out _).mono ?_
      rintro e w2 ⟨rfl, b2⟩
      have h2 := HT.out.below b2
      have B2 : Hid (Fr w'.heap.size [g] w' w2) := (Fr.of_below b2).mono (Nat.le_refl _) (fun _ _ _ => by simp)
      have k2 := h2.k1
      obtain ⟨d0, d1, d2, d3⟩ := h2.four HI.out
      have g0 := h2.free (i * 4)
      have g1 := h2.free (i * 4 + 1)
      have g2 := h2.free (i * 4 + 2)
      have g3 := h2.free (i * 4 + 3)
      have H2 : Hid (RI w2 g c X) := h2
      clear h2 b2
      go_wp2
      go_ret
      exact ⟨rfl, H2.out, B2.out⟩
    | true =>
      rw [e3] at C2
      rw [show amE c X (i : Int) m = 0 by unfold amE; rw [if_pos e, e3]; rfl, stp_ok, e2]
      clear h e e2 q hi e3 hm
      go_enter Try.func45, Try.ntmps45
      go_wp2_with fail
      refine (C1.out ()).mono ?_
      rintro e w' ⟨rfl, rfl⟩
      go_wp2_with fail
      refine (C2.out _).mono ?_
      rintro e w2 ⟨rfl, b2⟩
      have h2 := HT.out.below b2
      have B2 : Hid (Fr w'.heap.size [g] w' w2) := (Fr.of_below b2).mono (Nat.le_refl _) (fun _ _ _ => by simp)
      have k2 := h2.k1
      obtain ⟨d0, d1, d2, d3⟩ := h2.four HI.out
      have g0 := h2.free (i * 4)
      have g1 := h2.free (i * 4 + 1)
      have g2 := h2.free (i * 4 + 2)
      have g3 := h2.free (i * 4 + 3)
      have H2 : Hid (RI w2 g c X) := h2
      clear h2 b2
      go_wp2
      go_ret
      exact ⟨rfl, ri_set H2.out HI.out 3 (by omega) _ _ fun _ h4 hl => four_bs h4 hl m, B2.out.setCell (Or.inr (by simp)) _⟩
  · rw [show amE c X n m = waE X n from if_neg e]
    have e3 : (waE X n == 0) = false := by simpa using e
    have e4 : (waE X n != 0) = true := by simpa using e
    rw [stp_no e]
    generalize waE X n = E at *
    clear h hm
    go_enter Try.func45, Try.ntmps45
    go_wp2_with fail
    refine (C1.out ()).mono ?_
    rintro e w' ⟨rfl, rfl⟩
    go_wp2
    go_ret
    exact ⟨rfl, HT.out, Fr.refl _ _ _⟩
set_option maxRecDepth 100000 in
set_option maxHeartbeats 400000 in
theorem rihush_any {g c : Nat} {X : Nat → Iq} (n : Int) (b : Bool) (w : World) (h : RI w g c X) :
    Calls Try.prog 46 #[.pointer (some ⟨g + 1, 0, none⟩), .int .i64 n, .bool b] w fun e w' => e = .returned (.int .i64 (hsE X n b)) ∧ RI w' g c (stp (hsE X n b) X n ({ X n.toNat with ms := b })) ∧ Fr w.heap.size [g] w w' := by
  have C1 : Hid (∀ _ : Unit, _) := fun _ => riwa_any n w h
  have HT : Hid (RI w g c X) := h
  have k0 := h.k0
  have k1 := h.k1
  by_cases e : waE X n = 0
  · obtain ⟨i, hi, rfl, e2, q⟩ := wa_some e
    have hi2 : (i : Int) < 16 := by omega
    have HI : Hid (i < 16) := hi
    obtain ⟨a0, a1, a2, a3⟩ := h.four hi
    have f0 := h.free (i * 4)
    have f1 := h.free (i * 4 + 1)
    have f2 := h.free (i * 4 + 2)
    have f3 := h.free (i * 4 + 3)
    rw [e] at C1
    by_cases e3 : (X i).ms = b
    · rw [show hsE X (i : Int) b = 6 by unfold hsE; rw [if_pos e, e2, if_pos e3], stp_no (by decide)]
      rw [e3] at a1
      have e4 : (b == b) = true := by simp
      clear h e e2 q hi e3
      go_enter Try.func46, Try.ntmps46
      go_wp2_with fail
      refine (C1.out ()).mono ?_
      rintro e w' ⟨rfl, rfl⟩
      go_wp2
      go_ret
      exact ⟨rfl, HT.out, Fr.refl _ _ _⟩
    · rw [show hsE X (i : Int) b = 0 by unfold hsE; rw [if_pos e, e2, if_neg e3], stp_ok, e2]
      have e4 : ((X i).ms == b) = false := by simpa using e3
      clear h e e2 q hi e3
      go_enter Try.func46, Try.ntmps46
      go_wp2_with fail
      refine (C1.out ()).mono ?_
      rintro e w' ⟨rfl, rfl⟩
      go_wp2
      go_ret
      exact ⟨rfl, ri_set HT.out HI.out 1 (by omega) _ _ fun _ h4 hl => four_ms h4 hl b, (Fr.refl _ _ _).setCell (Or.inr (by simp)) _⟩
  · rw [show hsE X n b = waE X n from if_neg e]
    have e3 : (waE X n == 0) = false := by simpa using e
    have e4 : (waE X n != 0) = true := by simpa using e
    rw [stp_no e]
    generalize waE X n = E at *
    clear h
    go_enter Try.func46, Try.ntmps46
    go_wp2_with fail
    refine (C1.out ()).mono ?_
    rintro e w' ⟨rfl, rfl⟩
    go_wp2
    go_ret
    exact ⟨rfl, HT.out, Fr.refl _ _ _⟩
set_option maxRecDepth 100000 in
set_option maxHeartbeats 400000 in
theorem riclear_any {g c : Nat} {X : Nat → Iq} (n : Int) (w : World) (h : RI w g c X) :
    Calls Try.prog 48 #[.pointer (some ⟨g + 1, 0, none⟩), .int .i64 n] w fun e w' => e = .returned (.int .i64 (clE X n)) ∧ RI w' g c (stp (clE X n) X n ({ X n.toNat with pd := false })) ∧ Fr w.heap.size [g] w w' := by
  have C1 : Hid (∀ _ : Unit, _) := fun _ => riwa_any n w h
  have HT : Hid (RI w g c X) := h
  have k0 := h.k0
  have k1 := h.k1
  have C2 : Hid (∀ _ : Unit, _) := fun _ => riready_any n w h
  by_cases e : waE X n = 0
  · obtain ⟨i, hi, rfl, e2, q⟩ := wa_some e
    have hi2 : (i : Int) < 16 := by omega
    have HI : Hid (i < 16) := hi
    obtain ⟨a0, a1, a2, a3⟩ := h.four hi
    have f0 := h.free (i * 4)
    have f1 := h.free (i * 4 + 1)
    have f2 := h.free (i * 4 + 2)
    have f3 := h.free (i * 4 + 3)
    rw [e] at C1
    rw [show rdB X (i : Int) = rdy (X i) by unfold rdB; rw [is_nat hi, e2]; rfl] at C2
    cases e3 : rdy (X i) with
    | false =>
      rw [e3] at C2
      rw [show clE X (i : Int) = 12 by unfold clE; rw [if_pos e, e2, e3]; rfl, stp_no (by decide)]
      clear h e e2 q hi e3
      go_enter Try.func48, Try.ntmps48
      go_wp2_with fail
      refine (C1.out ()).mono ?_
      rintro e w' ⟨rfl, rfl⟩
      go_wp2_with fail
      refine (C2.out ()).mono ?_
      rintro e w' ⟨rfl, rfl⟩
      go_wp2
      go_ret
      exact ⟨rfl, HT.out, Fr.refl _ _ _⟩
    | true =>
      rw [e3] at C2
      rw [show clE X (i : Int) = 0 by unfold clE; rw [if_pos e, e2, e3]; rfl, stp_ok, e2]
      clear h e e2 q hi e3
      go_enter Try.func48, Try.ntmps48
      go_wp2_with fail
      refine (C1.out ()).mono ?_
      rintro e w' ⟨rfl, rfl⟩
      go_wp2_with fail
      refine (C2.out ()).mono ?_
      rintro e w' ⟨rfl, rfl⟩
      go_wp2
      go_ret
      exact ⟨rfl, ri_set HT.out HI.out 2 (by omega) _ _ fun _ h4 hl => four_pd h4 hl false, (Fr.refl _ _ _).setCell (Or.inr (by simp)) _⟩
  · rw [show clE X n = waE X n from if_neg e]
    have e3 : (waE X n == 0) = false := by simpa using e
    have e4 : (waE X n != 0) = true := by simpa using e
    rw [stp_no e]
    generalize waE X n = E at *
    clear h
    go_enter Try.func48, Try.ntmps48
    go_wp2_with fail
    refine (C1.out ()).mono ?_
    rintro e w' ⟨rfl, rfl⟩
    go_wp2
    go_ret
    exact ⟨rfl, HT.out, Fr.refl _ _ _⟩
end Go.Proofs.Ythhgmnkgeombhaa
