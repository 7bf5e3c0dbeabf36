/- What irq's Request, Free, Aim, turn, Hush, Unhush, Raise and Clear answer and leave, for every table. -/
import Derived.Test.YthhgmnkgeombhaaRows
import Derived.Test.YthhgmnkgeombhaaBa
import Derived.WalkKit
import Derived.ProofKit
import Derived.OpenShut
import Derived.BigQuiet
namespace Go.Proofs.Ythhgmnkgeombhaa
open Go.ChangeShapes Go.WideShapes Go.ChangeAt Go.RowKit
open Mm Bm

theorem iset_at (cs : List Value) (o j k : Nat) (v : Value) (h : o + j < cs.length) : (cs.set (o + j) v)[o + k]? = if k = j then some v else cs[o + k]? := by
  rw [List.getElem?_set]
  by_cases e : k = j
  · subst e
    rw [if_pos rfl, if_pos h, if_pos rfl]
  · rw [if_neg (by omega), if_neg e]
theorem iset_out (cs : List Value) (o j k : Nat) (v : Value) (hj : j < 4) (h : k < o ∨ o + 4 ≤ k) : (cs.set (o + j) v)[k]? = cs[k]? := by
  rw [List.getElem?_set, if_neg (by omega)]
theorem four_wt {cs : List Value} {o : Nat} {t : Iq} (h : Four cs o t) (hl : o + 3 < cs.length) (u : Bool) : Four (cs.set (o) (.bool u)) o { t with wt := u } := by
  obtain ⟨a0, a1, a2, a3⟩ := h
  have g := fun k => iset_at cs o 0 k (.bool u) (by omega)
  exact ⟨g 0, (g 1).trans a1, (g 2).trans a2, (g 3).trans a3⟩
theorem four_ms {cs : List Value} {o : Nat} {t : Iq} (h : Four cs o t) (hl : o + 3 < cs.length) (u : Bool) : Four (cs.set (o + 1) (.bool u)) o { t with ms := u } := by
  obtain ⟨a0, a1, a2, a3⟩ := h
  have g := fun k => iset_at cs o 1 k (.bool u) (by omega)
  exact ⟨(g 0).trans a0, g 1, (g 2).trans a2, (g 3).trans a3⟩
theorem four_pd {cs : List Value} {o : Nat} {t : Iq} (h : Four cs o t) (hl : o + 3 < cs.length) (u : Bool) : Four (cs.set (o + 2) (.bool u)) o { t with pd := u } := by
  obtain ⟨a0, a1, a2, a3⟩ := h
  have g := fun k => iset_at cs o 2 k (.bool u) (by omega)
  exact ⟨(g 0).trans a0, (g 1).trans a1, g 2, (g 3).trans a3⟩
theorem four_bs {cs : List Value} {o : Nat} {t : Iq} (h : Four cs o t) (hl : o + 3 < cs.length) (u : Nat) : Four (cs.set (o + 3) (.int .u64 (u : Int))) o { t with bs := u } := by
  obtain ⟨a0, a1, a2, a3⟩ := h
  have g := fun k => iset_at cs o 3 k (.int .u64 (u : Int)) (by omega)
  exact ⟨(g 0).trans a0, (g 1).trans a1, (g 2).trans a2, g 3⟩

/-- Behind a store into a field of an interrupt. -/
theorem it_set {w : World} {s c i : Nat} {X : Nat → Iq} (h : IT w s c X) (hi : i < 16) (j : Nat) (hj : j < 4) (v : Value) (t : Iq) (h4 : ∀ cs, Four cs (1 + i * 4) (X i) → 1 + i * 4 + 3 < cs.length → Four (cs.set (1 + i * 4 + j) v) (1 + i * 4) t) : IT (w.setCell ⟨s, 1 + i * 4 + j, none⟩ v) s c (sx X i t) := by
  obtain ⟨cs, hb, hc⟩ := h.bk
  refine ⟨⟨_, hb.set (1 + i * 4 + j) v, ?_⟩, h.c1, h.c2⟩
  exact hc.upd (List.length_set ..) (fun k hk => iset_out cs _ j k v hj hk) (h4 cs (hc.t i hi) (by rw [hc.len]; omega))
theorem it_four {w : World} {s c i : Nat} {X : Nat → Iq} (h : IT w s c X) (hi : i < 16) (t : Iq) : IT ((((w.setCell ⟨s, 1 + i * 4, none⟩ (.bool t.wt)).setCell ⟨s, 1 + i * 4 + 1, none⟩ (.bool t.ms)).setCell ⟨s, 1 + i * 4 + 2, none⟩ (.bool t.pd)).setCell ⟨s, 1 + i * 4 + 3, none⟩ (.int .u64 (t.bs : Int))) s c (sx X i t) := by
  have h0 := it_set h hi 0 (by omega) (.bool t.wt) _ fun _ h4 hl => four_wt h4 hl t.wt
  have h1 := it_set h0 hi 1 (by omega) (.bool t.ms) _ fun _ h4 hl => four_ms h4 hl t.ms
  have h2 := it_set h1 hi 2 (by omega) (.bool t.pd) _ fun _ h4 hl => four_pd h4 hl t.pd
  have h3 := it_set h2 hi 3 (by omega) (.int .u64 (t.bs : Int)) _ fun _ h4 hl => four_bs h4 hl t.bs
  simp only [sx_sx, sx_same] at h3
  exact h3
theorem fr_four {B : Nat} {S : List Nat} {a w : World} {g o : Nat} (h : Fr B S a w) (hp : B ≤ g ∨ g ∈ S) (v0 v1 v2 v3 : Value) : Fr B S a ((((w.setCell ⟨g, o, none⟩ v0).setCell ⟨g, o + 1, none⟩ v1).setCell ⟨g, o + 2, none⟩ v2).setCell ⟨g, o + 3, none⟩ v3) :=
  (((h.setCell (p := ⟨g, o, none⟩) hp v0).setCell (p := ⟨g, o + 1, none⟩) hp v1).setCell (p := ⟨g, o + 2, none⟩) hp v2).setCell (p := ⟨g, o + 3, none⟩) hp v3

set_option maxRecDepth 100000 in
set_option maxHeartbeats 400000 in
theorem iqrequest_any {s c : Nat} {X : Nat → Iq} (n : Int) (m : Nat) (w : World) (hm : m < 18446744073709551616) (h : IT w s c X) :
    Calls Try.prog 21 #[.pointer (some ⟨s, 0, none⟩), .int .i64 n, .int .u64 (m : Int)] w fun e w' => e = .returned (.int .i64 (rqE c X n m)) ∧ IT w' s c (stp (rqE c X n m) X n (nw m)) ∧ Fr w.heap.size [s] w w' := by
  have C2 : Hid (∀ _ : Unit, _) := fun _ => iqcan_any m w hm h
  have HT : Hid (IT w s c X) := h
  cases e : is n with
  | false =>
    have C1 : Hid (∀ w, _) := fun w => iqat_no (s := s) n w (is_none e)
    rw [show rqE c X n m = 3 by unfold rqE; rw [e]; rfl, stp_no (by decide)]
    clear h e hm
    go_enter Try.func21, Try.ntmps21
    go_wp2_with fail
    refine (C1.out _).mono ?_
    rintro e w' ⟨rfl, rfl⟩
    go_wp2
    go_ret
    exact ⟨rfl, HT.out, Fr.refl _ _ _⟩
  | true =>
    obtain ⟨i, hi, rfl, e2⟩ := is_some e
    have hi2 : (i : Int) < 16 := by omega
    have C1 : Hid (∀ w, _) := fun w => iqat_yes (s := s) w hi2
    obtain ⟨a0, a1, a2, a3⟩ := h.four hi
    cases q : (X i).wt with
    | true =>
      rw [show rqE c X (i : Int) m = 6 by unfold rqE; rw [e, e2, q]; rfl, stp_no (by decide)]
      rw [q] at a0
      clear h e hm q e2 a1 a2 a3
      go_enter Try.func21, Try.ntmps21
      go_wp2_with fail
      refine (C1.out _).mono ?_
      rintro e w' ⟨rfl, rfl⟩
      go_wp2
      go_ret
      exact ⟨rfl, HT.out, Fr.refl _ _ _⟩
    | false =>
      rw [q] at a0
      cases e3 : can c m with
      | false =>
        rw [e3] at C2
        rw [show rqE c X (i : Int) m = 2 by unfold rqE; rw [e, e2, q, e3]; rfl, stp_no (by decide)]
        clear h e hm q e2 e3 a1 a2 a3
        go_enter Try.func21, Try.ntmps21
        go_wp2_with fail
        refine (C1.out _).mono ?_
        rintro e w' ⟨rfl, rfl⟩
        go_wp2_with fail
        refine (C2.out ()).mono ?_
        rintro e w' ⟨rfl, rfl⟩
        go_wp2
        go_ret
        exact ⟨rfl, HT.out, Fr.refl _ _ _⟩
      | true =>
        rw [e3] at C2
        rw [show rqE c X (i : Int) m = 0 by unfold rqE; rw [e, e2, q, e3]; rfl, stp_ok, e2]
        have HI : Hid (i < 16) := hi
        have f0 := h.free (1 + i * 4)
        have f1 := h.free (1 + i * 4 + 1)
        have f2 := h.free (1 + i * 4 + 2)
        have f3 := h.free (1 + i * 4 + 3)
        clear h e hm q e2 e3 hi
        go_enter Try.func21, Try.ntmps21
        go_wp2_with fail
        refine (C1.out _).mono ?_
        rintro e w' ⟨rfl, rfl⟩
        go_wp2_with fail
        refine (C2.out ()).mono ?_
        rintro e w' ⟨rfl, rfl⟩
        go_wp2
        go_ret
        exact ⟨rfl, it_four HT.out HI.out (nw m), fr_four (Fr.refl _ _ _) (Or.inr (by simp)) _ _ _ _⟩
set_option maxRecDepth 100000 in
set_option maxHeartbeats 400000 in
theorem iqfree_any {s c : Nat} {X : Nat → Iq} (n : Int) (w : World) (h : IT w s c X) :
    Calls Try.prog 26 #[.pointer (some ⟨s, 0, none⟩), .int .i64 n] w fun e w' => e = .returned (.int .i64 (waE X n)) ∧ IT w' s c (stp (waE X n) X n (zi)) ∧ Fr w.heap.size [s] w w' := by
  have HT : Hid (IT w s c X) := h
  by_cases e : waE X n = 0
  · obtain ⟨i, hi, rfl, e2, q⟩ := wa_some e
    have hi2 : (i : Int) < 16 := by omega
    have C1 : Hid (∀ _ : Unit, _) := fun _ => iqwa_yes w h hi2 q
    rw [e, stp_ok, e2]
    obtain ⟨a0, a1, a2, a3⟩ := h.four hi
    have f0 := h.free (1 + i * 4)
    have f1 := h.free (1 + i * 4 + 1)
    have f2 := h.free (1 + i * 4 + 2)
    have f3 := h.free (1 + i * 4 + 3)
    have HI : Hid (i < 16) := hi
    clear h e e2 q hi
    go_enter Try.func26, Try.ntmps26
    go_wp2_with fail
    refine (C1.out ()).mono ?_
    rintro e w' ⟨rfl, rfl⟩
    go_wp2
    go_ret
    exact ⟨rfl, it_four HT.out HI.out zi, fr_four (Fr.refl _ _ _) (Or.inr (by simp)) _ _ _ _⟩
  · have C1 : Hid (∀ _ : Unit, _) := fun _ => iqwa_no n w h e
    rw [stp_no e]
    have e3 : (waE X n == 0) = false := by simpa using e
    generalize waE X n = E at *
    clear h
    go_enter Try.func26, Try.ntmps26
    go_wp2_with fail
    refine (C1.out ()).mono ?_
    rintro e w' ⟨rfl, rfl⟩
    go_wp2
    go_ret
    exact ⟨rfl, HT.out, Fr.refl _ _ _⟩

set_option maxRecDepth 100000 in
set_option maxHeartbeats 400000 in
theorem iqraise_any {s c : Nat} {X : Nat → Iq} (n : Int) (w : World) (h : IT w s c X) :
    Calls Try.prog 23 #[.pointer (some ⟨s, 0, none⟩), .int .i64 n] w fun e w' => e = .returned (.int .i64 (waE X n)) ∧ IT w' s c (stp (waE X n) X n ({ X n.toNat with pd := true })) ∧ Fr w.heap.size [s] w w' := by
  have HT : Hid (IT w s c X) := h
  by_cases e : waE X n = 0
  · obtain ⟨i, hi, rfl, e2, q⟩ := wa_some e
    have hi2 : (i : Int) < 16 := by omega
    have C1 : Hid (∀ _ : Unit, _) := fun _ => iqwa_yes w h hi2 q
    rw [e, stp_ok, e2]
    obtain ⟨a0, a1, a2, a3⟩ := h.four hi
    have f2 := h.free (1 + i * 4 + 2)
    have HI : Hid (i < 16) := hi
    clear h e e2 q hi
    go_enter Try.func23, Try.ntmps23
    go_wp2_with fail
    refine (C1.out ()).mono ?_
    rintro e w' ⟨rfl, rfl⟩
    go_wp2
    go_ret
    exact ⟨rfl, it_set HT.out HI.out 2 (by omega) _ _ fun _ h4 hl => four_pd h4 hl true, (Fr.refl _ _ _).setCell (Or.inr (by simp)) _⟩
  · have C1 : Hid (∀ _ : Unit, _) := fun _ => iqwa_no n w h e
    rw [stp_no e]
    have e3 : (waE X n == 0) = false := by simpa using e
    generalize waE X n = E at *
    clear h
    go_enter Try.func23, Try.ntmps23
    go_wp2_with fail
    refine (C1.out ()).mono ?_
    rintro e w' ⟨rfl, rfl⟩
    go_wp2
    go_ret
    exact ⟨rfl, HT.out, Fr.refl _ _ _⟩

set_option maxRecDepth 100000 in
set_option maxHeartbeats 400000 in
theorem iqaim_any {s c : Nat} {X : Nat → Iq} (n : Int) (m : Nat) (w : World) (hm : m < 18446744073709551616) (h : IT w s c X) :
    Calls Try.prog 27 #[.pointer (some ⟨s, 0, none⟩), .int .i64 n, .int .u64 (m : Int)] w fun e w' => e = .returned (.int .i64 (amE c X n m)) ∧ IT w' s c (stp (amE c X n m) X n ({ X n.toNat with bs := m })) ∧ Fr w.heap.size [s] w w' := by
  have C2 : Hid (∀ _ : Unit, _) := fun _ => iqcan_any m w hm h
  have HT : Hid (IT w s c X) := h
  by_cases e : waE X n = 0
  · obtain ⟨i, hi, rfl, e2, q⟩ := wa_some e
    have hi2 : (i : Int) < 16 := by omega
    have C1 : Hid (∀ _ : Unit, _) := fun _ => iqwa_yes w h hi2 q
    obtain ⟨a0, a1, a2, a3⟩ := h.four hi
    have f3 := h.free (1 + i * 4 + 3)
    have HI : Hid (i < 16) := hi
    cases e3 : can c m with
    | false =>
      rw [e3] at C2
      rw [show amE c X (i : Int) m = 2 by unfold amE; rw [if_pos e, e3]; rfl, stp_no (by decide)]
      clear h e e2 q hi e3 hm
      go_enter Try.func27, Try.ntmps27
      go_wp2_with fail
      refine (C1.out ()).mono ?_
      rintro e w' ⟨rfl, rfl⟩
      go_wp2_with fail
      refine (C2.out ()).mono ?_
      rintro e w' ⟨rfl, rfl⟩
      go_wp2
      go_ret
      exact ⟨rfl, HT.out, Fr.refl _ _ _⟩
    | true =>
      rw [e3] at C2
      rw [show amE c X (i : Int) m = 0 by unfold amE; rw [if_pos e, e3]; rfl, stp_ok, e2]
      clear h e e2 q hi e3 hm
      go_enter Try.func27, Try.ntmps27
      go_wp2_with fail
      refine (C1.out ()).mono ?_
      rintro e w' ⟨rfl, rfl⟩
      go_wp2_with fail
      refine (C2.out ()).mono ?_
      rintro e w' ⟨rfl, rfl⟩
      go_wp2
      go_ret
      exact ⟨rfl, it_set HT.out HI.out 3 (by omega) _ _ fun _ h4 hl => four_bs h4 hl m, (Fr.refl _ _ _).setCell (Or.inr (by simp)) _⟩
  · rw [show amE c X n m = waE X n from if_neg e, stp_no e]
    have C1 : Hid (∀ _ : Unit, _) := fun _ => iqwa_no n w h e
    have e3 : (waE X n == 0) = false := by simpa using e
    generalize waE X n = E at *
    clear h hm
    go_enter Try.func27, Try.ntmps27
    go_wp2_with fail
    refine (C1.out ()).mono ?_
    rintro e w' ⟨rfl, rfl⟩
    go_wp2
    go_ret
    exact ⟨rfl, HT.out, Fr.refl _ _ _⟩
set_option maxRecDepth 100000 in
set_option maxHeartbeats 400000 in
theorem iqturn_any {s c : Nat} {X : Nat → Iq} (n : Int) (b : Bool) (w : World) (h : IT w s c X) :
    Calls Try.prog 52 #[.pointer (some ⟨s, 0, none⟩), .int .i64 n, .bool b] w fun e w' => e = .returned (.int .i64 (hsE X n b)) ∧ IT w' s c (stp (hsE X n b) X n ({ X n.toNat with ms := b })) ∧ Fr w.heap.size [s] w w' := by
  have HT : Hid (IT w s c X) := h
  by_cases e : waE X n = 0
  · obtain ⟨i, hi, rfl, e2, q⟩ := wa_some e
    have hi2 : (i : Int) < 16 := by omega
    have C1 : Hid (∀ _ : Unit, _) := fun _ => iqwa_yes w h hi2 q
    obtain ⟨a0, a1, a2, a3⟩ := h.four hi
    have f1 := h.free (1 + i * 4 + 1)
    have HI : Hid (i < 16) := hi
    by_cases e3 : (X i).ms = b
    · rw [show hsE X (i : Int) b = 6 by unfold hsE; rw [if_pos e, e2, if_pos e3], stp_no (by decide)]
      rw [e3] at a1
      have e4 : (b == b) = true := by simp
      clear h e e2 q hi e3
      go_enter Try.func52, Try.ntmps52
      go_wp2_with fail
      refine (C1.out ()).mono ?_
      rintro e w' ⟨rfl, rfl⟩
      go_wp2
      go_ret
      exact ⟨rfl, HT.out, Fr.refl _ _ _⟩
    · rw [show hsE X (i : Int) b = 0 by unfold hsE; rw [if_pos e, e2, if_neg e3], stp_ok, e2]
      have e4 : ((X i).ms == b) = false := by simpa using e3
      clear h e e2 q hi e3
      go_enter Try.func52, Try.ntmps52
      go_wp2_with fail
      refine (C1.out ()).mono ?_
      rintro e w' ⟨rfl, rfl⟩
      go_wp2
      go_ret
      exact ⟨rfl, it_set HT.out HI.out 1 (by omega) _ _ fun _ h4 hl => four_ms h4 hl b, (Fr.refl _ _ _).setCell (Or.inr (by simp)) _⟩
  · rw [show hsE X n b = waE X n from if_neg e, stp_no e]
    have C1 : Hid (∀ _ : Unit, _) := fun _ => iqwa_no n w h e
    have e3 : (waE X n == 0) = false := by simpa using e
    generalize waE X n = E at *
    clear h
    go_enter Try.func52, Try.ntmps52
    go_wp2_with fail
    refine (C1.out ()).mono ?_
    rintro e w' ⟨rfl, rfl⟩
    go_wp2
    go_ret
    exact ⟨rfl, HT.out, Fr.refl _ _ _⟩
set_option maxRecDepth 100000 in
set_option maxHeartbeats 400000 in
theorem iqhush_any {s c : Nat} {X : Nat → Iq} (n : Int) (w : World) (h : IT w s c X) :
    Calls Try.prog 22 #[.pointer (some ⟨s, 0, none⟩), .int .i64 n] w fun e w' => e = .returned (.int .i64 (hsE X n true)) ∧ IT w' s c (stp (hsE X n true) X n ({ X n.toNat with ms := true })) ∧ Fr w.heap.size [s] w w' := by
  have C1 : Hid (∀ _ : Unit, _) := fun _ => iqturn_any n true w h
  generalize stp (hsE X n true) X n _ = X2 at *
  generalize hsE X n true = E at *
  clear h
  go_enter Try.func22, Try.ntmps22
  go_wp2_with fail
  refine (C1.out ()).mono ?_
  rintro e w' ⟨rfl, q2, f2⟩
  have Q2 : Hid (IT w' s c X2) := q2
  have F2 : Hid (Fr w.heap.size [s] w w') := f2
  clear q2 f2
  go_wp2
  go_ret
  exact ⟨rfl, Q2.out, F2.out⟩
set_option maxRecDepth 100000 in
set_option maxHeartbeats 400000 in
theorem iqunhush_any {s c : Nat} {X : Nat → Iq} (n : Int) (w : World) (h : IT w s c X) :
    Calls Try.prog 25 #[.pointer (some ⟨s, 0, none⟩), .int .i64 n] w fun e w' => e = .returned (.int .i64 (hsE X n false)) ∧ IT w' s c (stp (hsE X n false) X n ({ X n.toNat with ms := false })) ∧ Fr w.heap.size [s] w w' := by
  have C1 : Hid (∀ _ : Unit, _) := fun _ => iqturn_any n false w h
  generalize stp (hsE X n false) X n _ = X2 at *
  generalize hsE X n false = E at *
  clear h
  go_enter Try.func25, Try.ntmps25
  go_wp2_with fail
  refine (C1.out ()).mono ?_
  rintro e w' ⟨rfl, q2, f2⟩
  have Q2 : Hid (IT w' s c X2) := q2
  have F2 : Hid (Fr w.heap.size [s] w w') := f2
  clear q2 f2
  go_wp2
  go_ret
  exact ⟨rfl, Q2.out, F2.out⟩
set_option maxRecDepth 100000 in
set_option maxHeartbeats 400000 in
theorem iqclear_any {s c : Nat} {X : Nat → Iq} (n : Int) (w : World) (h : IT w s c X) :
    Calls Try.prog 24 #[.pointer (some ⟨s, 0, none⟩), .int .i64 n] w fun e w' => e = .returned (.int .i64 (clE X n)) ∧ IT w' s c (stp (clE X n) X n ({ X n.toNat with pd := false })) ∧ Fr w.heap.size [s] w w' := by
  have HT : Hid (IT w s c X) := h
  by_cases e : waE X n = 0
  · obtain ⟨i, hi, rfl, e2, q⟩ := wa_some e
    have hi2 : (i : Int) < 16 := by omega
    have C1 : Hid (∀ _ : Unit, _) := fun _ => iqwa_yes w h hi2 q
    have C2 : Hid (∀ w, _) := fun w => iqrdy_any (X i).wt (X i).ms (X i).pd ((X i).bs : Int) w
    obtain ⟨a0, a1, a2, a3⟩ := h.four hi
    have KF : Hid (∀ w2, Below w.heap.size w w2 → IT w2 s c X) := fun w2 b2 => h.below b2
    have HI : Hid (i < 16) := hi
    cases e3 : rdy (X i) with
    | false =>
      rw [show ((X i).wt && (X i).pd && !(X i).ms) = false from e3] at C2
      rw [show clE X (i : Int) = 12 by unfold clE; rw [if_pos e, e2, e3]; rfl, stp_no (by decide)]
      clear h e e2 q hi e3
      generalize X i = t at *
      go_enter Try.func24, Try.ntmps24
      go_wp2_with fail
      refine (C1.out ()).mono ?_
      rintro e w' ⟨rfl, rfl⟩
      go_wp2_with fail
      refine (C2.out _).mono ?_
      rintro e w2 ⟨rfl, b2⟩
      go_wp2
      go_ret
      exact ⟨rfl, KF.out _ b2, (Fr.of_below b2).mono (Nat.le_refl _) (fun _ _ _ => by simp)⟩
    | true =>
      rw [show ((X i).wt && (X i).pd && !(X i).ms) = true from e3] at C2
      rw [show clE X (i : Int) = 0 by unfold clE; rw [if_pos e, e2, e3]; rfl, stp_ok, e2]
      have XI : Hid (∀ w2, IT w2 s c X → w2.cell? ⟨s, 1 + i * 4 + 2, none⟩ = some (.bool (X i).pd)) := fun w2 h2 => (h2.four hi).2.2.1
      have XF : Hid (∀ w2, IT w2 s c X → w2.frozen? ⟨s, 1 + i * 4 + 2, none⟩ = false) := fun w2 h2 => h2.free _
      clear h e e2 q hi e3
      go_enter Try.func24, Try.ntmps24
      go_wp2_with fail
      refine (C1.out ()).mono ?_
      rintro e w' ⟨rfl, rfl⟩
      go_wp2_with fail
      refine (C2.out _).mono ?_
      rintro e w2 ⟨rfl, b2⟩
      have h2 := KF.out _ b2
      have x2 := XI.out _ h2
      have g2 := XF.out _ h2
      have H2 : Hid (IT w2 s c X) := h2
      have B2 : Hid (Fr w'.heap.size [s] w' w2) := (Fr.of_below b2).mono (Nat.le_refl _) (fun _ _ _ => by simp)
      clear h2 b2
      go_wp2
      go_ret
      exact ⟨rfl, it_set H2.out HI.out 2 (by omega) _ _ fun _ h4 hl => four_pd h4 hl false, B2.out.setCell (Or.inr (by simp)) _⟩
  · rw [show clE X n = waE X n from if_neg e, stp_no e]
    have C1 : Hid (∀ _ : Unit, _) := fun _ => iqwa_no n w h e
    have e3 : (waE X n == 0) = false := by simpa using e
    generalize waE X n = E at *
    clear h
    go_enter Try.func24, Try.ntmps24
    go_wp2_with fail
    refine (C1.out ()).mono ?_
    rintro e w' ⟨rfl, rfl⟩
    go_wp2
    go_ret
    exact ⟨rfl, HT.out, Fr.refl _ _ _⟩
end Go.Proofs.Ythhgmnkgeombhaa
