/- What the document's Aim, Place, Sleep and Wake (davitref11) answer and leave. -/
import Derived.Test.YtghnpmkibnggeaaDoorRows
import Derived.Test.YtghnpmkibnggeaaDoorDb
import Derived.WalkKit
import Derived.ProofKit
import Derived.OpenShut
import Derived.BigQuiet
namespace Go.Proofs.YtghnpmkibnggeaaDoor
open Go.ChangeShapes Go.WideShapes Go.ChangeAt Go.RowKit
open Mm Sl Tm

theorem sx_sx2 (X : Nat → Th) (i : Nat) (t u : Th) : sx (sx X i t) i u = sx X i u := by
  funext j
  unfold sx
  split <;> rfl
theorem DC.trans {w w1 w2 : World} {b : Nat} {v v1 v2 : Value} (h : DC w w1 b v v1) (k : DC w1 w2 b v1 v2) : DC w w2 b v v2 := by
  have hs := h.fr.size
  refine ⟨h.fr.trans (k.fr.mono hs fun i hi hn e => ?_), fun g hg => ?_⟩
  · rcases List.mem_cons.1 e with e | e
    · exact hn (by simp [e])
    · rcases h.nw i (by simpa using e) with e2 | e2
      · exact hn (by simp [e2])
      · omega
  · rcases k.nw g hg with e | e
    · exact h.nw g e
    · exact Or.inr (by omega)
theorem rd_two {w : World} {b c n cap g i k : Nat} {O : Nat → Bool} {X : Nat → Th} (h : RD w b (.slice (some ⟨g, 0, none⟩) n cap) c O X) (hi : i < 32) (ho : O (i + 1) = true) (ek : (lo O i).length = k) (j j2 : Nat) (hj : j < 7) (hj2 : j2 < 7) (u u2 : Value) (t t2 : Th) (e : (sv (i, X i)).set j u = sv (i, t)) (e2 : (sv (i, t)).set j2 u2 = sv (i, t2)) :
    RD ((w.setCell ⟨g, k * 7 + j, none⟩ u).setCell ⟨g, k * 7 + j2, none⟩ u2) b (.slice (some ⟨g, 0, none⟩) n cap) c O (sx X i t2) ∧ DC w ((w.setCell ⟨g, k * 7 + j, none⟩ u).setCell ⟨g, k * 7 + j2, none⟩ u2) b (.slice (some ⟨g, 0, none⟩) n cap) (.slice (some ⟨g, 0, none⟩) n cap) := by
  have a := rd_set h hi ho ek j hj u t e
  have a2 := rd_set a.1 hi ho ek j2 hj2 u2 t2 (by rw [sx_same]; exact e2)
  rw [sx_sx2] at a2
  exact ⟨a2.1, a.2.trans a2.2⟩

set_option maxRecDepth 100000 in
set_option maxHeartbeats 1000000 in
theorem rdaim_any {b c : Nat} {v : Value} {O : Nat → Bool} {X : Nat → Th} (n : Int) (m : Nat) (w : World) (hm : m < 18446744073709551616) (h : RD w b v c O X) :
    Calls Tryd.prog 41 #[.pointer (some ⟨b, 0, none⟩), .int .i64 n, .int .u64 (m : Int)] w fun e w' => e = .returned (.int .i64 (amE c O n m)) ∧ ∃ v', RD w' b v' c O (amX c O X n m) ∧ DC w w' b v v' := by
  have HQ : Hid (RD w b v c O X) := h
  have C : Hid (∀ _ : Unit, _) := fun _ => rdfind_any n w h
  have k0 := h.k0
  have D : Hid (∀ w, _) := fun w => right_any c m w hm
  cases e : hs 32 O n with
  | false =>
    rw [fd_no e] at C
    rw [show amE c O n m = 4 by unfold amE; rw [e]; rfl, show amX c O X n m = X by unfold amX; rw [e]; simp]
    clear h e k0
    go_enter Tryd.func41, Tryd.ntmps41
    go_wp2_with fail
    refine (C.out ()).mono ?_
    rintro e w' ⟨rfl, rfl⟩
    go_wp2
    go_ret
    exact ⟨rfl, v, HQ.out, DC.refl _ _ _⟩
  | true =>
    rw [fd_yes e] at C
    obtain ⟨a, cap, rfl⟩ := h.shape
    have k1 := h.k1
    have hl : ((dn O).length : Int) ≤ 32 := by have := dn_le O; omega
    cases e3 : can c m with
    | false =>
      rw [e3] at D
      rw [show amE c O n m = 2 by unfold amE; rw [e, e3]; rfl, show amX c O X n m = X by unfold amX; rw [e3]; simp]
      obtain ⟨i, hi, rfl, e2, ho⟩ := hs_some e
      rw [e2] at C
      obtain ⟨k, hk0⟩ : ∃ k, (lo O i).length = k := ⟨_, rfl⟩
      rw [hk0] at C
      have hkl := lo_lt hi ho
      rw [hk0] at hkl
      obtain ⟨g, rfl, _, hcp, fz, cl⟩ := h.at hkl
      rw [← hk0, dn_lo hi ho, hk0] at cl
      have hkl2 : (k : Int) < (dn O).length := by omega
      generalize (dn O).length = l at *
      clear h e e2 e3 hm cl fz ho
      go_enter Tryd.func41, Tryd.ntmps41
      go_wp2_with fail
      refine (C.out ()).mono ?_
      rintro e w' ⟨rfl, rfl⟩
      go_wp2_with fail
      refine (D.out _).mono ?_
      rintro e w2 ⟨rfl, b2⟩
      have B2 : Hid (Below w'.heap.size w' w2) := b2
      clear b2
      go_wp2
      go_ret
      exact ⟨rfl, _, HQ.out.below B2.out, DC.of_below B2.out⟩
    | true =>
      rw [e3] at D
      rw [show amE c O n m = 0 by unfold amE; rw [e, e3]; rfl, show amX c O X n m = sx X (n.toNat - 1) { X (n.toNat - 1) with mask := m } from if_pos ⟨e, e3⟩]
      obtain ⟨i, hi, rfl, e2, ho⟩ := hs_some e
      rw [e2] at C ⊢
      obtain ⟨k, hk0⟩ : ∃ k, (lo O i).length = k := ⟨_, rfl⟩
      rw [hk0] at C
      have hkl := lo_lt hi ho
      rw [hk0] at hkl
      obtain ⟨g, rfl, _, hcp, fz, cl⟩ := h.at hkl
      rw [← hk0, dn_lo hi ho, hk0] at cl
      have hkl2 : (k : Int) < (dn O).length := by omega
      generalize (dn O).length = l at *
      have FIN : Hid (∀ w2 : World, Below w.heap.size w w2 → (w2.cell? ⟨b, 1, none⟩ = some (.slice (some ⟨g, 0, none⟩) l cap) ∧ w2.cell? ⟨g, k * 7 + 2, none⟩ = some (.int .u64 ((X i).mask : Int)) ∧ w2.frozen? ⟨g, k * 7 + 2, none⟩ = false) ∧ RD (w2.setCell ⟨g, k * 7 + 2, none⟩ (.int .u64 (m : Int))) b (.slice (some ⟨g, 0, none⟩) l cap) c O (sx X i { X i with mask := m }) ∧ DC w (w2.setCell ⟨g, k * 7 + 2, none⟩ (.int .u64 (m : Int))) b (.slice (some ⟨g, 0, none⟩) l cap) (.slice (some ⟨g, 0, none⟩) l cap)) := fun w2 b2 => by
        have h2 := h.below b2
        have s := rd_set h2 hi ho hk0 2 (by omega) (.int .u64 (m : Int)) { X i with mask := m } rfl
        have gl := (h.ob (g := g) rfl).2
        exact ⟨⟨h2.k1, (b2.cell (p := ⟨g, k * 7 + 2, none⟩) gl).trans (cl 2 (by omega)), by rw [← fz (k * 7 + 2)]; exact World.frozen?_of_block (b2.block g gl)⟩, s.1, DC.from b2 s.2⟩
      clear h e e2 e3 hm cl fz ho
      go_enter Tryd.func41, Tryd.ntmps41
      go_wp2_with fail
      refine (C.out ()).mono ?_
      rintro e w' ⟨rfl, rfl⟩
      go_wp2_with fail
      refine (D.out _).mono ?_
      rintro e w2 ⟨rfl, b2⟩
      obtain ⟨⟨d1, d2, d3⟩, FF⟩ := FIN.out w2 b2
      have F2 : Hid (_ ∧ _) := FF
      clear b2 FF
      go_wp2
      go_ret
      exact ⟨rfl, _, F2.out.1, F2.out.2⟩

set_option maxRecDepth 100000 in
set_option maxHeartbeats 1000000 in
theorem rdplace_any {b c : Nat} {v : Value} {O : Nat → Bool} {X : Nat → Th} (n u : Int) (f : Bool) (w : World) (h : RD w b v c O X) :
    Calls Tryd.prog 42 #[.pointer (some ⟨b, 0, none⟩), .int .i64 n, .int .i64 u, .bool f] w fun e w' => e = .returned (.int .i64 (plE c O n u)) ∧ ∃ v', RD w' b v' c O (plX c O X n u f) ∧ DC w w' b v v' := by
  have HQ : Hid (RD w b v c O X) := h
  have C : Hid (∀ _ : Unit, _) := fun _ => rdfind_any n w h
  have k0 := h.k0
  cases e : hs 32 O n with
  | false =>
    rw [fd_no e] at C
    rw [show plE c O n u = 4 by unfold plE; rw [e]; rfl, show plX c O X n u f = X by unfold plX; rw [e]; simp]
    clear h e k0
    go_enter Tryd.func42, Tryd.ntmps42
    go_wp2_with fail
    refine (C.out ()).mono ?_
    rintro e w' ⟨rfl, rfl⟩
    go_wp2
    go_ret
    exact ⟨rfl, v, HQ.out, DC.refl _ _ _⟩
  | true =>
    rw [fd_yes e] at C
    obtain ⟨a, cap, rfl⟩ := h.shape
    have k1 := h.k1
    have hl : ((dn O).length : Int) ≤ 32 := by have := dn_le O; omega
    by_cases e3 : 0 ≤ u ∧ u < c
    · obtain ⟨e4, e5⟩ := e3
      rw [show plE c O n u = 0 by unfold plE; rw [e, if_pos rfl, if_pos ⟨e4, e5⟩], show plX c O X n u f = sx X (n.toNat - 1) { X (n.toNat - 1) with cpu := u, forced := f } from if_pos ⟨e, e4, e5⟩]
      obtain ⟨i, hi, rfl, e2, ho⟩ := hs_some e
      rw [e2] at C ⊢
      obtain ⟨k, hk0⟩ : ∃ k, (lo O i).length = k := ⟨_, rfl⟩
      rw [hk0] at C
      have hkl := lo_lt hi ho
      rw [hk0] at hkl
      obtain ⟨g, rfl, _, hcp, fz, cl⟩ := h.at hkl
      rw [← hk0, dn_lo hi ho, hk0] at cl
      have hkl2 : (k : Int) < (dn O).length := by omega
      generalize (dn O).length = l at *
      have d3 : w.cell? ⟨g, k * 7 + 3, none⟩ = some (.int .i64 (X i).cpu) := cl 3 (by omega)
      have d4 : w.cell? ⟨g, k * 7 + 4, none⟩ = some (.bool (X i).forced) := cl 4 (by omega)
      have f3 := fz (k * 7 + 3)
      have f4 := fz (k * 7 + 4)
      have nbg : b ≠ g := (h.ob (g := g) rfl).1
      have k2 : (w.setCell ⟨g, k * 7 + 3, none⟩ (.int .i64 u)).cell? ⟨b, 1, none⟩ = some (.slice (some ⟨g, 0, none⟩) l cap) := (h.sb.other (p := ⟨g, k * 7 + 3, none⟩) nbg _).cell 1
      have FIN : Hid (_ ∧ _) := rd_two h hi ho hk0 3 4 (by omega) (by omega) (.int .i64 u) (.bool f) { X i with cpu := u } { X i with cpu := u, forced := f } rfl rfl
      clear h e e2 cl fz ho
      go_enter Tryd.func42, Tryd.ntmps42
      go_wp2_with fail
      refine (C.out ()).mono ?_
      rintro e w' ⟨rfl, rfl⟩
      go_wp2
      go_ret
      exact ⟨rfl, _, FIN.out.1, FIN.out.2⟩
    · have e3 := e3
      rw [show plE c O n u = 3 by unfold plE; rw [e, if_pos rfl, if_neg e3], show plX c O X n u f = X from if_neg fun g => e3 g.2]
      obtain ⟨i, hi, rfl, e2, ho⟩ := hs_some e
      rw [e2] at C
      obtain ⟨k, hk0⟩ : ∃ k, (lo O i).length = k := ⟨_, rfl⟩
      rw [hk0] at C
      have hkl := lo_lt hi ho
      rw [hk0] at hkl
      obtain ⟨g, rfl, _, hcp, fz, cl⟩ := h.at hkl
      rw [← hk0, dn_lo hi ho, hk0] at cl
      have hkl2 : (k : Int) < (dn O).length := by omega
      generalize (dn O).length = l at *
      clear h e e2 cl fz ho
      by_cases e4 : u < 0
      · go_enter Tryd.func42, Tryd.ntmps42
        go_wp2_with fail
        refine (C.out ()).mono ?_
        rintro e w' ⟨rfl, rfl⟩
        go_wp2
        go_ret
        exact ⟨rfl, _, HQ.out, DC.refl _ _ _⟩
      · have e5 : (c : Int) ≤ u := by omega
        go_enter Tryd.func42, Tryd.ntmps42
        go_wp2_with fail
        refine (C.out ()).mono ?_
        rintro e w' ⟨rfl, rfl⟩
        go_wp2
        go_ret
        exact ⟨rfl, _, HQ.out, DC.refl _ _ _⟩

set_option maxRecDepth 100000 in
set_option maxHeartbeats 1000000 in
theorem rdsleep_any {b c : Nat} {v : Value} {O : Nat → Bool} {X : Nat → Th} (n t : Int) (w : World) (h : RD w b v c O X) :
    Calls Tryd.prog 43 #[.pointer (some ⟨b, 0, none⟩), .int .i64 n, .int .i64 t] w fun e w' => e = .returned (.int .i64 (slE O X n)) ∧ ∃ v', RD w' b v' c O (slX O X n t) ∧ DC w w' b v v' := by
  have HQ : Hid (RD w b v c O X) := h
  have C : Hid (∀ _ : Unit, _) := fun _ => rdfind_any n w h
  cases e : hs 32 O n with
  | false =>
    rw [fd_no e] at C
    rw [show slE O X n = 4 by unfold slE; rw [e]; rfl, show slX O X n t = X by unfold slX; rw [e]; simp]
    clear h e
    go_enter Tryd.func43, Tryd.ntmps43
    go_wp2_with fail
    refine (C.out ()).mono ?_
    rintro e w' ⟨rfl, rfl⟩
    go_wp2
    go_ret
    exact ⟨rfl, v, HQ.out, DC.refl _ _ _⟩
  | true =>
    rw [fd_yes e] at C
    obtain ⟨a, cap, rfl⟩ := h.shape
    have k1 := h.k1
    have hl : ((dn O).length : Int) ≤ 32 := by have := dn_le O; omega
    cases e3 : (X (n.toNat - 1)).sleeps with
    | true =>
      rw [show slE O X n = 6 by unfold slE; rw [e, e3]; rfl, show slX O X n t = X from if_neg (by rw [e3]; simp)]
      obtain ⟨i, hi, rfl, e2, ho⟩ := hs_some e
      rw [e2] at C e3
      obtain ⟨k, hk0⟩ : ∃ k, (lo O i).length = k := ⟨_, rfl⟩
      rw [hk0] at C
      have hkl := lo_lt hi ho
      rw [hk0] at hkl
      obtain ⟨g, rfl, _, hcp, fz, cl⟩ := h.at hkl
      rw [← hk0, dn_lo hi ho, hk0] at cl
      have hkl2 : (k : Int) < (dn O).length := by omega
      generalize (dn O).length = l at *
      have d5 : w.cell? ⟨g, k * 7 + 5, none⟩ = some (.bool (X i).sleeps) := cl 5 (by omega)
      rw [e3] at d5
      clear h e e2 e3 cl fz ho
      go_enter Tryd.func43, Tryd.ntmps43
      go_wp2_with fail
      refine (C.out ()).mono ?_
      rintro e w' ⟨rfl, rfl⟩
      go_wp2
      go_ret
      exact ⟨rfl, _, HQ.out, DC.refl _ _ _⟩
    | false =>
      rw [show slE O X n = 0 by unfold slE; rw [e, e3]; rfl, show slX O X n t = sx X (n.toNat - 1) { X (n.toNat - 1) with sleeps := true, timer := t } from if_pos ⟨e, e3⟩]
      obtain ⟨i, hi, rfl, e2, ho⟩ := hs_some e
      rw [e2] at C e3 ⊢
      obtain ⟨k, hk0⟩ : ∃ k, (lo O i).length = k := ⟨_, rfl⟩
      rw [hk0] at C
      have hkl := lo_lt hi ho
      rw [hk0] at hkl
      obtain ⟨g, rfl, _, hcp, fz, cl⟩ := h.at hkl
      rw [← hk0, dn_lo hi ho, hk0] at cl
      have hkl2 : (k : Int) < (dn O).length := by omega
      generalize (dn O).length = l at *
      have d5 : w.cell? ⟨g, k * 7 + 5, none⟩ = some (.bool (X i).sleeps) := cl 5 (by omega)
      have d6 : w.cell? ⟨g, k * 7 + 6, none⟩ = some (.int .i64 (X i).timer) := cl 6 (by omega)
      rw [e3] at d5
      have f5 := fz (k * 7 + 5)
      have f6 := fz (k * 7 + 6)
      have nbg : b ≠ g := (h.ob (g := g) rfl).1
      have k2 : (w.setCell ⟨g, k * 7 + 5, none⟩ (.bool true)).cell? ⟨b, 1, none⟩ = some (.slice (some ⟨g, 0, none⟩) l cap) := (h.sb.other (p := ⟨g, k * 7 + 5, none⟩) nbg _).cell 1
      have FIN : Hid (_ ∧ _) := rd_two h hi ho hk0 5 6 (by omega) (by omega) (.bool true) (.int .i64 t) { X i with sleeps := true } { X i with sleeps := true, timer := t } rfl rfl
      clear h e e2 e3 cl fz ho
      go_enter Tryd.func43, Tryd.ntmps43
      go_wp2_with fail
      refine (C.out ()).mono ?_
      rintro e w' ⟨rfl, rfl⟩
      go_wp2
      go_ret
      exact ⟨rfl, _, FIN.out.1, FIN.out.2⟩

set_option maxRecDepth 100000 in
set_option maxHeartbeats 1000000 in
theorem rdwake_any {b c : Nat} {v : Value} {O : Nat → Bool} {X : Nat → Th} (n : Int) (w : World) (h : RD w b v c O X) :
    Calls Tryd.prog 44 #[.pointer (some ⟨b, 0, none⟩), .int .i64 n] w fun e w' => e = .returned (.tuple #[.int .i64 (wkN O X n), .int .i64 (wkE O X n)]) ∧ ∃ v', RD w' b v' c O (wkX O X n) ∧ DC w w' b v v' := by
  have HQ : Hid (RD w b v c O X) := h
  have C : Hid (∀ _ : Unit, _) := fun _ => rdfind_any n w h
  cases e : hs 32 O n with
  | false =>
    rw [fd_no e] at C
    rw [show wkE O X n = 4 by unfold wkE; rw [e]; rfl, show wkN O X n = 0 by unfold wkN; rw [e]; simp, show wkX O X n = X by unfold wkX; rw [e]; simp]
    clear h e
    go_enter Tryd.func44, Tryd.ntmps44
    go_wp2_with fail
    refine (C.out ()).mono ?_
    rintro e w' ⟨rfl, rfl⟩
    go_wp2
    go_ret2
    exact ⟨rfl, v, HQ.out, DC.refl _ _ _⟩
  | true =>
    rw [fd_yes e] at C
    obtain ⟨a, cap, rfl⟩ := h.shape
    have k1 := h.k1
    have hl : ((dn O).length : Int) ≤ 32 := by have := dn_le O; omega
    cases e3 : (X (n.toNat - 1)).sleeps with
    | false =>
      rw [show wkE O X n = 6 by unfold wkE; rw [e, e3]; rfl, show wkN O X n = 0 from if_neg (by rw [e3]; simp), show wkX O X n = X from if_neg (by rw [e3]; simp)]
      obtain ⟨i, hi, rfl, e2, ho⟩ := hs_some e
      rw [e2] at C e3
      obtain ⟨k, hk0⟩ : ∃ k, (lo O i).length = k := ⟨_, rfl⟩
      rw [hk0] at C
      have hkl := lo_lt hi ho
      rw [hk0] at hkl
      obtain ⟨g, rfl, _, hcp, fz, cl⟩ := h.at hkl
      rw [← hk0, dn_lo hi ho, hk0] at cl
      have hkl2 : (k : Int) < (dn O).length := by omega
      generalize (dn O).length = l at *
      have d5 : w.cell? ⟨g, k * 7 + 5, none⟩ = some (.bool (X i).sleeps) := cl 5 (by omega)
      rw [e3] at d5
      clear h e e2 e3 cl fz ho
      go_enter Tryd.func44, Tryd.ntmps44
      go_wp2_with fail
      refine (C.out ()).mono ?_
      rintro e w' ⟨rfl, rfl⟩
      go_wp2
      go_ret2
      exact ⟨rfl, _, HQ.out, DC.refl _ _ _⟩
    | true =>
      rw [show wkE O X n = 0 by unfold wkE; rw [e, e3]; rfl, show wkN O X n = (X (n.toNat - 1)).timer from if_pos ⟨e, e3⟩, show wkX O X n = sx X (n.toNat - 1) { X (n.toNat - 1) with sleeps := false, timer := 0 } from if_pos ⟨e, e3⟩]
      obtain ⟨i, hi, rfl, e2, ho⟩ := hs_some e
      rw [e2] at C e3 ⊢
      obtain ⟨k, hk0⟩ : ∃ k, (lo O i).length = k := ⟨_, rfl⟩
      rw [hk0] at C
      have hkl := lo_lt hi ho
      rw [hk0] at hkl
      obtain ⟨g, rfl, _, hcp, fz, cl⟩ := h.at hkl
      rw [← hk0, dn_lo hi ho, hk0] at cl
      have hkl2 : (k : Int) < (dn O).length := by omega
      generalize (dn O).length = l at *
      have d5 : w.cell? ⟨g, k * 7 + 5, none⟩ = some (.bool (X i).sleeps) := cl 5 (by omega)
      have d6 : w.cell? ⟨g, k * 7 + 6, none⟩ = some (.int .i64 (X i).timer) := cl 6 (by omega)
      rw [e3] at d5
      have f5 := fz (k * 7 + 5)
      have f6 := fz (k * 7 + 6)
      have nbg : b ≠ g := (h.ob (g := g) rfl).1
      have k2 : (w.setCell ⟨g, k * 7 + 5, none⟩ (.bool false)).cell? ⟨b, 1, none⟩ = some (.slice (some ⟨g, 0, none⟩) l cap) := (h.sb.other (p := ⟨g, k * 7 + 5, none⟩) nbg _).cell 1
      have FIN : Hid (_ ∧ _) := rd_two h hi ho hk0 5 6 (by omega) (by omega) (.bool false) (.int .i64 0) { X i with sleeps := false } { X i with sleeps := false, timer := 0 } rfl rfl
      clear h e e2 e3 cl fz ho
      go_enter Tryd.func44, Tryd.ntmps44
      go_wp2_with fail
      refine (C.out ()).mono ?_
      rintro e w' ⟨rfl, rfl⟩
      go_wp2
      go_ret2
      exact ⟨rfl, _, FIN.out.1, FIN.out.2⟩

end Go.Proofs.YtghnpmkibnggeaaDoor
