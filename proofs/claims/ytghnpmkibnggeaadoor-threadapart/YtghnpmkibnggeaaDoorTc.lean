/- What thread's Aim, Place, Sleep and Wake answer and leave, for every table. -/
import Derived.Test.YtghnpmkibnggeaaDoorRows
import Derived.Test.YtghnpmkibnggeaaDoorTb
import Derived.WalkKit
import Derived.ProofKit
import Derived.OpenShut
import Derived.BigQuiet
namespace Go.Proofs.YtghnpmkibnggeaaDoor
open Go.ChangeShapes Go.WideShapes Go.ChangeAt Go.RowKit
open Mm Sl Tm

theorem up_has {c : Nat} (h : c ≤ 64) (u : Int) : tb (up (c : Int)) u = decide (0 ≤ u ∧ u < c) := by
  by_cases e : 0 ≤ u ∧ u < 64
  · rw [tb_some _ _ e, bit_up]
    have : u.toNat < 64 := by omega
    by_cases g : u < c
    · rw [decide_eq_true (by omega), decide_eq_true (by omega)]
    · rw [decide_eq_false (by omega), decide_eq_false (by omega)]
  · rw [tb_none _ _ e, decide_eq_false (by omega)]

set_option maxRecDepth 100000 in
set_option maxHeartbeats 400000 in
theorem thaim_any {s c : Nat} {O : Nat → Bool} {X : Nat → Th} (n : Int) (m : Nat) (w : World) (hm : m < 18446744073709551616) (h : TT w s c O X) :
    Calls Tryd.prog 22 #[.pointer (some ⟨s + 2, 0, none⟩), .int .i64 n, .int .u64 (m : Int)] w fun e w' => e = .returned (.int .i64 (amE c O n m)) ∧ TT w' s c O (amX c O X n m) ∧ Fr w.heap.size [s, s + 1, s + 2] w w' := by
  have C1 : Hid (∀ _ : Unit, _) := fun _ => thfind_any n w h
  have C2 : Hid (∀ _ : Unit, _) := fun _ => canbe_any m w hm h
  have HT : Hid (TT w s c O X) := h
  cases e : hs 32 O n with
  | false =>
    rw [e, if_neg (by simp)] at C1
    rw [show amE c O n m = 4 by unfold amE; rw [e]; rfl, show amX c O X n m = X by unfold amX; rw [e]; simp]
    clear h e hm
    go_enter Tryd.func22, Tryd.ntmps22
    go_wp2_with fail
    refine (C1.out ()).mono ?_
    rintro e w' ⟨rfl, rfl⟩
    go_wp2
    go_ret
    exact ⟨rfl, HT.out, Fr.refl _ _ _⟩
  | true =>
    rw [e, if_pos rfl] at C1
    cases e3 : can c m with
    | false =>
      rw [e3] at C2
      rw [show amE c O n m = 2 by unfold amE; rw [e, e3]; rfl, show amX c O X n m = X by unfold amX; rw [e3]; simp]
      clear h e hm e3
      go_enter Tryd.func22, Tryd.ntmps22
      go_wp2_with fail
      refine (C1.out ()).mono ?_
      rintro e w' ⟨rfl, rfl⟩
      go_wp2_with fail
      refine (C2.out ()).mono ?_
      rintro e w' ⟨rfl, rfl⟩
      go_wp2
      go_ret
      exact ⟨rfl, HT.out, Fr.refl _ _ _⟩
    | true =>
      rw [e3] at C2
      rw [show amE c O n m = 0 by unfold amE; rw [e, e3]; rfl, show amX c O X n m = sx X (n.toNat - 1) { X (n.toNat - 1) with mask := m } from if_pos ⟨e, e3⟩]
      obtain ⟨i, hi, rfl, e2, _⟩ := hs_some e
      rw [e2] at C1 ⊢
      obtain ⟨a0, a1, a2, a3, a4, a5⟩ := h.six hi
      have f1 := h.free (2 + i * 6 + 1)
      clear h e e2 e3 hm
      go_enter Tryd.func22, Tryd.ntmps22
      go_wp2_with fail
      refine (C1.out ()).mono ?_
      rintro e w' ⟨rfl, rfl⟩
      go_wp2_with fail
      refine (C2.out ()).mono ?_
      rintro e w' ⟨rfl, rfl⟩
      go_wp2
      go_ret
      exact ⟨rfl, tt_mask HT.out hi m, (Fr.refl _ _ _).setCell (Or.inr (by simp)) _⟩

set_option maxRecDepth 100000 in
set_option maxHeartbeats 400000 in
theorem thplace_any {s c : Nat} {O : Nat → Bool} {X : Nat → Th} (n u : Int) (f : Bool) (w : World) (h : TT w s c O X) :
    Calls Tryd.prog 23 #[.pointer (some ⟨s + 2, 0, none⟩), .int .i64 n, .int .i64 u, .bool f] w fun e w' => e = .returned (.int .i64 (plE c O n u)) ∧ TT w' s c O (plX c O X n u f) ∧ Fr w.heap.size [s, s + 1, s + 2] w w' := by
  have C1 : Hid (∀ _ : Unit, _) := fun _ => thfind_any n w h
  have C2 : Hid (∀ _ : Unit, _) := fun _ => khas_any (up (c : Int)) u w (up_lt _)
  rw [up_has h.c2] at C2
  have HT : Hid (TT w s c O X) := h
  have k1 := h.k1
  cases e : hs 32 O n with
  | false =>
    rw [e, if_neg (by simp)] at C1
    rw [show plE c O n u = 4 by unfold plE; rw [e]; rfl, show plX c O X n u f = X by unfold plX; rw [e]; simp]
    clear h e k1
    go_enter Tryd.func23, Tryd.ntmps23
    go_wp2_with fail
    refine (C1.out ()).mono ?_
    rintro e w' ⟨rfl, rfl⟩
    go_wp2
    go_ret
    exact ⟨rfl, HT.out, Fr.refl _ _ _⟩
  | true =>
    rw [e, if_pos rfl] at C1
    by_cases e3 : 0 ≤ u ∧ u < c
    · rw [decide_eq_true e3] at C2
      rw [show plE c O n u = 0 by unfold plE; rw [e, if_pos rfl, if_pos e3], show plX c O X n u f = sx X (n.toNat - 1) { X (n.toNat - 1) with cpu := u, forced := f } from if_pos ⟨e, e3⟩]
      obtain ⟨i, hi, rfl, e2, _⟩ := hs_some e
      rw [e2] at C1 ⊢
      obtain ⟨a0, a1, a2, a3, a4, a5⟩ := h.six hi
      have f2 := h.free (2 + i * 6 + 2)
      have f3 := h.free (2 + i * 6 + 3)
      generalize up (c : Int) = U at *
      clear h e e2 e3
      go_enter Tryd.func23, Tryd.ntmps23
      go_wp2_with fail
      refine (C1.out ()).mono ?_
      rintro e w' ⟨rfl, rfl⟩
      go_wp2_with fail
      refine (C2.out ()).mono ?_
      rintro e w' ⟨rfl, rfl⟩
      go_wp2
      go_ret
      exact ⟨rfl, tt_two HT.out hi 2 3 (by omega) (by omega) _ _ _ _ (fun _ h6 hl => six_cpu h6 hl u) (fun _ h6 hl => six_forced h6 hl f), ((Fr.refl _ _ _).setCell (Or.inr (by simp)) _).setCell (Or.inr (by simp)) _⟩
    · rw [decide_eq_false e3] at C2
      rw [show plE c O n u = 3 by unfold plE; rw [e, if_pos rfl, if_neg e3], show plX c O X n u f = X from if_neg fun g => e3 g.2]
      generalize up (c : Int) = U at *
      clear h e e3
      go_enter Tryd.func23, Tryd.ntmps23
      go_wp2_with fail
      refine (C1.out ()).mono ?_
      rintro e w' ⟨rfl, rfl⟩
      go_wp2_with fail
      refine (C2.out ()).mono ?_
      rintro e w' ⟨rfl, rfl⟩
      go_wp2
      go_ret
      exact ⟨rfl, HT.out, Fr.refl _ _ _⟩

set_option maxRecDepth 100000 in
set_option maxHeartbeats 400000 in
theorem thsleep_any {s c : Nat} {O : Nat → Bool} {X : Nat → Th} (n t : Int) (w : World) (h : TT w s c O X) :
    Calls Tryd.prog 24 #[.pointer (some ⟨s + 2, 0, none⟩), .int .i64 n, .int .i64 t] w fun e w' => e = .returned (.int .i64 (slE O X n)) ∧ TT w' s c O (slX O X n t) ∧ Fr w.heap.size [s, s + 1, s + 2] w w' := by
  have C1 : Hid (∀ _ : Unit, _) := fun _ => thfind_any n w h
  have HT : Hid (TT w s c O X) := h
  cases e : hs 32 O n with
  | false =>
    rw [e, if_neg (by simp)] at C1
    rw [show slE O X n = 4 by unfold slE; rw [e]; rfl, show slX O X n t = X by unfold slX; rw [e]; simp]
    clear h e
    go_enter Tryd.func24, Tryd.ntmps24
    go_wp2_with fail
    refine (C1.out ()).mono ?_
    rintro e w' ⟨rfl, rfl⟩
    go_wp2
    go_ret
    exact ⟨rfl, HT.out, Fr.refl _ _ _⟩
  | true =>
    rw [e, if_pos rfl] at C1
    cases e3 : (X (n.toNat - 1)).sleeps with
    | true =>
      rw [show slE O X n = 6 by unfold slE; rw [e, e3]; rfl, show slX O X n t = X from if_neg (by rw [e3]; simp)]
      obtain ⟨i, hi, rfl, e2, _⟩ := hs_some e
      rw [e2] at C1 e3
      obtain ⟨a0, a1, a2, a3, a4, a5⟩ := h.six hi
      rw [e3] at a4
      clear h e e2 e3
      go_enter Tryd.func24, Tryd.ntmps24
      go_wp2_with fail
      refine (C1.out ()).mono ?_
      rintro e w' ⟨rfl, rfl⟩
      go_wp2
      go_ret
      exact ⟨rfl, HT.out, Fr.refl _ _ _⟩
    | false =>
      rw [show slE O X n = 0 by unfold slE; rw [e, e3]; rfl, show slX O X n t = sx X (n.toNat - 1) { X (n.toNat - 1) with sleeps := true, timer := t } from if_pos ⟨e, e3⟩]
      obtain ⟨i, hi, rfl, e2, _⟩ := hs_some e
      rw [e2] at C1 e3 ⊢
      obtain ⟨a0, a1, a2, a3, a4, a5⟩ := h.six hi
      rw [e3] at a4
      have f4 := h.free (2 + i * 6 + 4)
      have f5 := h.free (2 + i * 6 + 5)
      clear h e e2 e3
      go_enter Tryd.func24, Tryd.ntmps24
      go_wp2_with fail
      refine (C1.out ()).mono ?_
      rintro e w' ⟨rfl, rfl⟩
      go_wp2
      go_ret
      exact ⟨rfl, tt_two HT.out hi 4 5 (by omega) (by omega) _ _ _ _ (fun _ h6 hl => six_sleeps h6 hl true) (fun _ h6 hl => six_timer h6 hl t), ((Fr.refl _ _ _).setCell (Or.inr (by simp)) _).setCell (Or.inr (by simp)) _⟩

set_option maxRecDepth 100000 in
set_option maxHeartbeats 400000 in
theorem thwake_any {s c : Nat} {O : Nat → Bool} {X : Nat → Th} (n : Int) (w : World) (h : TT w s c O X) :
    Calls Tryd.prog 20 #[.pointer (some ⟨s + 2, 0, none⟩), .int .i64 n] w fun e w' => e = .returned (.tuple #[.int .i64 (wkN O X n), .int .i64 (wkE O X n)]) ∧ TT w' s c O (wkX O X n) ∧ Fr w.heap.size [s, s + 1, s + 2] w w' := by
  have C1 : Hid (∀ _ : Unit, _) := fun _ => thfind_any n w h
  have HT : Hid (TT w s c O X) := h
  cases e : hs 32 O n with
  | false =>
    rw [e, if_neg (by simp)] at C1
    rw [show wkE O X n = 4 by unfold wkE; rw [e]; rfl, show wkN O X n = 0 by unfold wkN; rw [e]; simp, show wkX O X n = X by unfold wkX; rw [e]; simp]
    clear h e
    go_enter Tryd.func20, Tryd.ntmps20
    go_wp2_with fail
    refine (C1.out ()).mono ?_
    rintro e w' ⟨rfl, rfl⟩
    go_wp2
    go_ret2
    exact ⟨rfl, HT.out, Fr.refl _ _ _⟩
  | true =>
    rw [e, if_pos rfl] at C1
    cases e3 : (X (n.toNat - 1)).sleeps with
    | false =>
      rw [show wkE O X n = 6 by unfold wkE; rw [e, e3]; rfl, show wkN O X n = 0 from if_neg (by rw [e3]; simp), show wkX O X n = X from if_neg (by rw [e3]; simp)]
      obtain ⟨i, hi, rfl, e2, _⟩ := hs_some e
      rw [e2] at C1 e3
      obtain ⟨a0, a1, a2, a3, a4, a5⟩ := h.six hi
      rw [e3] at a4
      clear h e e2 e3
      go_enter Tryd.func20, Tryd.ntmps20
      go_wp2_with fail
      refine (C1.out ()).mono ?_
      rintro e w' ⟨rfl, rfl⟩
      go_wp2
      go_ret2
      exact ⟨rfl, HT.out, Fr.refl _ _ _⟩
    | true =>
      rw [show wkE O X n = 0 by unfold wkE; rw [e, e3]; rfl, show wkN O X n = (X (n.toNat - 1)).timer from if_pos ⟨e, e3⟩, show wkX O X n = sx X (n.toNat - 1) { X (n.toNat - 1) with sleeps := false, timer := 0 } from if_pos ⟨e, e3⟩]
      obtain ⟨i, hi, rfl, e2, _⟩ := hs_some e
      rw [e2] at C1 e3 ⊢
      obtain ⟨a0, a1, a2, a3, a4, a5⟩ := h.six hi
      rw [e3] at a4
      have f4 := h.free (2 + i * 6 + 4)
      have f5 := h.free (2 + i * 6 + 5)
      clear h e e2 e3
      go_enter Tryd.func20, Tryd.ntmps20
      go_wp2_with fail
      refine (C1.out ()).mono ?_
      rintro e w' ⟨rfl, rfl⟩
      go_wp2
      go_ret2
      exact ⟨rfl, tt_two HT.out hi 4 5 (by omega) (by omega) _ _ _ _ (fun _ h6 hl => six_sleeps h6 hl false) (fun _ h6 hl => six_timer h6 hl 0), ((Fr.refl _ _ _).setCell (Or.inr (by simp)) _).setCell (Or.inr (by simp)) _⟩

end Go.Proofs.YtghnpmkibnggeaaDoor
