/- What prio's Push, Top, Turn and Drop answer and leave, for every queue. -/
import Derived.Test.YtpmjojemcpgpiaaDoorQc
import Derived.WalkKit
import Derived.ProofKit
import Derived.OpenShut
import Derived.BigQuiet
import Derived.Deep.RegionHeld3
namespace Go.Proofs.YtpmjojemcpgpiaaDoor
open Go.ChangeShapes Go.WideShapes Go.ChangeAt Go.RowKit
open Fm Qm

theorem PQ.heap {w w1 : World} {s m : Nat} {X : Its} (h : PQ w s m X) (e : w1.heap = w.heap) : PQ w1 s m X :=
  ⟨h.sb.heap e, fun k hk => by obtain ⟨f, r, q⟩ := h.lv k hk; exact ⟨f, r, q.heap e⟩, h.ok⟩

theorem fr_zn {w w' : World} {s p : Nat} (hp : p < 8) (fr : Fr w.heap.size [s + 2 + 2 * p, s + 1 + 2 * p] w w') : Fr w.heap.size (zn s) w w' :=
  fr.mono (Nat.le_refl _) fun k _ hk e => hk ((mem_zn s k).2 (by simp at e; omega))

/-- One level has turned. -/
theorem PQ.put {w w' : World} {s m p : Nat} {X X' : Its} (h : PQ w s m X) (hp : p < 8) {f : Nat} {r L : List Int} (q : Q w' (s + 2 + 2 * p) (s + 1 + 2 * p) m f r L) (fr : Fr w.heap.size [s + 2 + 2 * p, s + 1 + 2 * p] w w') (ok : Ok m X') (e : ∀ j, Qm.lv X' j = if j = p then L else Qm.lv X j) : PQ w' s m X' := by
  have hi := h.hi
  refine ⟨h.sb.keep fr (by omega) (by simp; omega), fun k hk => ?_, ok⟩
  rw [e k]
  by_cases c : k = p
  · subst c
    rw [if_pos rfl]
    exact ⟨f, r, q⟩
  · rw [if_neg c]
    obtain ⟨f2, r2, q2⟩ := h.lv k hk
    exact ⟨f2, r2, q2.keep fr ⟨by omega, by omega⟩ ⟨by simp; omega, by simp; omega⟩⟩

theorem fr_below {B : Nat} {S : List Nat} {w w1 w2 : World} (h : Below w.heap.size w w1) (f : Fr w1.heap.size S w1 w2) (hB : B = w.heap.size) : Fr B S w w2 := by
  subst hB
  exact ((Fr.of_below h).mono (Nat.le_refl _) (fun _ _ _ => by simp)).trans (f.less h.size)

set_option maxHeartbeats 1000000 in
theorem ppush_any {s m : Nat} {X : Its} (p n : Int) (w : World) (h : PQ w s m X) :
    Calls Tryd.prog 45 #[.pointer (some ⟨s, 0, none⟩), .int .i64 p, .int .i64 n] w fun e w' => e = .returned (.int .i64 (psE m X p n)) ∧ PQ w' s m (psX m X p n) ∧ Fr w.heap.size (zn s) w w' := by
  have HP : Hid (PQ w s m X) := h
  by_cases c1 : p < 0
  · rw [show psE m X p n = 2 from if_pos (Or.inl c1), show psX m X p n = X from if_pos (Or.inl c1)]
    clear h
    go_enter Tryd.func45, Tryd.ntmps45
    go_wp2
    go_ret
    exact ⟨rfl, HP.out, Fr.refl _ _ _⟩
  by_cases c2 : 8 ≤ p
  · rw [show psE m X p n = 2 from if_pos (Or.inr c2), show psX m X p n = X from if_pos (Or.inr c2)]
    clear h
    go_enter Tryd.func45, Tryd.ntmps45
    go_wp2
    go_ret
    exact ⟨rfl, HP.out, Fr.refl _ _ _⟩
  obtain ⟨k, rfl⟩ : ∃ k : Nat, p = (k : Int) := ⟨p.toNat, by omega⟩
  have hk : (k : Int) < 8 := by omega
  have hno : ¬((k : Int) < 0 ∨ 8 ≤ (k : Int)) := by omega
  have C : Hid (∀ _ : Unit, _) := fun _ => prio_any n w h
  by_cases c3 : n ∈ ids X
  · rw [show psE m X k n = 6 by unfold psE; rw [if_neg hno, if_pos c3], show psX m X k n = X by unfold psX; rw [if_neg hno, if_pos c3]]
    rw [decide_eq_true c3] at C
    generalize prP X n = v at *
    clear h c3 hno c1 c2
    go_enter Tryd.func45, Tryd.ntmps45
    go_wp2_with fail
    refine (C.out ()).mono ?_
    rintro e w1 ⟨rfl, b1⟩
    go_wp2
    go_ret
    exact ⟨rfl, HP.out.below b1, (Fr.of_below b1).mono (Nat.le_refl _) (fun _ _ _ => by simp)⟩
  rw [decide_eq_false c3] at C
  have LN : Hid (∀ w1 w2 : World, Below w.heap.size w w1 → w2.heap = w1.heap → _) := fun w1 w2 b e => plen_any w2 ((HP.out.below b).heap e)
  have CP : Hid (∀ w1 w2 : World, Below w.heap.size w w1 → w2.heap = w1.heap → Calls Tryd.prog 65 #[pt s k] w2 fun e w' => e = .returned (.int .i64 (m : Int)) ∧ w' = w2) := fun w1 w2 b e => by
    obtain ⟨f, r, q⟩ := ((HP.out.below b).heap e).lv k (by omega)
    exact cap_any w2 q
  have CC : Hid (∀ w1 : World, Below w.heap.size w w1 → w1.cell? ⟨s, k, none⟩ = some (pt s k)) := fun w1 b => (HP.out.below b).cell k (by omega)
  by_cases c4 : m ≤ X.length
  · rw [show psE m X k n = 5 by unfold psE; rw [if_neg hno, if_neg c3, if_pos c4], show psX m X k n = X by unfold psX; rw [if_neg hno, if_neg c3, if_pos c4]]
    have hl : X.length = m := by have := h.ok.le; omega
    rw [hl] at LN
    generalize prP X n = v at *
    clear h c3 hno c1 c2 c4 hl
    unfold pt at CP CC
    go_enter Tryd.func45, Tryd.ntmps45
    go_wp2_with fail
    refine (C.out ()).mono ?_
    rintro e w1 ⟨rfl, b1⟩
    have cc := CC.out w1 b1
    have B1 : Hid (Below w.heap.size w w1) := b1
    clear b1
    go_wp2
    go_region_held3 (fun w' => w'.cell? ⟨s, k, none⟩ = some (.pointer (some ⟨s + 2 + 2 * k, 0, none⟩))) (go_keep)
      (first | (go_at_call 36; refine (LN.out w1 _ B1.out ?_).mono ?_; rfl; rintro e w' ⟨rfl, rfl⟩) | (go_at_call 65; refine (CP.out w1 _ B1.out ?_).mono ?_; rfl; rintro e w' ⟨rfl, rfl⟩))
    all_goals go_wp2
    go_ret
    exact ⟨rfl, (HP.out.below B1.out).heap rfl, ((Fr.of_below B1.out).drew).mono (Nat.le_refl _) (fun _ _ _ => by simp)⟩
  · rw [show psE m X k n = 0 by unfold psE; rw [if_neg hno, if_neg c3, if_neg c4], show psX m X k n = X ++ [((k : Int), n)] by unfold psX; rw [if_neg hno, if_neg c3, if_neg c4]]
    have hne : ((X.length : Int) == (m : Int)) = false := by simp; omega
    have PU : Hid (∀ w1 : World, Below w.heap.size w w1 → Calls Tryd.prog 66 #[pt s k, .int .i64 n] w1 fun e w' => e = .returned (.int .i64 0) ∧ PQ w' s m (X ++ [((k : Int), n)]) ∧ Fr w1.heap.size (zn s) w1 w') := fun w1 b => by
      have h1 := HP.out.below b
      obtain ⟨f, r, q⟩ := h1.lv k (by omega)
      have nl := no_lv c3 k
      have ll : ¬ m ≤ (Qm.lv X k).length := by have := lv_le X k; omega
      have := push_any n w1 q
      rw [show pE m (Qm.lv X k) n = 0 by unfold pE; rw [if_neg nl, if_neg ll], show pL m (Qm.lv X k) n = Qm.lv X k ++ [n] by unfold pL; rw [if_neg nl, if_neg ll]] at this
      refine this.mono ?_
      rintro e w2 ⟨rfl, ⟨r', q'⟩, fr⟩
      refine ⟨rfl, h1.put (by omega) q' fr (ok_push h1.ok (by omega) c3 (by omega)) (fun j => ?_), fr_zn (by omega) fr⟩
      rw [lv_push]
      by_cases e : j = k
      · subst e; rfl
      · rw [if_neg e, if_neg e]
    generalize prP X n = v at *
    generalize X.length = l at *
    clear h c3 hno c1 c2 c4
    unfold pt at CP CC PU
    go_enter Tryd.func45, Tryd.ntmps45
    go_wp2_with fail
    refine (C.out ()).mono ?_
    rintro e w1 ⟨rfl, b1⟩
    have cc := CC.out w1 b1
    have B1 : Hid (Below w.heap.size w w1) := b1
    clear b1
    go_wp2
    go_region_held3 (fun w' => w'.cell? ⟨s, k, none⟩ = some (.pointer (some ⟨s + 2 + 2 * k, 0, none⟩))) (go_keep)
      (first | (go_at_call 36; refine (LN.out w1 _ B1.out ?_).mono ?_; rfl; rintro e w' ⟨rfl, rfl⟩) | (go_at_call 65; refine (CP.out w1 _ B1.out ?_).mono ?_; rfl; rintro e w' ⟨rfl, rfl⟩))
    all_goals go_wp2_with fail
    have B2 : Hid (Below w.heap.size w w1.drew) := ⟨B1.out.os, B1.out.tape, B1.out.output, B1.out.size, B1.out.block⟩
    refine (PU.out w1.drew B2.out).mono ?_
    rintro e w3 ⟨rfl, q3, f3⟩
    go_wp2
    go_ret
    exact ⟨rfl, q3, fr_below B2.out f3 rfl⟩

set_option maxHeartbeats 1000000 in
theorem top_any {s m : Nat} {X : Its} (w : World) (h : PQ w s m X) :
    Calls Tryd.prog 46 #[.pointer (some ⟨s, 0, none⟩)] w fun e w' => e = .returned (.tuple #[.int .i64 (tpN X), .int .i64 (tpE X)]) ∧ Below w.heap.size w w' := by
  by_cases c : X = []
  · have C : Hid (∀ _ : Unit, _) := fun _ => greatest_none w h c
    rw [show tpE X = 12 from if_pos c, show tpN X = 0 by subst c; rfl]
    clear h c
    go_enter Tryd.func46, Tryd.ntmps46
    go_wp2_with fail
    refine (C.out ()).mono ?_
    rintro e w1 ⟨rfl, b1⟩
    go_wp2
    go_ret2
    exact ⟨rfl, b1⟩
  · obtain ⟨k, g⟩ := gr_some h.ok c
    have C : Hid (∀ _ : Unit, _) := fun _ => greatest_some w h g
    rw [show tpE X = 0 from if_neg c, tpN_gr g]
    have D : Hid (∀ w1 : World, Below w.heap.size w w1 → Calls Tryd.prog 68 #[pt s k] w1 fun e w' => e = .returned (.tuple #[.int .i64 ((Qm.lv X k).headD 0), .int .i64 0]) ∧ ∃ d, w' = w1.drewN d) := fun w1 b => by
      obtain ⟨f, r, q⟩ := (h.below b).lv k g.1
      have := front_any w1 q
      rwa [show fE (Qm.lv X k) = 0 from if_neg g.2.1] at this
    generalize (Qm.lv X k).headD 0 = x at *
    clear h c g
    unfold pt at C D
    go_enter Tryd.func46, Tryd.ntmps46
    go_wp2_with fail
    refine (C.out ()).mono ?_
    rintro e w1 ⟨rfl, b1⟩
    have D1 : Hid (∀ _ : Unit, _) := fun _ => D.out w1 b1
    go_wp2_with fail
    refine (D1.out ()).mono ?_
    rintro e w2 ⟨rfl, d, rfl⟩
    go_wp2
    go_ret2
    exact ⟨rfl, b1.os, b1.tape, b1.output, b1.size, b1.block⟩

set_option maxHeartbeats 1000000 in
theorem pturn_any {s m : Nat} {X : Its} (w : World) (h : PQ w s m X) :
    Calls Tryd.prog 47 #[.pointer (some ⟨s, 0, none⟩)] w fun e w' => e = .returned (.int .i64 (tpE X)) ∧ PQ w' s m (tnX X) ∧ Fr w.heap.size (zn s) w w' := by
  have HP : Hid (PQ w s m X) := h
  by_cases c : X = []
  · have C : Hid (∀ _ : Unit, _) := fun _ => greatest_none w h c
    rw [show tpE X = 12 from if_pos c, show tnX X = X from if_pos c]
    clear h c
    go_enter Tryd.func47, Tryd.ntmps47
    go_wp2_with fail
    refine (C.out ()).mono ?_
    rintro e w1 ⟨rfl, b1⟩
    go_wp2
    go_ret
    exact ⟨rfl, HP.out.below b1, (Fr.of_below b1).mono (Nat.le_refl _) (fun _ _ _ => by simp)⟩
  · obtain ⟨k, g⟩ := gr_some h.ok c
    have C : Hid (∀ _ : Unit, _) := fun _ => greatest_some w h g
    rw [show tpE X = 0 from if_neg c]
    have D : Hid (∀ w1 : World, Below w.heap.size w w1 → Calls Tryd.prog 69 #[pt s k] w1 fun e w' => e = .returned (.int .i64 0) ∧ PQ w' s m (tnX X) ∧ Fr w1.heap.size (zn s) w1 w') := fun w1 b => by
      have h1 := HP.out.below b
      obtain ⟨f, r, q⟩ := h1.lv k g.1
      have := turn_any w1 q (nodup_lv h1.ok.nd k)
      rw [show fE (Qm.lv X k) = 0 from if_neg g.2.1] at this
      refine this.mono ?_
      rintro e w2 ⟨rfl, ⟨f', r', q'⟩, fr⟩
      refine ⟨rfl, h1.put g.1 q' fr (ok_tnX h1.ok) (fun j => ?_), fr_zn g.1 fr⟩
      rw [lv_tnX h1.ok g]
      by_cases e : j = k
      · subst e; rfl
      · rw [if_neg e, if_neg e]
    clear h c g
    unfold pt at C D
    go_enter Tryd.func47, Tryd.ntmps47
    go_wp2_with fail
    refine (C.out ()).mono ?_
    rintro e w1 ⟨rfl, b1⟩
    have D1 : Hid (∀ _ : Unit, _) := fun _ => D.out w1 b1
    go_wp2_with fail
    refine (D1.out ()).mono ?_
    rintro e w2 ⟨rfl, q2, f2⟩
    go_wp2
    go_ret
    exact ⟨rfl, q2, fr_below b1 f2 rfl⟩

set_option maxHeartbeats 1000000 in
theorem pdrop_any {s m : Nat} {X : Its} (n : Int) (w : World) (h : PQ w s m X) :
    Calls Tryd.prog 48 #[.pointer (some ⟨s, 0, none⟩), .int .i64 n] w fun e w' => e = .returned (.int .i64 (drE X n)) ∧ PQ w' s m (del X n) ∧ Fr w.heap.size (zn s) w w' := by
  have HP : Hid (PQ w s m X) := h
  have C : Hid (∀ _ : Unit, _) := fun _ => prio_any n w h
  by_cases c : n ∈ ids X
  · obtain ⟨k, hk, e, h1, h2⟩ := has_lv h.ok c
    rw [decide_eq_true c, e] at C
    rw [show drE X n = 0 from if_pos c]
    have CC : Hid (∀ w1 : World, Below w.heap.size w w1 → w1.cell? ⟨s, k, none⟩ = some (pt s k)) := fun w1 b => (HP.out.below b).cell k hk
    have D : Hid (∀ w1 : World, Below w.heap.size w w1 → Calls Tryd.prog 70 #[pt s k, .int .i64 n] w1 fun e w' => e = .returned (.int .i64 0) ∧ PQ w' s m (del X n) ∧ Fr w1.heap.size (zn s) w1 w') := fun w1 b => by
      have h3 := HP.out.below b
      obtain ⟨f, r, q⟩ := h3.lv k hk
      have := drop_any n w1 q (nodup_lv h3.ok.nd k)
      rw [show dE (Qm.lv X k) n = 0 from if_pos h1] at this
      refine this.mono ?_
      rintro e w2 ⟨rfl, ⟨r', q'⟩, fr⟩
      refine ⟨rfl, h3.put hk q' fr (ok_del h3.ok n) (fun j => ?_), fr_zn hk fr⟩
      rw [lv_del]
      by_cases e : j = k
      · subst e; rw [if_pos rfl]
      · rw [if_neg e, wo_miss _ _ (h2 j e)]
    have hk2 : (k : Int) < 8 := by omega
    clear h c e h1 h2
    unfold pt at CC D
    go_enter Tryd.func48, Tryd.ntmps48
    go_wp2_with fail
    refine (C.out ()).mono ?_
    rintro e w1 ⟨rfl, b1⟩
    have D1 : Hid (∀ _ : Unit, _) := fun _ => D.out w1 b1
    have cc := CC.out w1 b1
    have B1 : Hid (Below w.heap.size w w1) := b1
    clear b1
    go_wp2_with fail
    refine (D1.out ()).mono ?_
    rintro e w2 ⟨rfl, q2, f2⟩
    go_wp2
    go_ret
    exact ⟨rfl, q2, fr_below B1.out f2 rfl⟩
  · rw [decide_eq_false c] at C
    rw [show drE X n = 4 from if_neg c, del_miss c]
    generalize prP X n = v at *
    clear h c
    go_enter Tryd.func48, Tryd.ntmps48
    go_wp2_with fail
    refine (C.out ()).mono ?_
    rintro e w1 ⟨rfl, b1⟩
    go_wp2
    go_ret
    exact ⟨rfl, HP.out.below b1, (Fr.of_below b1).mono (Nat.le_refl _) (fun _ _ _ => by simp)⟩
end Go.Proofs.YtpmjojemcpgpiaaDoor
