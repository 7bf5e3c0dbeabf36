/- One interrupt of a table of four cores: what each call does to it. -/
import Derived.Test.YthhgmnkgeombhaaRows
import Derived.Test.YthhgmnkgeombhaaBb
import Derived.WalkKit
import Derived.ProofKit
import Derived.OpenShut
import Derived.BigQuiet
namespace Go.Proofs.Ythhgmnkgeombhaa
open Go.ChangeShapes Go.WideShapes Go.ChangeAt Go.RowKit
open Mm Bm

/-- The interrupt i of the table s is t; all that was there is as it was. -/
structure OS (w wr : World) (s i : Nat) (t : Iq) : Prop where
  it : ∃ X, IT wr s 4 X ∧ X i = t
  bel : Below s w wr
  sz : s ≤ wr.heap.size

theorem OS.next {w wr w' : World} {s i : Nat} {t u : Iq} {X : Nat → Iq} (h : OS w wr s i t) (q : IT w' s 4 X) (e : X i = u) (f : Fr wr.heap.size [s] wr w') : OS w w' s i u :=
  ⟨⟨X, q, e⟩, fr_own h.bel f h.sz (by simp), Nat.le_trans h.sz f.size⟩
theorem OS.below {w wr w' : World} {s i : Nat} {t : Iq} (h : OS w wr s i t) (f : Below wr.heap.size wr w') : OS w w' s i t := by
  obtain ⟨X, q, e⟩ := h.it
  exact ⟨⟨X, q.below f, e⟩, h.bel.trans (f.mono h.sz), Nat.le_trans h.sz f.size⟩

theorem os_request {w wr : World} {s i : Nat} (hi : i < 16) (h : OS w wr s i zi) :
    Calls Try.prog 21 #[.pointer (some ⟨s, 0, none⟩), .int .i64 (i : Int), .int .u64 3] wr fun e w' => e = .returned (.int .i64 0) ∧ OS w w' s i (nw 3) := by
  obtain ⟨X, q, e⟩ := h.it
  refine (iqrequest_any (i : Int) 3 wr (by omega) q).mono fun r w' ⟨r1, r2, r3⟩ => ?_
  have e0 : rqE 4 X (i : Int) 3 = 0 := by unfold rqE; rw [if_pos (is_nat hi), Int.toNat_natCast, e]; decide +kernel
  rw [e0] at r1 r2
  rw [stp_ok, Int.toNat_natCast] at r2
  exact ⟨r1, h.next r2 (sx_same _ _ _) r3⟩
theorem os_raise {w wr : World} {s i : Nat} (hi : i < 16) {b p : Bool} {m : Nat} (h : OS w wr s i ⟨true, b, p, m⟩) :
    Calls Try.prog 23 #[.pointer (some ⟨s, 0, none⟩), .int .i64 (i : Int)] wr fun e w' => e = .returned (.int .i64 0) ∧ OS w w' s i ⟨true, b, true, m⟩ := by
  obtain ⟨X, q, e⟩ := h.it
  refine (iqraise_any (i : Int) wr q).mono fun r w' ⟨r1, r2, r3⟩ => ?_
  rw [wa_nat hi (by rw [e])] at r1 r2
  rw [stp_ok, Int.toNat_natCast] at r2
  exact ⟨r1, h.next r2 (by rw [sx_same, e]) r3⟩
theorem os_turn {w wr w' : World} {s i : Nat} (hi : i < 16) {b p : Bool} {m : Nat} {X : Nat → Iq} {e : Ending} (h : OS w wr s i ⟨true, b, p, m⟩) (ex : X i = ⟨true, b, p, m⟩) (r : e = .returned (.int .i64 (hsE X (i : Int) (!b))) ∧ IT w' s 4 (stp (hsE X (i : Int) (!b)) X (i : Int) { X (i : Int).toNat with ms := !b }) ∧ Fr wr.heap.size [s] wr w') :
    e = .returned (.int .i64 0) ∧ OS w w' s i ⟨true, !b, p, m⟩ := by
  obtain ⟨r1, r2, r3⟩ := r
  have e0 : hsE X (i : Int) (!b) = 0 := by unfold hsE; rw [if_pos (wa_nat hi (by rw [ex])), Int.toNat_natCast, ex]; cases b <;> rfl
  rw [e0] at r1 r2
  rw [stp_ok, Int.toNat_natCast] at r2
  exact ⟨r1, h.next r2 (by rw [sx_same, ex]) r3⟩
theorem os_hush {w wr : World} {s i : Nat} (hi : i < 16) {p : Bool} {m : Nat} (h : OS w wr s i ⟨true, false, p, m⟩) :
    Calls Try.prog 22 #[.pointer (some ⟨s, 0, none⟩), .int .i64 (i : Int)] wr fun e w' => e = .returned (.int .i64 0) ∧ OS w w' s i ⟨true, true, p, m⟩ := by
  obtain ⟨X, q, e⟩ := h.it
  exact (iqhush_any (i : Int) wr q).mono fun r w' k => os_turn hi h e k
theorem os_unhush {w wr : World} {s i : Nat} (hi : i < 16) {p : Bool} {m : Nat} (h : OS w wr s i ⟨true, true, p, m⟩) :
    Calls Try.prog 25 #[.pointer (some ⟨s, 0, none⟩), .int .i64 (i : Int)] wr fun e w' => e = .returned (.int .i64 0) ∧ OS w w' s i ⟨true, false, p, m⟩ := by
  obtain ⟨X, q, e⟩ := h.it
  exact (iqunhush_any (i : Int) wr q).mono fun r w' k => os_turn hi h e k
theorem os_ready {w wr : World} {s i : Nat} (hi : i < 16) {t : Iq} (h : OS w wr s i t) :
    Calls Try.prog 13 #[.pointer (some ⟨s, 0, none⟩), .int .i64 (i : Int)] wr fun e w' => e = .returned (.bool (rdy t)) ∧ OS w w' s i t := by
  obtain ⟨X, q, e⟩ := h.it
  refine (iqready_any (i : Int) wr q).mono fun r w' ⟨r1, r2⟩ => ?_
  have e0 : rdB X (i : Int) = rdy t := by unfold rdB; rw [is_nat hi, Int.toNat_natCast, e]; rfl
  rw [e0] at r1
  exact ⟨r1, h.below r2⟩
theorem os_clear {w wr : World} {s i : Nat} (hi : i < 16) {m : Nat} (h : OS w wr s i ⟨true, false, true, m⟩) :
    Calls Try.prog 24 #[.pointer (some ⟨s, 0, none⟩), .int .i64 (i : Int)] wr fun e w' => e = .returned (.int .i64 0) ∧ OS w w' s i ⟨true, false, false, m⟩ := by
  obtain ⟨X, q, e⟩ := h.it
  refine (iqclear_any (i : Int) wr q).mono fun r w' ⟨r1, r2, r3⟩ => ?_
  have e0 : clE X (i : Int) = 0 := by unfold clE; rw [if_pos (wa_nat hi (by rw [e])), Int.toNat_natCast, e]; rfl
  rw [e0] at r1 r2
  rw [stp_ok, Int.toNat_natCast] at r2
  exact ⟨r1, h.next r2 (by rw [sx_same, e]) r3⟩
theorem os_clear_no {w wr : World} {s i : Nat} (hi : i < 16) {b p : Bool} {m : Nat} (h : OS w wr s i ⟨true, b, p, m⟩) (hr : rdy ⟨true, b, p, m⟩ = false) :
    Calls Try.prog 24 #[.pointer (some ⟨s, 0, none⟩), .int .i64 (i : Int)] wr fun e w' => e = .returned (.int .i64 12) ∧ OS w w' s i ⟨true, b, p, m⟩ := by
  obtain ⟨X, q, e⟩ := h.it
  refine (iqclear_any (i : Int) wr q).mono fun r w' ⟨r1, r2, r3⟩ => ?_
  have e0 : clE X (i : Int) = 12 := by unfold clE; rw [if_pos (wa_nat hi (by rw [e])), Int.toNat_natCast, e, hr]; rfl
  rw [e0] at r1 r2
  rw [stp_no (by decide)] at r2
  exact ⟨r1, h.next r2 e r3⟩
end Go.Proofs.Ythhgmnkgeombhaa
