/- A gate of four cores that is wanted, whose readers leave core by core: for GateAlone. -/
import Derived.Test.YtbmdfoohabipjaaEe
namespace Go.Proofs.Ytbmdfoohabipjaa
open Go.ChangeShapes Go.WideShapes Go.ChangeAt Go.RowKit
open Pm Em

/-- The gate is wanted; the cores below c have no reader any more. -/
structure GA (w wr : World) (s c : Nat) (L : List Int) : Prop where
  q : GT wr (s + 2) s 1 L
  bel : Below s w wr
  len : L.length = 4
  dn : ∀ j, j < c → L.getD j 0 = 0

section
variable {w wr v1 w1 : World} {s c : Nat} {L : List Int}
theorem GA.hi (h : GA w wr s c L) : s + 3 ≤ wr.heap.size := h.q.sb.lt
theorem GA.sm (h : GA w wr s c L) (e : Sm w1 wr) : GA w w1 s c L := ⟨h.q.heap e.1, e.below h.bel, h.len, h.dn⟩
theorem GA.fr {x : Nat} {L' : List Int} (h : GA w wr s c L) (q : GT v1 (s + 2) s 1 L') (f : Fr wr.heap.size [x] wr v1) (hx : s ≤ x) (hl : L'.length = 4) (hd : ∀ j, j < c → L'.getD j 0 = 0) : GA w v1 s c L' :=
  ⟨q, fr_own h.bel f (by have := h.hi; omega) (by simp; omega), hl, hd⟩
theorem GA.ic (h : GA w wr s c L) (hc : c < 4) : ic L c = true := decide_eq_true (by rw [h.len]; omega)

theorem ga_on (hc : c < 4) (h : GA w v1 s c L) (e : Sm w1 v1) :
    Calls Try.prog 16 #[.pointer (some ⟨s + 2, 0, none⟩), .int .i64 (c : Int)] w1 fun r w' => r = .returned (.int .i64 (L.getD c 0)) ∧ GA w w' s c L := by
  have i := h.ic hc
  have e1 : gtN L c = L.getD c 0 := by unfold gtN at'; rw [if_pos i, Int.toNat_natCast]
  exact (gOn_any c w1 (h.sm e).q).mono fun _ _ ⟨r1, r2⟩ => by rw [r2, ← e1]; exact ⟨r1, h.sm e⟩
theorem ga_enter (hc : c < 4) (h : GA w v1 s c L) (e : Sm w1 v1) :
    Calls Try.prog 19 #[.pointer (some ⟨s + 2, 0, none⟩), .int .i64 (c : Int)] w1 fun r w' => r = .returned (.int .i64 7) ∧ GA w w' s c L := by
  have i := h.ic hc
  have e1 : enE 1 L c = 7 := by simp [enE, i]
  have e2 : enL 1 L c = L := by simp [enL, e1]
  refine (genter_any c w1 (h.sm e).q).mono fun _ w' ⟨r1, r2, r3⟩ => ?_
  rw [e1] at r1
  rw [e2] at r2
  exact ⟨r1, (h.sm e).fr r2 r3 (Nat.le_refl _) h.len h.dn⟩
theorem ga_leave (hc : c < 4) (h : GA w v1 s c L) (hp : L.getD c 0 ≠ 0) (e : Sm w1 v1) :
    Calls Try.prog 20 #[.pointer (some ⟨s + 2, 0, none⟩), .int .i64 (c : Int)] w1 fun r w' => r = .returned (.int .i64 0) ∧ GA w w' s c (L.set c (L.getD c 0 - 1)) := by
  have i := h.ic hc
  have ea : at' L (c : Int) = L.getD c 0 := by unfold at'; rw [Int.toNat_natCast]
  have e1 : leE L c = 0 := by unfold leE; rw [if_pos i, if_neg (by rw [ea]; exact hp)]
  have e2 : leL L c = L.set c (L.getD c 0 - 1) := by unfold leL; rw [if_pos e1, ea, Int.toNat_natCast]
  refine (gleave_any c w1 (h.sm e).q).mono fun _ w' ⟨r1, r2, r3⟩ => ?_
  rw [e1] at r1
  rw [e2] at r2
  exact ⟨r1, (h.sm e).fr r2 r3 (Nat.le_refl _) (by simpa using h.len) fun j hj => by rw [Pm.getD_set_ne _ _ _ _ (by omega)]; exact h.dn j hj⟩
theorem getD_set (hc : c < L.length) (x : Int) : (L.set c x).getD c 0 = x := by
  rw [List.getD_eq_getElem?_getD, List.getElem?_set, if_pos rfl, if_pos hc]
  rfl
theorem GA.next (h : GA w wr s c L) (h0 : L.getD c 0 = 0) : GA w wr s (c + 1) L := ⟨h.q, h.bel, h.len, fun j hj => by
  by_cases e : j = c
  · rw [e]; exact h0
  · exact h.dn j (by omega)⟩
theorem GA.sum (h : GA w wr s 4 L) : L.sum = 0 := by
  match L, h.len, h.dn with
  | [a, b, c, d], _, hd =>
    have h0 : a = 0 := hd 0 (by omega)
    have h1 : b = 0 := hd 1 (by omega)
    have h2 : c = 0 := hd 2 (by omega)
    have h3 : d = 0 := hd 3 (by omega)
    simp [h0, h1, h2, h3]
theorem ga_take (h : GA w v1 s 4 L) (e : Sm w1 v1) :
    Calls Try.prog 21 #[.pointer (some ⟨s + 2, 0, none⟩)] w1 fun r w' => r = .returned (.int .i64 0) ∧ GT w' (s + 2) s 2 L ∧ Below s w w' := by
  have z := h.sum
  have e1 : tkE 1 L = 0 := by simp [tkE, z]
  have e2 : tkS 1 L = 2 := by simp [tkS, e1]
  refine (gtake_any w1 (h.sm e).q).mono fun _ w' ⟨r1, r2, r3⟩ => ?_
  rw [e1] at r1
  rw [e2] at r2
  exact ⟨r1, r2, fr_own (h.sm e).bel r3 (by have := (h.sm e).hi; omega) (by simp)⟩
end
end Go.Proofs.Ytbmdfoohabipjaa
