/- A wheel as it lies in memory: its rooms; what room and find answer. -/
import Derived.Test.YtadaghhgmflfdaaDoorRows
import Derived.Test.YtadaghhgmflfdaaDoorWe
import Derived.Test.YtadaghhgmflfdaaDoorWf
import Derived.Test.YtadaghhgmflfdaaDoorWg
import Derived.WalkKit
import Derived.ProofKit
import Derived.OpenShut
import Derived.BigQuiet
import Derived.Deep.RegionHeld3
namespace Go.Proofs.YtadaghhgmflfdaaDoor
open Go.ChangeShapes Go.WideShapes Go.ChangeAt Go.RowKit
open Wm

def nv : Value := .slice none 0 0
def upR (R : Nat → List It) (r : Nat) (l : List It) : Nat → List It := fun q => if q = r then l else R q
/-- The blocks of the rooms. -/
def bl (V : List Value) : List Nat := V.flatMap ob

/-- A wheel's struct at block s, and its rooms. -/
structure WR (w : World) (s : Nat) (now : Int) (mp : Option Nat) (V : List Value) (R : Nat → List It) : Prop where
  st : Blk w s (.int .i64 now :: .map mp :: V) 91
  vl : V.length = 169
  own : ∀ r, r < 169 → Own 95 w (V.getD r nv) (R r)
  apart : ∀ r q, r < 169 → q < 169 → r ≠ q → ∀ g, g ∈ ob (V.getD r nv) → g ∉ ob (V.getD q nv)

theorem bl_get {V : List Value} {r g : Nat} (h : g ∈ ob (V.getD r nv)) : g ∈ bl V := by
  rw [List.getD_eq_getElem?_getD] at h
  cases e : V[r]? with
  | none => rw [e] at h; simp [nv, ob, Value.ownBlock] at h
  | some v =>
    rw [e] at h
    exact List.mem_flatMap.2 ⟨v, List.mem_of_getElem? e, h⟩
theorem bl_mem {V : List Value} {g : Nat} (h : g ∈ bl V) : ∃ r, r < V.length ∧ g ∈ ob (V.getD r nv) := by
  obtain ⟨v, hv, hg⟩ := List.mem_flatMap.1 h
  obtain ⟨i, hi, e⟩ := List.mem_iff_getElem.1 hv
  refine ⟨i, hi, ?_⟩
  rw [List.getD_eq_getElem?_getD, List.getElem?_eq_getElem hi, Option.getD_some, e]
  exact hg
theorem bl_set {V : List Value} {r : Nat} {v : Value} {g : Nat} (h : g ∈ bl (V.set r v)) : g ∈ bl V ∨ g ∈ ob v := by
  obtain ⟨u, hu, hg⟩ := List.mem_flatMap.1 h
  rcases List.mem_or_eq_of_mem_set hu with q | q
  · exact Or.inl (List.mem_flatMap.2 ⟨u, q, hg⟩)
  · subst q
    exact Or.inr hg
theorem getD_set {α : Type} (V : List α) (c i : Nat) (v d : α) (hc : c < V.length) : (V.set c v).getD i d = if i = c then v else V.getD i d := by
  rw [List.getD_eq_getElem?_getD, List.getElem?_set]
  by_cases e : c = i
  · subst e
    simp [hc]
  · rw [if_neg e, if_neg (fun g => e g.symm), List.getD_eq_getElem?_getD]

theorem WR.c0 {w : World} {s : Nat} {now : Int} {mp : Option Nat} {V : List Value} {R : Nat → List It} (h : WR w s now mp V R) : w.cell? ⟨s, 0, none⟩ = some (.int .i64 now) := h.st.cell 0
theorem WR.c1 {w : World} {s : Nat} {now : Int} {mp : Option Nat} {V : List Value} {R : Nat → List It} (h : WR w s now mp V R) : w.cell? ⟨s, 1, none⟩ = some (.map mp) := h.st.cell 1
theorem WR.cr {w : World} {s : Nat} {now : Int} {mp : Option Nat} {V : List Value} {R : Nat → List It} (h : WR w s now mp V R) {r : Nat} (hr : r < 169) : w.cell? ⟨s, 2 + r, none⟩ = some (V.getD r nv) := by
  have hv := h.vl
  rw [h.st.cell, show 2 + r = r + 1 + 1 by omega, List.getElem?_cons_succ, List.getElem?_cons_succ, List.getD_eq_getElem?_getD, List.getElem?_eq_getElem (by omega)]
  rfl
theorem WR.shape {w : World} {s : Nat} {now : Int} {mp : Option Nat} {V : List Value} {R : Nat → List It} (h : WR w s now mp V R) {r : Nat} (hr : r < 169) : ∃ a cap, V.getD r nv = .slice a (R r).length cap := (h.own r hr).shape
theorem WR.lt {w : World} {s : Nat} {now : Int} {mp : Option Nat} {V : List Value} {R : Nat → List It} (h : WR w s now mp V R) {g : Nat} (hg : g ∈ bl V) : g < w.heap.size := by
  obtain ⟨r, hr, hm⟩ := bl_mem hg
  exact (h.own r (by have := h.vl; omega)).lt (mem_ob.1 hm)
/-- A block of another type is none of the rooms'. -/
theorem WR.not {w : World} {s : Nat} {now : Int} {mp : Option Nat} {V : List Value} {R : Nat → List It} (h : WR w s now mp V R) {k : Nat} {cs : List Value} {t : TypeId} (b : Blk w k cs t) (ht : 95 ≠ t) : k ∉ bl V := fun hm => by
  obtain ⟨r, hr, hg⟩ := bl_mem hm
  exact (h.own r (by have := h.vl; omega)).ne b ht (mem_ob.1 hg) rfl
theorem WR.keep {B : Nat} {S : List Nat} {w w' : World} {s : Nat} {now : Int} {mp : Option Nat} {V : List Value} {R : Nat → List It} (h : WR w s now mp V R) (f : Fr B S w w') (hB : w.heap.size ≤ B) (h1 : s ∉ S) (h2 : ∀ g ∈ bl V, g ∉ S) : WR w' s now mp V R :=
  ⟨h.st.keep f (Nat.lt_of_lt_of_le h.st.lt hB) h1, h.vl, fun r hr => (h.own r hr).keep f fun g hg => ⟨Nat.lt_of_lt_of_le ((h.own r hr).lt hg) hB, h2 g (bl_get (mem_ob.2 hg))⟩, h.apart⟩
theorem WR.below {w w' : World} {s : Nat} {now : Int} {mp : Option Nat} {V : List Value} {R : Nat → List It} (h : WR w s now mp V R) (f : Below w.heap.size w w') : WR w' s now mp V R := h.keep (Fr.of_below f) (Nat.le_refl _) (by simp) (by simp)
theorem WR.heap {w w1 : World} {s : Nat} {now : Int} {mp : Option Nat} {V : List Value} {R : Nat → List It} (h : WR w s now mp V R) (e : w1.heap = w.heap) : WR w1 s now mp V R := ⟨h.st.heap e, h.vl, fun r hr => (h.own r hr).heap e, h.apart⟩
theorem WR.congr {w : World} {s : Nat} {now : Int} {mp : Option Nat} {V : List Value} {R R' : Nat → List It} (h : WR w s now mp V R) (e : ∀ r, r < 169 → R' r = R r) : WR w s now mp V R' := ⟨h.st, h.vl, fun r hr => by rw [e r hr]; exact h.own r hr, h.apart⟩

/-- A room gets another list, in memory of its own: behind the store. -/
theorem WR.store {w w1 : World} {s : Nat} {now : Int} {mp : Option Nat} {V : List Value} {R : Nat → List It} (h : WR w s now mp V R) {r : Nat} (hr : r < 169) {v' : Value} {l' : List It} (f : Fr w.heap.size (ob (V.getD r nv)) w w1) (o : Own 95 w1 v' l') (n : ∀ g ∈ ob v', g ∈ ob (V.getD r nv) ∨ w.heap.size ≤ g) :
    WR (w1.setCell ⟨s, 2 + r, none⟩ v') s now mp (V.set r v') (upR R r l') := by
  have hv := h.vl
  have nb : s ∉ ob (V.getD r nv) := fun e => h.not h.st (by decide) (bl_get e)
  have s1 : Blk w1 s (.int .i64 now :: .map mp :: V) 91 := h.st.keep f h.st.lt nb
  have F : Fr w1.heap.size [s] w1 (w1.setCell ⟨s, 2 + r, none⟩ v') := (Fr.refl _ _ _).setCell (Or.inr (by simp)) v'
  refine ⟨?_, by simpa using hv, fun q hq => ?_, fun q p hq hp hn g hg => ?_⟩
  · have := s1.set (2 + r) v'
    rw [show 2 + r = r + 1 + 1 by omega, List.set_cons_succ, List.set_cons_succ] at this
    rw [show 2 + r = r + 1 + 1 by omega]
    exact this
  · rw [getD_set V r q v' nv (by omega)]
    unfold upR
    by_cases e : q = r
    · rw [if_pos e, if_pos e]
      exact o.keep F fun g hg => ⟨o.lt hg, by simp; exact fun e2 => o.ne s1 (by decide) hg e2.symm⟩
    · rw [if_neg e, if_neg e]
      have k := (h.own q hq).keep f fun g hg => ⟨(h.own q hq).lt hg, fun hm => h.apart r q hr hq (fun e2 => e e2.symm) g hm (mem_ob.2 hg)⟩
      exact k.keep F fun g hg => ⟨k.lt hg, by simp; exact fun e2 => k.ne s1 (by decide) hg e2.symm⟩
  · rw [getD_set V r q v' nv (by omega)] at hg
    rw [getD_set V r p v' nv (by omega)]
    by_cases e : q = r
    · rw [if_pos e] at hg
      rw [if_neg (fun e2 => hn (e.trans e2.symm))]
      rcases n g hg with m | m
      · exact h.apart r p hr hp (fun e2 => hn (e.trans e2)) g m
      · intro m2
        have := (h.own p hp).lt (mem_ob.1 m2)
        omega
    · rw [if_neg e] at hg
      by_cases e2 : p = r
      · rw [if_pos e2]
        intro m2
        rcases n g m2 with m | m
        · exact h.apart q r hq hr e g hg m
        · have := (h.own q hq).lt (mem_ob.1 hg)
          omega
      · rw [if_neg e2]
        exact h.apart q p hq hp hn g hg
theorem store_fr {w w1 : World} {s r : Nat} {V : List Value} {v' : Value} (f : Fr w.heap.size (ob (V.getD r nv)) w w1) : Fr w.heap.size (s :: bl V) w (w1.setCell ⟨s, 2 + r, none⟩ v') :=
  (f.mono (Nat.le_refl _) (fun k _ hk hs => hk (List.mem_cons_of_mem _ (bl_get hs)))).setCell (Or.inr (by simp)) v'
theorem store_bl {w : World} {V : List Value} {r : Nat} {v' : Value} (n : ∀ g ∈ ob v', g ∈ ob (V.getD r nv) ∨ w.heap.size ≤ g) : ∀ g ∈ bl (V.set r v'), g ∈ bl V ∨ w.heap.size ≤ g := fun g hg => by
  rcases bl_set hg with h | h
  · exact Or.inl h
  · rcases n g h with h | h
    · exact Or.inl (bl_get h)
    · exact Or.inr h

set_option maxRecDepth 100000 in
set_option maxHeartbeats 1000000 in
theorem room_any {w : World} {s : Nat} {now : Int} (d : Int) (h0 : w.cell? ⟨s, 0, none⟩ = some (.int .i64 now)) (hn : isT now) (hd : isT d) :
    Calls Tryd.prog 62 #[.pointer (some ⟨s, 0, none⟩), .int .i64 d] w fun e w' => e = .returned (.pointer (some ⟨s, 2 + rn now.toNat d.toNat, none⟩)) ∧ Sm w' w := by
  by_cases c : d ≤ now
  · rw [rn_due _ _ (by have := hd.1; omega)]
    go_enter Tryd.func62, Tryd.ntmps62
    go_wp2
    go_ret
    exact ⟨rfl, rfl, rfl, rfl, rfl⟩
  · rw [rn_not _ _ (by have := hn.1; omega)]
    have C1 : Hid (∀ w, _) := fun w => level_any now d w hn hd
    have hl : lv now.toNat d.toNat ≤ 20 := lv_le (by unfold isT at hn; unfold tk; omega) (by unfold isT at hd; unfold tk; omega)
    have C2 : Hid (∀ w, _) := fun w => digit_any d (lv now.toNat d.toNat) w hd (by omega)
    have hr : d.toNat / 8 ^ lv now.toNat d.toNat % 8 < 8 := Nat.mod_lt _ (by decide)
    generalize d.toNat / 8 ^ lv now.toNat d.toNat % 8 = r at *
    generalize lv now.toNat d.toNat = l at *
    have hl2 : (l : Int) < 21 := by omega
    have hr2 : (r : Int) < 8 := by omega
    have E : Hid (3 + l * 8 + r = 2 + (1 + 8 * l + r)) := by show 3 + l * 8 + r = 2 + (1 + 8 * l + r); omega
    clear hn hd hl hr
    go_enter Tryd.func62, Tryd.ntmps62
    go_wp2_with fail
    refine (C1.out _).mono ?_
    rintro e w' ⟨rfl, rfl⟩
    go_wp2_with fail
    go_region_held3 (fun _ => True) (trivial) (first | (go_at_call 68; refine (C2.out _).mono ?_; rintro e v1 ⟨rfl, rfl⟩))
    go_wp2
    go_ret
    exact ⟨by rw [← E.out]; rfl, rfl, rfl, rfl, rfl⟩
end Go.Proofs.YtadaghhgmflfdaaDoor
