/- Timers as they lie in memory: the table of numbers, the wheels, the map of where each is; what on, Now, Next, Ready, Load, List, Where and When answer. -/
import Derived.Test.YtadaghhgmflfdaaDoorRows
import Derived.Test.YtadaghhgmflfdaaDoorSz
import Derived.Test.YtadaghhgmflfdaaDoorWp
import Derived.Test.YtadaghhgmflfdaaDoorWr
import Derived.Test.YtadaghhgmflfdaaDoorZm
import Derived.WalkKit
import Derived.ProofKit
import Derived.OpenShut
import Derived.BigQuiet
namespace Go.Proofs.YtadaghhgmflfdaaDoor
open Go.ChangeShapes Go.WideShapes Go.ChangeAt Go.RowKit
open Wm Zm

def upd {α : Type} (f : Nat → α) (c : Nat) (x : α) : Nat → α := fun j => if j = c then x else f j
theorem upd_same {α : Type} (f : Nat → α) (c : Nat) (x : α) : upd f c x c = x := if_pos rfl
theorem upd_other {α : Type} {f : Nat → α} {c j : Nat} (x : α) (h : j ≠ c) : upd f c x j = f j := if_neg h

/-- All of it, with wheels of their own ticks. -/
structure TB (w : World) (t sb sg tb mb n : Nat) (N : Nat → Int) (S : Nat → Nat) (K : Ks) (G : Nat → List Nat) (W : List Nat) (O : Nat → Bool) (m : Nat) (f : Int → Option Int) : Prop where
  st : Blk w t [.pointer (some ⟨sb, 0, none⟩), .slice (some ⟨tb, 0, none⟩) n n, .map (some mb)] 70
  tab : Blk w tb ((List.range n).map fun c => .pointer (some ⟨S c, 0, none⟩)) 71
  sl : T w sb sg 48 W O
  mp : MQ 3 w mb m f
  ws : ∀ c, c < n → WW w (S c) (N c) (K c) (G c)
  dis : ∀ c d, c < n → d < n → c ≠ d → ∀ g ∈ G c, g ∉ G d
  nb : ∀ c, c < n → ∀ g ∈ G c, g ∉ [t, sb, sg, tb, mb]
  n1 : 1 ≤ n
  n2 : n ≤ 64

def foot (t sb sg tb mb n : Nat) (G : Nat → List Nat) : List Nat := [t, sb, sg, tb, mb] ++ (List.range n).flatMap G
theorem mem_foot {t sb sg tb mb n : Nat} {G : Nat → List Nat} {g : Nat} : g ∈ foot t sb sg tb mb n G ↔ g ∈ [t, sb, sg, tb, mb] ∨ ∃ c, c < n ∧ g ∈ G c := by
  unfold foot
  rw [List.mem_append, List.mem_flatMap]
  simp

section
variable {w : World} {t sb sg tb mb n : Nat} {N : Nat → Int} {S : Nat → Nat} {K : Ks} {G : Nat → List Nat} {W : List Nat} {O : Nat → Bool} {m : Nat} {f : Int → Option Int}

theorem TB.c0 (h : TB w t sb sg tb mb n N S K G W O m f) : w.cell? ⟨t, 0, none⟩ = some (.pointer (some ⟨sb, 0, none⟩)) := h.st.cell 0
theorem TB.c1 (h : TB w t sb sg tb mb n N S K G W O m f) : w.cell? ⟨t, 1, none⟩ = some (.slice (some ⟨tb, 0, none⟩) n n) := h.st.cell 1
theorem TB.c2 (h : TB w t sb sg tb mb n N S K G W O m f) : w.cell? ⟨t, 2, none⟩ = some (.map (some mb)) := h.st.cell 2
theorem TB.cw (h : TB w t sb sg tb mb n N S K G W O m f) {c : Nat} (hc : c < n) : w.cell? ⟨tb, c, none⟩ = some (.pointer (some ⟨S c, 0, none⟩)) := by
  rw [h.tab.cell c, List.getElem?_map, List.getElem?_range hc]
  rfl
theorem TB.lt (h : TB w t sb sg tb mb n N S K G W O m f) {g : Nat} (hg : g ∈ [t, sb, sg, tb, mb]) : g < w.heap.size := by
  simp only [List.mem_cons, List.not_mem_nil, or_false] at hg
  rcases hg with rfl | rfl | rfl | rfl | rfl
  · exact h.st.lt
  · exact h.sl.sb.lt
  · exact h.sl.sg.lt
  · exact h.tab.lt
  · exact h.mp.lt
theorem TB.hi (h : TB w t sb sg tb mb n N S K G W O m f) {g : Nat} (hg : g ∈ foot t sb sg tb mb n G) : g < w.heap.size := by
  rcases mem_foot.1 hg with q | ⟨c, hc, q⟩
  · exact h.lt q
  · exact (h.ws c hc).lt q

theorem TB.keep {B : Nat} {Z : List Nat} {w' : World} (h : TB w t sb sg tb mb n N S K G W O m f) (k : Fr B Z w w') (hB : w.heap.size ≤ B) (hZ : ∀ g ∈ foot t sb sg tb mb n G, g ∉ Z) : TB w' t sb sg tb mb n N S K G W O m f := by
  have z : ∀ g ∈ [t, sb, sg, tb, mb], g < B ∧ g ∉ Z := fun g hg => ⟨Nat.lt_of_lt_of_le (h.lt hg) hB, hZ g (mem_foot.2 (Or.inl hg))⟩
  refine ⟨h.st.keep k (z t (by simp)).1 (z t (by simp)).2, h.tab.keep k (z tb (by simp)).1 (z tb (by simp)).2, h.sl.keep k ⟨(z sb (by simp)).1, (z sg (by simp)).1⟩ ⟨(z sb (by simp)).2, (z sg (by simp)).2⟩, h.mp.keep k (z mb (by simp)).1 (z mb (by simp)).2, fun c hc => (h.ws c hc).keep k hB fun g hg => hZ g (mem_foot.2 (Or.inr ⟨c, hc, hg⟩)), h.dis, h.nb, h.n1, h.n2⟩

/-- One wheel is another one now. -/
theorem TB.wheel {w' : World} (h : TB w t sb sg tb mb n N S K G W O m f) {c : Nat} (hc : c < n) {now : Int} {X : List It} {F' : List Nat} (q : WW w' (S c) now X F') (v : Mv w w' (G c) F') :
    TB w' t sb sg tb mb n (upd N c now) S (up K c X) (upd G c F') W O m f ∧ Mv w w' (foot t sb sg tb mb n G) (foot t sb sg tb mb n (upd G c F')) := by
  have z : ∀ g ∈ [t, sb, sg, tb, mb], g < w.heap.size ∧ g ∉ G c := fun g hg => ⟨h.lt hg, fun e => h.nb c hc g e hg⟩
  refine ⟨⟨h.st.keep v.fr (z t (by simp)).1 (z t (by simp)).2, h.tab.keep v.fr (z tb (by simp)).1 (z tb (by simp)).2, h.sl.keep v.fr ⟨(z sb (by simp)).1, (z sg (by simp)).1⟩ ⟨(z sb (by simp)).2, (z sg (by simp)).2⟩, h.mp.keep v.fr (z mb (by simp)).1 (z mb (by simp)).2, fun d hd => ?_, fun d e hd he hn g hg => ?_, fun d hd g hg => ?_, h.n1, h.n2⟩, ?_, fun g hg => ?_⟩
  · by_cases e : d = c
    · subst e
      rw [upd_same, upd_same, up_same]
      exact q
    · rw [upd_other _ e, upd_other _ e, up_other _ e]
      exact (h.ws d hd).keep v.fr (Nat.le_refl _) fun g hg hg2 => h.dis d c hd hc e g hg hg2
  · have key : ∀ d, d < n → d ≠ c → ∀ g ∈ G d, g ∉ F' := fun d hd hn g hg hg2 => by
      rcases v.sub g hg2 with r | r
      · exact h.dis d c hd hc hn g hg r
      · have := (h.ws d hd).lt hg; omega
    by_cases e1 : d = c
    · subst e1
      rw [upd_same] at hg
      rw [upd_other _ (fun r => hn r.symm)]
      exact fun hg2 => key e he (fun r => hn r.symm) g hg2 hg
    · rw [upd_other _ e1] at hg
      by_cases e2 : e = c
      · subst e2
        rw [upd_same]
        exact key d hd e1 g hg
      · rw [upd_other _ e2]
        exact h.dis d e hd he hn g hg
  · by_cases e : d = c
    · subst e
      rw [upd_same] at hg
      rcases v.sub g hg with r | r
      · exact h.nb d hd g r
      · exact fun hg2 => by have := h.lt hg2; omega
    · rw [upd_other _ e] at hg
      exact h.nb d hd g hg
  · exact v.fr.mono (Nat.le_refl _) fun k _ hk hk2 => hk (mem_foot.2 (Or.inr ⟨c, hc, hk2⟩))
  · rcases mem_foot.1 hg with r | ⟨d, hd, r⟩
    · exact Or.inl (mem_foot.2 (Or.inl r))
    · by_cases e : d = c
      · subst e
        rw [upd_same] at r
        rcases v.sub g r with r | r
        · exact Or.inl (mem_foot.2 (Or.inr ⟨d, hd, r⟩))
        · exact Or.inr r
      · rw [upd_other _ e] at r
        exact Or.inl (mem_foot.2 (Or.inr ⟨d, hd, r⟩))
/-- The table of numbers is another one. -/
theorem TB.slot {w' : World} (h : TB w t sb sg tb mb n N S K G W O m f) {W' : List Nat} {O' : Nat → Bool} (q : T w' sb sg 48 W' O') (v : Fr w.heap.size [sb, sg] w w') :
    TB w' t sb sg tb mb n N S K G W' O' m f ∧ Mv w w' (foot t sb sg tb mb n G) (foot t sb sg tb mb n G) := by
  have n1 : t ≠ sb := h.st.ne h.sl.sb (by decide)
  have n2 : t ≠ sg := h.st.ne h.sl.sg (by decide)
  have n3 : tb ≠ sb := h.tab.ne h.sl.sb (by decide)
  have n4 : tb ≠ sg := h.tab.ne h.sl.sg (by decide)
  have n5 := h.mp.blk h.sl.sb
  have n6 := h.mp.blk h.sl.sg
  refine ⟨⟨h.st.keep v h.st.lt (by simp [n1, n2]), h.tab.keep v h.tab.lt (by simp [n3, n4]), q, h.mp.keep v h.mp.lt (by simp [n5, n6]), fun c hc => (h.ws c hc).keep v (Nat.le_refl _) fun g hg hg2 => h.nb c hc g hg (by simp at hg2; rcases hg2 with e | e <;> simp [e]), h.dis, h.nb, h.n1, h.n2⟩, v.mono (Nat.le_refl _) fun k _ hk hk2 => hk (mem_foot.2 (Or.inl (by simp at hk2; rcases hk2 with e | e <;> simp [e]))), fun g hg => Or.inl hg⟩
/-- The map is another one. -/
theorem TB.map {w' : World} (h : TB w t sb sg tb mb n N S K G W O m f) {m' : Nat} {f' : Int → Option Int} (q : MQ 3 w' mb m' f') (v : Fr w.heap.size [mb] w w') :
    TB w' t sb sg tb mb n N S K G W O m' f' ∧ Mv w w' (foot t sb sg tb mb n G) (foot t sb sg tb mb n G) := by
  have n1 := h.mp.blk h.st
  have n2 := h.mp.blk h.tab
  have n3 := h.mp.blk h.sl.sb
  have n4 := h.mp.blk h.sl.sg
  refine ⟨⟨h.st.keep v h.st.lt (by simp [n1.symm]), h.tab.keep v h.tab.lt (by simp [n2.symm]), h.sl.keep v ⟨h.sl.sb.lt, h.sl.sg.lt⟩ ⟨by simp [n3.symm], by simp [n4.symm]⟩, q, fun c hc => (h.ws c hc).keep v (Nat.le_refl _) fun g hg hg2 => h.nb c hc g hg (by simp at hg2; simp [hg2]), h.dis, h.nb, h.n1, h.n2⟩, v.mono (Nat.le_refl _) fun k _ hk hk2 => hk (mem_foot.2 (Or.inl (by simp at hk2; simp [hk2]))), fun g hg => Or.inl hg⟩
end

/-- Timers of n cores at the tick now; core c has K c; the blocks are F. -/
def TX (w : World) (t n : Nat) (now : Int) (K : Ks) (F : List Nat) : Prop :=
  ∃ sb sg tb mb S G W O, TB w t sb sg tb mb n (fun _ => now) S K G W O (cnt (oc n K)) (cq n K) ∧ Al n K ∧ (∀ i, 1 ≤ i → i ≤ 48 → O i = oc n K i) ∧ F = foot t sb sg tb mb n G
theorem TX.keep {B : Nat} {Z : List Nat} {w w' : World} {t n : Nat} {now : Int} {K : Ks} {F : List Nat} (h : TX w t n now K F) (k : Fr B Z w w') (hB : w.heap.size ≤ B) (hZ : ∀ g ∈ F, g ∉ Z) : TX w' t n now K F := by
  obtain ⟨sb, sg, tb, mb, S, G, W, O, b, a, o, rfl⟩ := h
  exact ⟨sb, sg, tb, mb, S, G, W, O, b.keep k hB hZ, a, o, rfl⟩
theorem TX.below {w w' : World} {t n : Nat} {now : Int} {K : Ks} {F : List Nat} (h : TX w t n now K F) (k : Below w.heap.size w w') : TX w' t n now K F := h.keep (Fr.of_below k) (Nat.le_refl _) (by simp)
theorem TX.lt {w : World} {t n : Nat} {now : Int} {K : Ks} {F : List Nat} (h : TX w t n now K F) {g : Nat} (hg : g ∈ F) : g < w.heap.size := by
  obtain ⟨sb, sg, tb, mb, S, G, W, O, b, a, o, rfl⟩ := h
  exact b.hi hg
theorem TX.al {w : World} {t n : Nat} {now : Int} {K : Ks} {F : List Nat} (h : TX w t n now K F) : Al n K := by
  obtain ⟨sb, sg, tb, mb, S, G, W, O, b, a, o, rfl⟩ := h
  exact a
theorem TX.n2 {w : World} {t n : Nat} {now : Int} {K : Ks} {F : List Nat} (h : TX w t n now K F) : 1 ≤ n ∧ n ≤ 64 := by
  obtain ⟨sb, sg, tb, mb, S, G, W, O, b, a, o, rfl⟩ := h
  exact ⟨b.n1, b.n2⟩

/-- The wheel of a core. -/
theorem on_yes {w : World} {t tb n : Nat} {S : Nat → Nat} (c : Nat) (hc : (c : Int) < n) (c1 : w.cell? ⟨t, 1, none⟩ = some (.slice (some ⟨tb, 0, none⟩) n n)) (cw : w.cell? ⟨tb, c, none⟩ = some (.pointer (some ⟨S c, 0, none⟩))) :
    Calls Tryd.prog 37 #[.pointer (some ⟨t, 0, none⟩), .int .i64 (c : Int)] w fun e w' => e = .returned (.tuple #[.pointer (some ⟨S c, 0, none⟩), .int .i64 0]) ∧ w' = w := by
  generalize S c = s at *
  go_enter Tryd.func37, Tryd.ntmps37
  go_wp2
  go_ret2
  exact ⟨rfl, rfl⟩
theorem on_no {w : World} {t tb n : Nat} (c : Int) (hc : ¬ isC n c) (c1 : w.cell? ⟨t, 1, none⟩ = some (.slice (some ⟨tb, 0, none⟩) n n)) :
    Calls Tryd.prog 37 #[.pointer (some ⟨t, 0, none⟩), .int .i64 c] w fun e w' => e = .returned (.tuple #[.pointer none, .int .i64 3]) ∧ w' = w := by
  unfold isC at hc
  by_cases q : c < 0
  · go_enter Tryd.func37, Tryd.ntmps37
    go_wp2
    go_ret2
    exact ⟨rfl, rfl⟩
  · have q2 : ¬ c < n := fun z => hc ⟨by omega, z⟩
    go_enter Tryd.func37, Tryd.ntmps37
    go_wp2
    go_ret2
    exact ⟨rfl, rfl⟩
theorem on_nil {w : World} (c : Int) :
    Calls Tryd.prog 37 #[.pointer none, .int .i64 c] w fun e w' => e = .returned (.tuple #[.pointer none, .int .i64 1]) ∧ w' = w := by
  go_enter Tryd.func37, Tryd.ntmps37
  go_wp2
  go_ret2
  exact ⟨rfl, rfl⟩
end Go.Proofs.YtadaghhgmflfdaaDoor
