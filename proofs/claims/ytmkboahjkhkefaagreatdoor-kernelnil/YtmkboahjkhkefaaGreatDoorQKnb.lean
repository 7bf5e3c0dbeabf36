/- Contracts of the program's layers, as far as this claim needs them. -/
import Derived.Test.YtmkboahjkhkefaaGreatDoorQKw
set_option linter.unusedVariables false
set_option linter.unusedSimpArgs false
namespace Go.Proofs.YtmkboahjkhkefaaGreatDoor.Krn
open Go.ChangeShapes Go.WideShapes Go.ChangeAt Go.RowKit
open Mm
abbrev Pt := Nat × (KA → Prop) × List Nat
structure NB (S : KS) (w0 w : World) (z : Nat) (cs : List Value) (J : List Pt) : Prop where
  kb : Blk w z cs 86
  bel : Below z w0 w
  p : ∀ j ∈ J, ∀ a, j.2.1 a → Part a S 0 j.1 w j.2.2
  dis : J.Pairwise (fun x y => ∀ g ∈ x.2.2, g ∉ y.2.2)
  gt : ∀ j ∈ J, ∀ g ∈ j.2.2, z < g ∧ g < w.heap.size
  tab : Tab w
  z1 : 1 ≤ z
section
variable {S : KS} {w0 w w' : World} {z : Nat} {cs : List Value} {J : List Pt}
theorem fr_of_below (b : Below w.heap.size w w') : Fr w.heap.size [] w w' := ⟨b.os, b.tape, b.output, b.size, fun k hk _ => b.block k hk⟩
theorem NB.keep (h : NB S w0 w z cs J) {Z : List Nat} (f : Fr w.heap.size Z w w') (hz : z ∉ Z) (h0 : 0 ∉ Z) (hJ : ∀ j ∈ J, ∀ g ∈ j.2.2, g ∉ Z) (hb : Below z w w') : NB S w0 w' z cs J where
  kb := h.kb.keep f h.kb.lt hz
  bel := h.bel.trans hb
  p := fun j hj a c => (h.p j hj a c).keep f (hJ j hj) (fun g hg => (h.gt j hj g hg).2)
  dis := h.dis
  gt := fun j hj g hg => ⟨(h.gt j hj g hg).1, Nat.lt_of_lt_of_le (h.gt j hj g hg).2 f.size⟩
  tab := tab_keep h.tab (by have := h.kb.lt; omega) f h0
  z1 := h.z1
theorem NB.add (h : NB S w0 w z cs J) (b : Below w.heap.size w w') {i : Nat} {c : KA → Prop} {F : List Nat} (np : ∀ a, c a → Part a S 0 i w' F) (ge : ∀ g ∈ F, w.heap.size ≤ g ∧ g < w'.heap.size) : NB S w0 w' z cs ((i, c, F) :: J) := by
  have k := h.keep (fr_of_below b) (by simp) (by simp) (fun _ _ _ _ => by simp) (b.mono (Nat.le_of_lt h.kb.lt))
  have hz := h.kb.lt
  refine ⟨k.kb, k.bel, fun j hj => ?_, List.pairwise_cons.2 ⟨fun y hy g hg hg2 => ?_, k.dis⟩, fun j hj g hg => ?_, k.tab, k.z1⟩
  · rcases List.mem_cons.1 hj with rfl | hj
    · exact np
    · exact k.p j hj
  · have := (h.gt y hy g hg2).2
    have := (ge g hg).1
    omega
  · rcases List.mem_cons.1 hj with rfl | hj
    · have := ge g hg
      exact ⟨by omega, this.2⟩
    · exact k.gt j hj g hg
theorem NB.set (h : NB S w0 w z cs J) (i : Nat) (v : Value) : NB S w0 (w.setCell ⟨z, i, none⟩ v) z (cs.set i v) J := by
  have f : Fr w.heap.size [z] w (w.setCell ⟨z, i, none⟩ v) := (Fr.refl _ _ _).setCell (Or.inr (by simp)) _
  have hz := h.kb.lt
  have hz1 := h.z1
  refine ⟨h.kb.set i v, h.bel.trans ⟨f.os, f.tape, f.output, f.size, fun k hk => f.block k (by omega) (by simp; omega)⟩, fun j hj a c => (h.p j hj a c).keep f (fun g hg e => ?_) (fun g hg => (h.gt j hj g hg).2), h.dis, fun j hj g hg => ⟨(h.gt j hj g hg).1, Nat.lt_of_lt_of_le (h.gt j hj g hg).2 f.size⟩, tab_keep h.tab (by omega) f (by simp; omega), h.z1⟩
  have := (h.gt j hj g hg).1
  simp at e
  omega
end
end Go.Proofs.YtmkboahjkhkefaaGreatDoor.Krn
