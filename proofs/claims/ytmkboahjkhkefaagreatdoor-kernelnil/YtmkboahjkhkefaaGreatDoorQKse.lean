/- Contracts of the program's layers, as far as this claim needs them. -/
import Derived.Test.YtmkboahjkhkefaaGreatDoorQKs
import Derived.Test.YtmkboahjkhkefaaGreatDoorRows
import Derived.WalkKit
import Derived.ProofKit
import Derived.OpenShut
import Derived.BigQuiet
import Derived.Deep.RegionHeld3
set_option linter.unusedVariables false
set_option linter.unusedSimpArgs false
namespace Go.Proofs.YtmkboahjkhkefaaGreatDoor.Krn
open Go.ChangeShapes Go.WideShapes Go.ChangeAt Go.RowKit
open Mm
section
variable {B : Nat} {w0 : World} {A : List (Nat × List Value × TypeId)} {a : KA} {m m' : Nat} {S S' : KS} {w w' : World}
theorem KX.setb {b : Nat} {cs : List Value} {t : TypeId} (h : KX B w0 ((b, cs, t) :: A) a m S w) (ne : ∀ x ∈ A, x.1 ≠ b) (hb : B ≤ b) (i : Nat) (v : Value) : KX B w0 ((b, cs.set i v, t) :: A) a m S (w.setCell ⟨b, i, none⟩ v) := by
  obtain ⟨F, K, hB, hA⟩ := h.ex
  have f : Fr w.heap.size [b] w (w.setCell ⟨b, i, none⟩ v) := (Fr.refl _ _ _).setCell (Or.inr (by simp)) _
  have hs := h.sz
  have h1 := h.b1
  have hz : ∀ i, i < 16 → ∀ g ∈ F i, g ∉ [b] := fun j hj g hg e => by
    rw [List.mem_singleton.1 e] at hg
    exact hA (b, cs, t) (by simp) j hj hg
  refine ⟨⟨F, ⟨fun j hj => (K.p j hj).keep f (hz j hj) (K.lt j hj), K.dis, fun j hj k hk => Nat.lt_of_lt_of_le (K.lt j hj k hk) f.size⟩, hB, fun x hx j hj => ?_⟩, fun x hx => ?_, ?_, Nat.le_trans hs f.size, h1, ?_, h.n1, h.n2⟩
  · rcases List.mem_cons.1 hx with rfl | hx
    · exact hA (b, cs, t) (by simp) j hj
    · exact hA x (List.mem_cons_of_mem _ hx) j hj
  · rcases List.mem_cons.1 hx with rfl | hx
    · exact h.blk.set i v
    · exact (h.bx x (List.mem_cons_of_mem _ hx)).keep f (h.bx x (List.mem_cons_of_mem _ hx)).lt (by simp; exact ne x hx)
  · exact h.bel.trans ((f.less hs).below fun k hk => by rw [List.mem_singleton.1 hk]; exact hb)
  · exact tab_keep h.tab (by omega) f (by simp; omega)
theorem results_one {fn : Func} {p : Tmp} {ty : TypeId} (h : fn.results = #[.cell p ty]) (tmps : Array Value) (P : Program) (w : World) :
    (results fn tmps).run P w = ((asAddr (tmps.getD p undef)).run P w).andThen fun a w₁ => (loadVar ty a).run P w₁ := by
  simp only [results, h]
  simp [Sem.run_bind, Result.andThen]
end
end Go.Proofs.YtmkboahjkhkefaaGreatDoor.Krn
