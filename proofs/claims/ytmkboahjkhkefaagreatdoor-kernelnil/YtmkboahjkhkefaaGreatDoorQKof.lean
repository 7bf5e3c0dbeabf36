/- Contracts of the program's layers, as far as this claim needs them. -/
import Derived.Test.YtmkboahjkhkefaaGreatDoorQKcl
import Derived.Test.YtmkboahjkhkefaaGreatDoorRows
import Derived.WalkKit
import Derived.ProofKit
import Derived.OpenShut
import Derived.BigQuiet
import Derived.Deep.RegionHeld3
set_option linter.unusedVariables false
set_option linter.unusedSimpArgs false
namespace Go.Proofs.YtmkboahjkhkefaaGreatDoor.Krn
open Go.ChangeShapes Go.WideShapes Go.ChangeAt Go.RowKit
open Mm
section
variable {B : Nat} {w0 : World} {A : List (Nat × List Value × TypeId)} {a : KA} {m m' : Nat} {S S' : KS} {w w' : World}
theorem KX.at {z : Nat} (h : KX B w0 A a m S w) (hz : w.heap.size = z) (cs : List Value) (ty : TypeId) : KX B w0 ((z, cs, ty) :: A) a m S (w.alloc (.cells cs.toArray ty)) := hz ▸ h.new cs ty
def AnsV (B : Nat) (w0 : World) (a : KA) (A : List (Nat × List Value × TypeId)) (m m' : Nat) (S : KS) (r : Int × Int × KS) (v : Value) : Prop :=
  ∃ f fs cap, v = .func (.func f) fs cap ∧ Fnc f ∧ ((fs = #[] ∧ Ansr B w0 a A f cap m m' S r) ∨ (cap = #[] ∧ ∃ p, fs = #[p] ∧ Ansr B w0 a A f #[p] m m' S r))
def OfP (B : Nat) (w0 : World) (a : KA) (A : List (Nat × List Value × TypeId)) (m m' : Nat) (S : KS) (r : Int × Int × KS) (e : Ending) (w' : World) : Prop :=
  ∃ v X, e = .returned v ∧ KX B w0 (X ++ A) a m S w' ∧ AnsV B w0 a (X ++ A) m m' S r v
theorem OfP.mk {v : Value} {X : List (Nat × List Value × TypeId)} {r : Int × Int × KS} (h : KX B w0 (X ++ A) a m S w') (c : AnsV B w0 a (X ++ A) m m' S r v) : OfP B w0 a A m m' S r (.returned v) w' := ⟨v, X, rfl, h, c⟩
theorem AnsV.mk {f : Nat} {cap : Array Value} {r : Int × Int × KS} (hf : Fnc f) (C : Ansr B w0 a A f cap m m' S r) : AnsV B w0 a A m m' S r (.func (.func f) #[] cap) := ⟨f, #[], cap, rfl, hf, Or.inl ⟨rfl, C⟩⟩
theorem fnc_92 : Fnc 92 := fnc_of Tryz.func92 (by decide) rfl
end
end Go.Proofs.YtmkboahjkhkefaaGreatDoor.Krn
