/- The texts Kmu of one layer, laid together. -/
import Derived.Test.YtfipiifickdeiaaGreatDoorRows
import Derived.Test.YtfipiifickdeiaaGreatDoorXb
import Derived.ProofKit
import Derived.LaidMore
import Derived.OpenShut
import Derived.Stop.Joined
namespace Go.Proofs.YtfipiifickdeiaaGreatDoor
open Go.ChangeShapes Go.WideShapes Go.ChangeAt Go.WideMaps Go.WideElems Go.RowKit
open Mm
theorem own : ownKnob Tryz.prog.godebug = none := by kernel_rfl
theorem laidOut : laidOutB Tryz.prog = true := by kernel_rfl
theorem gTab : Tryz.prog.globalNamed "math/bits.deBruijn64tab" = some 0 := by kernel_rfl
theorem tTab : (Tryz.prog.globals[0]?).map (·.type) = some 312 := by kernel_rfl
def laidTab : List (String × DataW Unit) := [("math/bits.deBruijn64tab", Rows.laid_math_bits_deBruijn64tab)]
theorem tab_data : (Rows.laid_math_bits_deBruijn64tab : DataW Unit) = .agg (tab.map fun n : Nat => .lit (.int .u8 (n : Int))) := rfl
theorem door_met (os : Os) (args : Array Value) : laidMetH Tryz.prog laidTab ((World.doorLaid Tryz.prog 400 os).forCall (fun _ _ => 0) ⟨#[], args, []⟩).memory :=
  laidMetH_of_parts3 (fuel := 8) (laidMet_of_run' 8 (by kernel_rfl) (by kernel_rfl)) (by kernel_rfl) (by kernel_rfl)
theorem of_laid {W : World} (h : laidMetH Tryz.prog laidTab W) : Tab W ∧ 0 < W.heap.size := by
  rw [MakeChecks.laidMetH_plain _ _ _ (by kernel_rfl)] at h
  obtain ⟨ps, ⟨g0, t0, cs0, f0, p0, q0, hg0, ht0, hv0, hd0, _, _⟩, _, _⟩ := h
  obtain rfl := Option.some.inj (gTab.symm.trans hg0)
  obtain rfl := Option.some.inj (tTab.symm.trans ht0)
  rw [tab_data] at hd0
  obtain ⟨xs, m1, rfl, hx1, hlen, hn3, hel⟩ := DataW.trod_array Tryz.underlying312 hd0
  have c5 : Tryz.prog.cellsOf 5 = 1 := by kernel_rfl
  have hm : tab.map (fun n : Nat => (DataW.lit (Lit.int .u8 (n : Int)) : DataW Unit)) = xs.map fun x => x.1 := by
    simp only [Prod.mk.injEq, DataW.agg.injEq] at hx1
    exact hx1.1
  have hT : Tab W := by
    intro i hi
    have h1 := hel i hi
    have hx : xs[i]? = some xs[i] := List.getElem?_eq_getElem (by omega)
    rw [hx, c5, Nat.mul_one] at h1
    obtain ⟨k, e1, e2, _⟩ := DataW.trod_int Tryz.underlying5 h1
    have h2 : (xs.map fun x => x.1)[i]? = some (DataW.lit (Lit.int .u8 k)) := by
      rw [List.getElem?_map, hx, e2]
      rfl
    rw [← hm, List.getElem?_map] at h2
    have h3 : tab[i]? = some tab[i] := List.getElem?_eq_getElem (by simpa [tab] using hi)
    rw [h3] at h2
    have h4 : ((tab[i] : Nat) : Int) = k := by
      have := Option.some.inj h2
      simpa using this
    have h5 : cs0[i]? = some (.int .u8 k) := by
      have h7 := congrArg (fun l : List Value => l[0]?) e1
      simpa [List.getElem?_take, List.getElem?_drop] using h7
    have h6 := World.var?_cell hg0 hv0 i
    rw [h5] at h6
    rw [List.getD_eq_getElem?_getD, h3]
    rw [Option.getD_some, h4]
    simpa using h6
  refine ⟨hT, ?_⟩
  exact World.block_lt_of_cell? W _ (hT 0 (by omega))
end Go.Proofs.YtfipiifickdeiaaGreatDoor
