/- A number in parts in the middle of a law. -/
import Derived.Test.YtaomcakgeiiclabRows
import Derived.Test.YtaomcakgeiiclabPb
import Derived.Test.YtaomcakgeiiclabFo
namespace Go.Proofs.Ytaomcakgeiiclab
open Go.ChangeShapes Go.WideShapes Go.ChangeAt Go.RowKit
open Pm

structure PF (w wr : World) (s : Nat) (L : List Int) : Prop where
  sl : SL wr (s + 1) s L
  bel : Below s w wr

theorem PF.lt {w wr : World} {s : Nat} {L : List Int} (h : PF w wr s L) : s + 1 < wr.heap.size := h.sl.sb.lt
theorem PF.alloc {w wr : World} {s : Nat} {L : List Int} (h : PF w wr s L) (o : Obj) : PF w (wr.alloc o) s L := by
  have := h.lt
  exact ⟨h.sl.keep ((Fr.refl wr.heap.size [] wr).alloc (Nat.le_refl _) o) ⟨h.sl.sb.lt, h.sl.sg.lt⟩ ⟨by simp, by simp⟩, h.bel.trans (((Fr.refl s [] wr).alloc (by omega) o).below (by simp))⟩
theorem PF.act {w w1 w2 : World} {s : Nat} {L L2 : List Int} (h : PF w w1 s L) (k : SL w2 (s + 1) s L2) (f : Fr w1.heap.size [s] w1 w2) : PF w w2 s L2 := by
  have := h.lt
  exact ⟨k, h.bel.trans ((f.less (by omega)).below (by simp))⟩
end Go.Proofs.Ytaomcakgeiiclab
