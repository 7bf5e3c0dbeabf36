/- The texts Aa Ft Ia Ib of one layer, laid together. -/
import Derived.Test.YtfipiifickdeiaaGreatDoorRows
import Derived.Test.YtfipiifickdeiaaGreatDoorXb
import Derived.WalkKit
import Derived.ProofKit
import Derived.OpenShut
import Derived.BigQuiet
import Derived.OwnWalk
import Derived.Deep.Slices
import Derived.Lib.SmallJoins
namespace Go.Proofs.YtfipiifickdeiaaGreatDoor.Aff
open Go.ChangeShapes Go.WideShapes Go.ChangeAt Go.RowKit
open Mm
/-- The cores that one is chosen of. -/
def cS (a b : Nat) : Nat := if a &&& b = 0 then b else a &&& b
/-- The core that is chosen, whether it is forced, and the error. -/
def cN (a b : Nat) (c : Int) : Int := if b = 0 then 0 else if tb (cS a b) c = true then c else ((hd (nx (cS a b) c) : Nat) : Int)
def cF (a b : Nat) : Bool := if b = 0 then false else decide (a &&& b = 0)
end Go.Proofs.YtfipiifickdeiaaGreatDoor.Aff
namespace Go.Proofs.YtfipiifickdeiaaGreatDoor.Aff
open Go.ChangeShapes Go.WideShapes Go.ChangeAt Go.RowKit Go.Deep
end Go.Proofs.YtfipiifickdeiaaGreatDoor.Aff
namespace Go.Proofs.YtfipiifickdeiaaGreatDoor.Aff
open Go.ChangeShapes Go.WideShapes Go.ChangeAt Go.RowKit
open Mm
structure It where
  id : Int
  mask : Nat
  cpu : Int
  forced : Bool
def zi : It := ⟨0, 0, 0, false⟩
def i4 (x : It) : List Value := [.int .i64 x.id, .int .u64 (x.mask : Int), .int .i64 x.cpu, .bool x.forced]
def fi (Y : List It) : List Value := Y.flatMap i4
theorem fi_cons (x : It) (Y : List It) : fi (x :: Y) = i4 x ++ fi Y := rfl
theorem fi_at (Y : List It) (k j : Nat) (h : k < Y.length) (hj : j < 4) : (fi Y)[k * 4 + j]? = (i4 (Y.getD k zi))[j]? := by
  induction Y generalizing k with
  | nil => simp at h
  | cons x r ih =>
    rw [fi_cons]
    cases k with
    | zero => rw [List.getElem?_append_left (by show 0 * 4 + j < 4; omega), Nat.zero_mul, Nat.zero_add]; rfl
    | succ k =>
      rw [List.getElem?_append_right (by show 4 ≤ (k + 1) * 4 + j; omega), show (k + 1) * 4 + j - (i4 x).length = k * 4 + j by show (k + 1) * 4 + j - 4 = _; omega, ih k (by simpa using h)]
      rfl
/-- A slice of such things, as they lie in memory. -/
def IRow (w : World) (v : Value) (Y : List It) : Prop :=
  (Y = [] ∧ ∃ a cap, v = .slice a 0 cap) ∨ ∃ b off cap, v = .slice (some ⟨b, off, none⟩) Y.length cap ∧ b < w.heap.size ∧ ∀ i, i < Y.length → ∀ j, j < 4 → w.cell? ⟨b, off + i * 4 + j, none⟩ = (i4 (Y.getD i zi))[j]?
theorem IRow.shape {w : World} {v : Value} {Y : List It} (h : IRow w v Y) : ∃ a cap, v = .slice a Y.length cap := by
  rcases h with ⟨rfl, a, cap, rfl⟩ | ⟨b, off, cap, rfl, _⟩
  · exact ⟨a, cap, rfl⟩
  · exact ⟨_, cap, rfl⟩
theorem IRow.below {w w' : World} {v : Value} {Y : List It} (h : IRow w v Y) (f : Below w.heap.size w w') : IRow w' v Y := by
  rcases h with h | ⟨b, off, cap, hv, hb, hc⟩
  · exact Or.inl h
  · exact Or.inr ⟨b, off, cap, hv, Nat.lt_of_lt_of_le hb f.size, fun i hi j hj => (f.cell (p := ⟨b, off + i * 4 + j, none⟩) hb).trans (hc i hi j hj)⟩
theorem IRow.heap {w w1 : World} {v : Value} {Y : List It} (h : IRow w v Y) (e : w1.heap = w.heap) : IRow w1 v Y := by
  rcases h with h | ⟨b, off, cap, hv, hb, hc⟩
  · exact Or.inl h
  · exact Or.inr ⟨b, off, cap, hv, by rw [e]; exact hb, fun i hi j hj => (World.cell?_of_block (w := w) (by rw [e])).trans (hc i hi j hj)⟩
/-- What has been gathered so far: v owns it; nothing that was there has turned. -/
structure IG (t : TypeId) (w wr : World) (v : Value) (Y : List It) : Prop where
  own : wr.ownsRow w.heap.size t 4 v Y.length (fi Y)
  bel : Below w.heap.size w wr
theorem IG.row {t : TypeId} {w wr : World} {v : Value} {Y : List It} (g : IG t w wr v Y) : IRow wr v Y := by
  rcases g.own.2 with ⟨hv, hn⟩ | ⟨b, cap, cur, hv, hb, hh, hn, hc, hz, ht⟩
  · exact Or.inl ⟨List.eq_nil_of_length_eq_zero hn, none, 0, hv⟩
  · have o := g.own
    rw [hv] at o
    exact Or.inr ⟨b, 0, cap, hv, lt_of_block hh, fun i hi j hj => by rw [Nat.zero_add, o.cellAt _ (by omega), fi_at Y i j hi hj]⟩
/- What the document says of them. -/
def wrg (b : Nat) (x : It) : Bool := !(tb b x.cpu) || (!(tb x.mask x.cpu) && decide (x.mask &&& b ≠ 0)) || (x.forced == tb x.mask x.cpu)
def rpr (b : Nat) (x : It) : It := ⟨x.id, x.mask, cN x.mask b x.cpu, cF x.mask b⟩
def mend (b : Nat) (Y : List It) : List It := if b = 0 then [] else (Y.filter (wrg b)).map (rpr b)
end Go.Proofs.YtfipiifickdeiaaGreatDoor.Aff
namespace Go.Proofs.YtfipiifickdeiaaGreatDoor.Aff
open Go.ChangeShapes Go.WideShapes Go.ChangeAt Go.RowKit
open Mm
end Go.Proofs.YtfipiifickdeiaaGreatDoor.Aff
