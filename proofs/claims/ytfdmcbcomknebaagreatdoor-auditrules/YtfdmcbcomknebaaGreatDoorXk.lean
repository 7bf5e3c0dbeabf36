/- The texts Ek El of one layer, laid together. -/
import Derived.Test.YtfdmcbcomknebaaGreatDoorRows
import Derived.Test.YtfdmcbcomknebaaGreatDoorXb
import Derived.WalkKit
import Derived.ProofKit
import Derived.OpenShut
import Derived.BigQuiet
import Derived.Deep.RegionHeld3
namespace Go.Proofs.YtfdmcbcomknebaaGreatDoor.Ek
open Mm
/-- It has begun while there is a core in either set. -/
def onB (l h : Nat) : Bool := !(l ||| h == 0)
def beE (l h x : Nat) : Int := if onB l h = true then 7 else if x = 0 then 2 else 0
def beL (l h x : Nat) : Nat := if beE l h x = 0 then x else l
def acL (l : Nat) (c : Int) : Nat := if tb l c = true then nt l (bv c) else l
def acH (l h : Nat) (c : Int) : Nat := if tb l c = true then h ||| bv c else h
def rdB (l h : Nat) : Bool := onB l h && l == 0
/-- Sets of cores 0 to 63. -/
def W2 (l h : Nat) : Prop := l < 18446744073709551616 ∧ h < 18446744073709551616
/-- The document's: it has begun, for those of m, of whom those of k stand still. -/
structure Rel (l h : Nat) (on : Bool) (m k : Nat) : Prop where
  off : on = false → l = 0 ∧ h = 0
  is : on = true → l = nt m k ∧ h = k ∧ m ≠ 0 ∧ ∀ i, k.testBit i = true → m.testBit i = true
  wm : m < 18446744073709551616
  wk : k < 18446744073709551616
section
variable {l h m k : Nat} {on : Bool}
theorem Rel.w2 (r : Rel l h on m k) : W2 l h := by
  cases on
  · obtain ⟨rfl, rfl⟩ := r.off rfl
    exact ⟨by omega, by omega⟩
  · obtain ⟨rfl, rfl, _⟩ := r.is rfl
    exact ⟨nt_lt _ _, r.wk⟩
theorem Rel.held (r : Rel l h on m k) (c : Int) : tb h c = (on && tb k c) := by
  cases on
  · obtain ⟨rfl, rfl⟩ := r.off rfl
    simp [tb]
  · obtain ⟨_, rfl, _⟩ := r.is rfl
    rw [Bool.true_and]
theorem Rel.left (r : Rel l h on m k) : l = if on then nt m k else 0 := by
  cases on
  · exact (r.off rfl).1
  · exact (r.is rfl).1
end
end Go.Proofs.YtfdmcbcomknebaaGreatDoor.Ek
namespace Go.Proofs.YtfdmcbcomknebaaGreatDoor.Stp
open Go.ChangeShapes Go.WideShapes Go.ChangeAt Go.RowKit
open Mm Ek
/-- A stop at block s: those that are to and do not yet, and those that do. -/
structure ST (w : World) (s l h : Nat) : Prop where
  sb : Blk w s [.int .u64 (l : Int), .int .u64 (h : Int)] 80
  w2 : W2 l h
section
variable {w w1 : World} {s l h : Nat}
theorem ST.c0 (q : ST w s l h) : w.cell? ⟨s, 0, none⟩ = some (.int .u64 (l : Int)) := q.sb.cell 0
theorem ST.c1 (q : ST w s l h) : w.cell? ⟨s, 1, none⟩ = some (.int .u64 (h : Int)) := q.sb.cell 1
theorem ST.f1 (q : ST w s l h) : w.frozen? ⟨s, 1, none⟩ = false := q.sb.free 1
theorem ST.heap (q : ST w s l h) (e : w1.heap = w.heap) : ST w1 s l h := ⟨q.sb.heap e, q.w2⟩
theorem ST.keep {B : Nat} {S : List Nat} (q : ST w s l h) (k : Fr B S w w1) (hb : s < B) (hs : s ∉ S) : ST w1 s l h := ⟨q.sb.keep k hb hs, q.w2⟩
end
end Go.Proofs.YtfdmcbcomknebaaGreatDoor.Stp
