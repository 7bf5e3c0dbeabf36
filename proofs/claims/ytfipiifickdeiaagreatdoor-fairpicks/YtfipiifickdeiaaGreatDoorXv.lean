/- The texts Math Bits Div Share Nv Gf Gg Gh of one layer, laid together. -/
import Derived.Test.YtfipiifickdeiaaGreatDoorRows
import Derived.Test.YtfipiifickdeiaaGreatDoorXa
import Derived.Test.YtfipiifickdeiaaGreatDoorXl
import Derived.Lib.BitFns
import Derived.WalkKit
import Derived.ProofKit
import Derived.OpenShut
import Derived.Laws.Bits64b
import Derived.Lib.Mul64
import Derived.BigQuiet
import Derived.Deep.RegionHeld3
namespace Go.Proofs.YtfipiifickdeiaaGreatDoor.Ma
end Go.Proofs.YtfipiifickdeiaaGreatDoor.Ma
namespace Go.Proofs.YtfipiifickdeiaaGreatDoor.Frq
open Go.ChangeShapes Go.WideShapes Go.ChangeAt Go.RowKit
open Ma
theorem ret_int {k : IntKind} {a b : Int} (h : a = b) : Ending.returned (.int k a) = .returned (.int k b) := by rw [h]
end Go.Proofs.YtfipiifickdeiaaGreatDoor.Frq
namespace Go.Proofs.YtfipiifickdeiaaGreatDoor.Frq
open Go.ChangeShapes Go.WideShapes Go.ChangeAt Go.RowKit
open Ma
end Go.Proofs.YtfipiifickdeiaaGreatDoor.Frq
namespace Go.Proofs.YtfipiifickdeiaaGreatDoor.Frq
open Go.ChangeShapes Go.WideShapes Go.ChangeAt Go.RowKit
open Ma
/-- How many hundredths of a whole a part is. -/
def pc (a b : Int) : Int := if a < 1 ∨ b < 1 then 0 else if b ≤ a then 100 else ((a.toNat * 100 / b.toNat : Nat) : Int)
/-- So many hundredths of the way from one number to another one. -/
def sc (low high p : Int) : Int := if high < low ∨ p < 1 then low else if 100 ≤ p then high else low + (((high - low).toNat * p.toNat / 100 : Nat) : Int)
end Go.Proofs.YtfipiifickdeiaaGreatDoor.Frq
namespace Go.Proofs.YtfipiifickdeiaaGreatDoor.Frq
end Go.Proofs.YtfipiifickdeiaaGreatDoor.Frq
namespace Go.Proofs.YtfipiifickdeiaaGreatDoor.Frq
open Go.ChangeShapes Go.WideShapes Go.ChangeAt Go.RowKit
structure Fq where
  b : Int
  a : Int
def fz : Fq := ⟨0, 0⟩
def fq : Lay Fq where
  n := 2
  f := fun x => [.int .i64 x.b, .int .i64 x.a]
  z := fz
  len := fun _ => rfl
  one := fun x u hu => by
    simp only [List.mem_cons, List.not_mem_nil, or_false] at hu
    rcases hu with rfl | rfl <;> rfl
  pos := by decide
/-- A feed that can be. -/
def Fok (x : Fq) : Prop := 0 ≤ x.b ∧ x.b ≤ x.a ∧ x.a ≤ 1099511627776
def sb : List Fq → Int
  | [] => 0
  | x :: r => x.b + sb r
def sa : List Fq → Int
  | [] => 0
  | x :: r => x.a + sa r
/-- As they stand in the array where the eldest one is at place p. -/
def arr (p : Nat) (q : List Fq) : List Fq := q.drop (4 - p) ++ q.take (4 - p)
/-- The last four of all. -/
def lf (Y : List Fq) : List Fq := (List.replicate 4 fz ++ Y).drop Y.length
/-- Limits that can be. -/
def Lim (lo hi : Int) : Prop := 1 ≤ lo ∧ lo ≤ hi ∧ hi ≤ 100000
/-- The frequency. -/
def bz (q : List Fq) : Int := pc (sb q) (sa q)
def fr (lo hi : Int) (q : List Fq) : Int := sc lo hi (bz q)
end Go.Proofs.YtfipiifickdeiaaGreatDoor.Frq
namespace Go.Proofs.YtfipiifickdeiaaGreatDoor.Frq
open Go.ChangeShapes Go.WideShapes Go.ChangeAt Go.RowKit
/-- A governor at block s: its limits, its last four feeds, the eldest one ahead, which stands at place p. -/
structure PG (w : World) (s : Nat) (lo hi : Int) (q : List Fq) (p : Nat) : Prop where
  sb : Blk w s ([.int .i64 lo, .int .i64 hi] ++ fq.all (arr p q) ++ [.int .i64 (p : Int)]) 179
  ln : q.length = 4
  pl : p < 4
  ok : ∀ x ∈ q, Fok x
section
variable {w w1 : World} {s p : Nat} {lo hi : Int} {q : List Fq}
theorem PG.heap (h : PG w s lo hi q p) (e : w1.heap = w.heap) : PG w1 s lo hi q p := ⟨h.sb.heap e, h.ln, h.pl, h.ok⟩
theorem PG.keep {B : Nat} {S : List Nat} (h : PG w s lo hi q p) (k : Fr B S w w1) (hb : s < B) (hs : s ∉ S) : PG w1 s lo hi q p := ⟨h.sb.keep k hb hs, h.ln, h.pl, h.ok⟩
theorem PG.below (h : PG w s lo hi q p) (k : Below w.heap.size w w1) : PG w1 s lo hi q p := h.keep (Fr.of_below k) h.sb.lt (by simp)
theorem PG.c0 (h : PG w s lo hi q p) : w.cell? ⟨s, 0, none⟩ = some (.int .i64 lo) := h.sb.cell 0
theorem PG.c1 (h : PG w s lo hi q p) : w.cell? ⟨s, 1, none⟩ = some (.int .i64 hi) := h.sb.cell 1
theorem PG.f0 (h : PG w s lo hi q p) : w.frozen? ⟨s, 0, none⟩ = false := h.sb.free 0
theorem PG.f1 (h : PG w s lo hi q p) : w.frozen? ⟨s, 1, none⟩ = false := h.sb.free 1
theorem pg_set (h : PG w s lo hi q p) (a b : Int) : PG ((w.setCell ⟨s, 0, none⟩ (.int .i64 a)).setCell ⟨s, 1, none⟩ (.int .i64 b)) s a b q p :=
  ⟨(h.sb.set 0 _).set 1 _, h.ln, h.pl, h.ok⟩
end
end Go.Proofs.YtfipiifickdeiaaGreatDoor.Frq
namespace Go.Proofs.YtfipiifickdeiaaGreatDoor.Frq
open Go.ChangeShapes Go.WideShapes Go.ChangeAt Go.RowKit
theorem gset_ok {s p : Nat} {lo hi : Int} {q : List Fq} (a b : Int) (w : World) (h : PG w s lo hi q p) (hl : Lim a b) :
    Calls Tryz.prog 53 #[.pointer (some ⟨s, 0, none⟩), .int .i64 a, .int .i64 b] w fun e w' => e = .returned (.int .i64 0) ∧ PG w' s a b q p ∧ Fr w.heap.size [s] w w' := by
  have f0 := h.f0
  have f1 := h.f1
  have c0 := h.c0
  have c1 := h.c1
  have G : Hid _ := pg_set h a b
  have F : Hid (∀ u v, Fr w.heap.size [s] w ((w.setCell ⟨s, 0, none⟩ u).setCell ⟨s, 1, none⟩ v)) := fun u v => ((Fr.refl _ _ _).setCell (Or.inr (by simp)) _).setCell (Or.inr (by simp)) _
  unfold Lim at hl
  obtain ⟨l1, l2, l3⟩ := hl
  clear h
  go_enter Tryz.func53, Tryz.ntmps53
  go_wp2
  go_ret
  exact ⟨rfl, G.out, F.out _ _⟩
theorem pg_zero (w : World) : PG (w.alloc (.cells #[.int .i64 0, .int .i64 0, .int .i64 0, .int .i64 0, .int .i64 0, .int .i64 0, .int .i64 0, .int .i64 0, .int .i64 0, .int .i64 0, .int .i64 0] 179)) w.heap.size 0 0 (lf []) 0 :=
  ⟨Blk.new w [.int .i64 0, .int .i64 0, .int .i64 0, .int .i64 0, .int .i64 0, .int .i64 0, .int .i64 0, .int .i64 0, .int .i64 0, .int .i64 0, .int .i64 0] _, rfl, by decide, fun x hx => by
    have : x = fz := by simpa [lf] using hx
    rw [this]
    exact ⟨by decide, by decide, by decide⟩⟩
theorem gnew_ok (a b : Int) (w : World) (hl : Lim a b) :
    Calls Tryz.prog 31 #[.int .i64 a, .int .i64 b] w fun e w' => e = .returned (.tuple #[.pointer (some ⟨w.heap.size, 0, none⟩), .int .i64 0]) ∧ PG w' w.heap.size a b (lf []) 0 ∧ Below w.heap.size w w' := by
  have B : Hid (Below w.heap.size w (w.alloc (.cells #[.int .i64 0, .int .i64 0, .int .i64 0, .int .i64 0, .int .i64 0, .int .i64 0, .int .i64 0, .int .i64 0, .int .i64 0, .int .i64 0, .int .i64 0] 179))) := (Below.refl _ _).alloc (Nat.le_refl _) _
  have C : Hid (∀ _ : Unit, _) := fun _ => gset_ok a b _ (pg_zero w) hl
  clear hl
  go_enter Tryz.func31, Tryz.ntmps31
  go_wp2_with fail
  refine (C.out ()).mono ?_
  rintro e w' ⟨rfl, g, f⟩
  have G : Hid (PG w' w.heap.size a b (lf []) 0 ∧ Below w.heap.size w w') := ⟨g, fr_own B.out f (by simp) (by simp)⟩
  clear g f
  go_wp2
  go_ret2
  exact ⟨rfl, G.out.1, G.out.2⟩
end Go.Proofs.YtfipiifickdeiaaGreatDoor.Frq
