/- Both tables of interrupts and the act that is played (in a block of its own): what each call of law 15 leaves of them. -/
import Derived.Test.YthhgmnkgeombhaaBj
import Derived.Test.YthhgmnkgeombhaaFi
import Derived.WalkKit
import Derived.ProofKit
import Derived.OpenShut
import Derived.BigQuiet
namespace Go.Proofs.Ythhgmnkgeombhaa
open Go.ChangeShapes Go.WideShapes Go.ChangeAt Go.RowKit
open Mm Bm

/-- Both tables, and an act at block z. -/
structure PZ (w wr : World) (s g c : Nat) (X : Nat → Iq) (z : Nat) (y0 y1 : Int) (y2 : Nat) : Prop where
  bp : BP w wr s g c X
  bz : Blk wr z [.int .i64 y0, .int .i64 y1, .int .u64 (y2 : Int)] 33
  zg : g + 1 < z

theorem PZ.cells {w wr : World} {s g c : Nat} {X : Nat → Iq} {z : Nat} {y0 y1 : Int} {y2 : Nat} (h : PZ w wr s g c X z y0 y1 y2) : wr.cell? ⟨z, 0, none⟩ = some (.int .i64 y0) ∧ wr.cell? ⟨z, 1, none⟩ = some (.int .i64 y1) ∧ wr.cell? ⟨z, 2, none⟩ = some (.int .u64 (y2 : Int)) :=
  ⟨h.bz.cell 0, h.bz.cell 1, h.bz.cell 2⟩
theorem PZ.keep {w wr w1 : World} {s g c : Nat} {X : Nat → Iq} {z : Nat} {y0 y1 : Int} {y2 : Nat} (h : PZ w wr s g c X z y0 y1 y2) (f : Below wr.heap.size wr w1) : PZ w w1 s g c X z y0 y1 y2 :=
  ⟨h.bp.keep f, h.bz.keep (Fr.of_below f) h.bz.lt (by simp), h.zg⟩
theorem PZ.sm {w wr w1 : World} {s g c : Nat} {X : Nat → Iq} {z : Nat} {y0 y1 : Int} {y2 : Nat} (h : PZ w wr s g c X z y0 y1 y2) (e : Sm w1 wr) : PZ w w1 s g c X z y0 y1 y2 :=
  h.keep (e.below (Below.refl _ _))
theorem PZ.new {w wr : World} {s g c : Nat} {X : Nat → Iq} (h : BP w wr s g c X) (y0 y1 : Int) (y2 : Nat) : PZ w (wr.alloc (.cells #[.int .i64 y0, .int .i64 y1, .int .u64 (y2 : Int)] 33)) s g c X wr.heap.size y0 y1 y2 :=
  ⟨h.keep ((Below.refl _ _).alloc (Nat.le_refl _) _), Blk.new wr [.int .i64 y0, .int .i64 y1, .int .u64 (y2 : Int)] _, by have := h.size; omega⟩

theorem pz_do {w v1 w1 : World} {s g c : Nat} {X : Nat → Iq} {z : Nat} {y0 y1 : Int} {y2 : Nat} (hy : y2 < 18446744073709551616) (h : PZ w v1 s g c X z y0 y1 y2) (e : Sm w1 v1) :
    Calls Try.prog 12 #[.pointer (some ⟨s, 0, none⟩), .pointer (some ⟨g + 1, 0, none⟩), .agg #[.int .i64 y0, .int .i64 y1, .int .u64 (y2 : Int)]] w1 fun r w' => r = .returned (.bool true) ∧ ∃ X', PZ w w' s g c X' z y0 y1 y2 := by
  have h1 := h.sm e
  refine (iqdo_any y0 y1 y2 hy w1 h1.bp).mono fun r w' ⟨r1, X', r2, r3⟩ => ⟨r1, X', r2, h1.bz.keep r3 h1.bz.lt ?_, h.zg⟩
  have := h.zg
  have := h.bp.sg
  simp
  omega
theorem pz_ready {w v1 w1 : World} {s g c : Nat} {X : Nat → Iq} {z : Nat} {y0 y1 : Int} {y2 : Nat} {n : Int} (h : PZ w v1 s g c X z y0 y1 y2) (e : Sm w1 v1) :
    Calls Try.prog 13 #[.pointer (some ⟨s, 0, none⟩), .int .i64 n] w1 fun r w' => r = .returned (.bool (rdB X n)) ∧ PZ w w' s g c X z y0 y1 y2 :=
  (iqready_any n w1 (h.sm e).bp.q).mono fun _ _ ⟨r1, r2⟩ => ⟨r1, (h.sm e).keep r2⟩
theorem pz_rready {w v1 w1 : World} {s g c : Nat} {X : Nat → Iq} {z : Nat} {y0 y1 : Int} {y2 : Nat} {n : Int} (h : PZ w v1 s g c X z y0 y1 y2) (e : Sm w1 v1) :
    Calls Try.prog 14 #[.pointer (some ⟨g + 1, 0, none⟩), .int .i64 n] w1 fun r w' => r = .returned (.bool (rdB X n)) ∧ PZ w w' s g c X z y0 y1 y2 :=
  (riready_any n w1 (h.sm e).bp.r).mono fun _ _ ⟨r1, r2⟩ => ⟨r1, by rw [r2]; exact h.sm e⟩
theorem pz_is {w v1 w1 : World} {s g c : Nat} {X : Nat → Iq} {z : Nat} {y0 y1 : Int} {y2 : Nat} {n : Int} (h : PZ w v1 s g c X z y0 y1 y2) (e : Sm w1 v1) :
    Calls Try.prog 19 #[.pointer (some ⟨g + 1, 0, none⟩), .int .i64 n] w1 fun r w' => r = .returned (.bool (is n)) ∧ PZ w w' s g c X z y0 y1 y2 :=
  (riis_any n w1 (h.sm e).bp.r).mono fun _ _ ⟨r1, r2⟩ => ⟨r1, by rw [r2]; exact h.sm e⟩
theorem pz_list {w v1 w1 : World} {s g c : Nat} {X : Nat → Iq} {z : Nat} {y0 y1 : Int} {y2 : Nat} (h : PZ w v1 s g c X z y0 y1 y2) (e : Sm w1 v1) :
    Calls Try.prog 16 #[.pointer (some ⟨s, 0, none⟩)] w1 fun r w' => ∃ a n cap, r = .returned (.slice a n cap) ∧ PZ w w' s g c X z y0 y1 y2 ∧ Row w' (.slice a n cap) (KK (fun i => (X i).wt) 16) := by
  refine (iqlist_any w1 (h.sm e).bp.q).mono fun _ w' ⟨v, r1, r2⟩ => ?_
  obtain ⟨a, cap, rfl⟩ := own_shape r2.own
  exact ⟨a, _, cap, r1, (h.sm e).keep r2.bel, gat_row r2⟩
theorem pz_rlist {w v1 w1 : World} {s g c : Nat} {X : Nat → Iq} {z : Nat} {y0 y1 : Int} {y2 : Nat} {v : Value} {xs : List Int} (h : PZ w v1 s g c X z y0 y1 y2) (q : Row v1 v xs) (e : Sm w1 v1) :
    Calls Try.prog 17 #[.pointer (some ⟨g + 1, 0, none⟩)] w1 fun r w' => ∃ a n cap, r = .returned (.slice a n cap) ∧ PZ w w' s g c X z y0 y1 y2 ∧ Row w' v xs ∧ Row w' (.slice a n cap) (KK (fun i => (X i).wt) 16) := by
  refine (rilist_any w1 (h.sm e).bp.r).mono fun _ w' ⟨v, r1, r2⟩ => ?_
  obtain ⟨a, cap, rfl⟩ := own_shape r2.own
  have f : Below v1.heap.size v1 w' := by have := e.from r2.bel; rwa [e.1] at this
  exact ⟨a, _, cap, r1, (h.sm e).keep r2.bel, q.keep (Fr.of_below f) (Nat.le_refl _), gat_row r2⟩
theorem pz_ints {w v1 w1 : World} {s g c : Nat} {X : Nat → Iq} {z : Nat} {y0 y1 : Int} {y2 : Nat} {v v' : Value} {p : Nat → Bool} (h : PZ w v1 s g c X z y0 y1 y2) (q : Row v1 v (KK p 16)) (q' : Row v1 v' (KK p 16)) (e : Sm w1 v1) :
    Calls Try.prog 15 #[v, v'] w1 fun r w' => r = .returned (.bool true) ∧ PZ w w' s g c X z y0 y1 y2 := by
  have f : Fr v1.heap.size [] v1 w1 := Fr.of_below (e.below (Below.refl _ _))
  refine (ints_any (KK p 16) v v' w1 (by have := KK_le p 16; omega) (q.keep f (Nat.le_refl _)) (q'.keep f (Nat.le_refl _))).mono fun _ w' ⟨r1, n, r2⟩ => ⟨r1, ?_⟩
  rw [r2]
  exact (h.sm e).sm ⟨rfl, rfl, rfl, rfl⟩
theorem pz_get {w v1 w1 : World} {s g c : Nat} {X : Nat → Iq} {z : Nat} {y0 y1 : Int} {y2 : Nat} {n : Int} (h : PZ w v1 s g c X z y0 y1 y2) (e : Sm w1 v1) :
    Calls Try.prog 18 #[.pointer (some ⟨s, 0, none⟩), .int .i64 n] w1 fun r w' => r = .returned (.tuple #[iqv (gtX X n), .int .i64 (atE n)]) ∧ PZ w w' s g c X z y0 y1 y2 :=
  (iqget_any n w1 (h.sm e).bp.q).mono fun _ _ ⟨r1, r2⟩ => ⟨r1, (h.sm e).keep r2⟩

/-- With the interrupt that was told, at block x. -/
structure PX (w wr : World) (s g c : Nat) (X : Nat → Iq) (z : Nat) (y0 y1 : Int) (y2 : Nat) (x : Nat) (t : Iq) : Prop where
  pz : PZ w wr s g c X z y0 y1 y2
  bx : Blk wr x [.bool t.wt, .bool t.ms, .bool t.pd, .int .u64 (t.bs : Int)] 41

theorem PX.keep {w wr w1 : World} {s g c : Nat} {X : Nat → Iq} {z : Nat} {y0 y1 : Int} {y2 x : Nat} {t : Iq} (h : PX w wr s g c X z y0 y1 y2 x t) (f : Below wr.heap.size wr w1) : PX w w1 s g c X z y0 y1 y2 x t :=
  ⟨h.pz.keep f, h.bx.keep (Fr.of_below f) h.bx.lt (by simp)⟩
theorem PX.sm {w wr w1 : World} {s g c : Nat} {X : Nat → Iq} {z : Nat} {y0 y1 : Int} {y2 x : Nat} {t : Iq} (h : PX w wr s g c X z y0 y1 y2 x t) (e : Sm w1 wr) : PX w w1 s g c X z y0 y1 y2 x t :=
  h.keep (e.below (Below.refl _ _))
theorem PX.new {w wr : World} {s g c : Nat} {X : Nat → Iq} {z : Nat} {y0 y1 : Int} {y2 : Nat} (h : PZ w wr s g c X z y0 y1 y2) (t : Iq) : PX w (wr.alloc (.cells #[.bool t.wt, .bool t.ms, .bool t.pd, .int .u64 (t.bs : Int)] 41)) s g c X z y0 y1 y2 wr.heap.size t :=
  ⟨h.keep ((Below.refl _ _).alloc (Nat.le_refl _) _), Blk.new wr [.bool t.wt, .bool t.ms, .bool t.pd, .int .u64 (t.bs : Int)] _⟩
theorem PX.no {w wr : World} {s g c : Nat} {X : Nat → Iq} {z : Nat} {y0 y1 : Int} {y2 x : Nat} {t : Iq} (h : PX w wr s g c X z y0 y1 y2 x t) : wr.cell? ⟨z, 1, none⟩ = some (.int .i64 y1) := h.pz.bz.cell 1
theorem PX.yes {w wr : World} {s g c : Nat} {X : Nat → Iq} {z : Nat} {y0 y1 : Int} {y2 x i : Nat} {t : Iq} (h : PX w wr s g c X z y0 y1 y2 x t) (hi : i < 16) (ht : X i = t) :
    wr.cell? ⟨z, 1, none⟩ = some (.int .i64 y1) ∧ wr.cell? ⟨x, 0, none⟩ = some (.bool t.wt) ∧ wr.cell? ⟨x, 1, none⟩ = some (.bool t.ms) ∧ wr.cell? ⟨x, 2, none⟩ = some (.bool t.pd) ∧ wr.cell? ⟨x, 3, none⟩ = some (.int .u64 (t.bs : Int)) ∧ wr.cell? ⟨g + 1, 1, none⟩ = some (.slice (some ⟨g, 0, none⟩) 16 16) ∧ wr.cell? ⟨g, i * 4, none⟩ = some (.bool t.wt) ∧ wr.cell? ⟨g, i * 4 + 1, none⟩ = some (.bool t.ms) ∧ wr.cell? ⟨g, i * 4 + 2, none⟩ = some (.bool t.pd) ∧ wr.cell? ⟨g, i * 4 + 3, none⟩ = some (.int .u64 (t.bs : Int)) := by
  subst ht
  exact ⟨h.pz.bz.cell 1, h.bx.cell 0, h.bx.cell 1, h.bx.cell 2, h.bx.cell 3, h.pz.bp.r.k1, h.pz.bp.r.four hi⟩
theorem px_is {w v1 w1 : World} {s g c : Nat} {X : Nat → Iq} {z : Nat} {y0 y1 : Int} {y2 x : Nat} {t : Iq} {n : Int} (h : PX w v1 s g c X z y0 y1 y2 x t) (e : Sm w1 v1) :
    Calls Try.prog 19 #[.pointer (some ⟨g + 1, 0, none⟩), .int .i64 n] w1 fun r w' => r = .returned (.bool (is n)) ∧ PX w w' s g c X z y0 y1 y2 x t :=
  (riis_any n w1 (h.sm e).pz.bp.r).mono fun _ _ ⟨r1, r2⟩ => ⟨r1, by rw [r2]; exact h.sm e⟩
theorem px_same {w v1 w1 : World} {s g c : Nat} {X : Nat → Iq} {z : Nat} {y0 y1 : Int} {y2 x : Nat} {t : Iq} (h : PX w v1 s g c X z y0 y1 y2 x t) (e : Sm w1 v1) :
    Calls Try.prog 20 #[.agg #[.bool t.wt, .bool t.ms, .bool t.pd, .int .u64 (t.bs : Int)], .agg #[.bool t.wt, .bool t.ms, .bool t.pd, .int .u64 (t.bs : Int)]] w1 fun r w' => r = .returned (.bool true) ∧ PX w w' s g c X z y0 y1 y2 x t :=
  (iqsame_any t.wt t.ms t.pd (t.bs : Int) w1).mono fun _ _ ⟨r1, r2⟩ => ⟨r1, (h.sm e).keep r2⟩
end Go.Proofs.Ythhgmnkgeombhaa
