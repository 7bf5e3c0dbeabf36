/- A route of the program and the document's, side by side, and the act that is played (in a block of its own): what each call of law 16 leaves of them. -/
import Derived.Test.YthhgmnkgeombhaaNb
import Derived.Test.YthhgmnkgeombhaaNe
import Derived.Test.YthhgmnkgeombhaaFi
import Derived.WalkKit
import Derived.ProofKit
import Derived.OpenShut
import Derived.BigQuiet
namespace Go.Proofs.Ythhgmnkgeombhaa
open Go.ChangeShapes Go.WideShapes Go.ChangeAt Go.RowKit
open Mm Nm

/-- Both routes send the same interrupts to the same cores; they lie apart, behind all that was there before. -/
structure NP (w wr : World) (s b g cap c : Nat) (P : Nat → Int) : Prop where
  q : RT wr s c P
  r : RN wr b g cap c P
  bel : Below s w wr
  lt : s < b

theorem NP.hi {w wr : World} {s b g cap c : Nat} {P : Nat → Int} (h : NP w wr s b g cap c P) : g < wr.heap.size ∧ b < g := ⟨h.r.hi, h.r.lt⟩
theorem NP.keep {w wr w1 : World} {s b g cap c : Nat} {P : Nat → Int} (h : NP w wr s b g cap c P) (f : Below wr.heap.size wr w1) : NP w w1 s b g cap c P :=
  ⟨h.q.below f, h.r.below f, h.bel.trans (f.mono (by have := h.hi; have := h.lt; omega)), h.lt⟩
theorem NP.sm {w wr w1 : World} {s b g cap c : Nat} {P : Nat → Int} (h : NP w wr s b g cap c P) (e : Sm w1 wr) : NP w w1 s b g cap c P := h.keep (e.below (Below.refl _ _))

/-- The act's block. -/
def AZ (w : World) (z : Nat) (y0 y1 : Int) (y2 : Bool) : Prop := Blk w z [.int .i64 y0, .int .i64 y1, .bool y2] 63

/-- Both, and an act at block z. -/
structure NZ (w wr : World) (s b g cap c : Nat) (P : Nat → Int) (z : Nat) (y0 y1 : Int) (y2 : Bool) : Prop where
  np : NP w wr s b g cap c P
  az : AZ wr z y0 y1 y2
  zg : g < z
/-- The program has acted, the document not yet. -/
structure NH (w wr : World) (s b g cap c : Nat) (P P' : Nat → Int) (z : Nat) (y0 y1 : Int) (y2 : Bool) : Prop where
  q : RT wr s c P'
  r : RN wr b g cap c P
  bel : Below s w wr
  lt : s < b
  az : AZ wr z y0 y1 y2
  zg : g < z

theorem NZ.cells {w wr : World} {s b g cap c : Nat} {P : Nat → Int} {z : Nat} {y0 y1 : Int} {y2 : Bool} (h : NZ w wr s b g cap c P z y0 y1 y2) : wr.cell? ⟨z, 0, none⟩ = some (.int .i64 y0) ∧ wr.cell? ⟨z, 1, none⟩ = some (.int .i64 y1) ∧ wr.cell? ⟨z, 2, none⟩ = some (.bool y2) :=
  ⟨Blk.cell h.az 0, Blk.cell h.az 1, Blk.cell h.az 2⟩
theorem NH.cells {w wr : World} {s b g cap c : Nat} {P P' : Nat → Int} {z : Nat} {y0 y1 : Int} {y2 : Bool} (h : NH w wr s b g cap c P P' z y0 y1 y2) : wr.cell? ⟨z, 0, none⟩ = some (.int .i64 y0) ∧ wr.cell? ⟨z, 1, none⟩ = some (.int .i64 y1) ∧ wr.cell? ⟨z, 2, none⟩ = some (.bool y2) :=
  ⟨Blk.cell h.az 0, Blk.cell h.az 1, Blk.cell h.az 2⟩
theorem NZ.keep {w wr w1 : World} {s b g cap c : Nat} {P : Nat → Int} {z : Nat} {y0 y1 : Int} {y2 : Bool} (h : NZ w wr s b g cap c P z y0 y1 y2) (f : Below wr.heap.size wr w1) : NZ w w1 s b g cap c P z y0 y1 y2 :=
  ⟨h.np.keep f, Blk.keep h.az (Fr.of_below f) (Blk.lt h.az) (by simp), h.zg⟩
theorem NZ.sm {w wr w1 : World} {s b g cap c : Nat} {P : Nat → Int} {z : Nat} {y0 y1 : Int} {y2 : Bool} (h : NZ w wr s b g cap c P z y0 y1 y2) (e : Sm w1 wr) : NZ w w1 s b g cap c P z y0 y1 y2 := h.keep (e.below (Below.refl _ _))
theorem NZ.new {w wr : World} {s b g cap c : Nat} {P : Nat → Int} (h : NP w wr s b g cap c P) (y0 y1 : Int) (y2 : Bool) : NZ w (wr.alloc (.cells #[.int .i64 y0, .int .i64 y1, .bool y2] 63)) s b g cap c P wr.heap.size y0 y1 y2 :=
  ⟨h.keep ((Below.refl _ _).alloc (Nat.le_refl _) _), Blk.new wr [.int .i64 y0, .int .i64 y1, .bool y2] _, h.hi.1⟩

theorem NZ.half {w wr v1 : World} {s b g cap c : Nat} {P P' : Nat → Int} {z : Nat} {y0 y1 : Int} {y2 : Bool} (h : NZ w wr s b g cap c P z y0 y1 y2) (q : RT v1 s c P') (f : Fr wr.heap.size [s] wr v1) : NH w v1 s b g cap c P P' z y0 y1 y2 := by
  have h1 := h.np.hi
  have h2 := h.np.lt
  have h3 := h.zg
  exact ⟨q, h.np.r.keep f h1.1 (by simp; omega) (by simp; omega), h.np.bel.trans ((f.less (by omega : s ≤ wr.heap.size)).below (fun k hk => by simp at hk; omega)), h2, Blk.keep h.az f (Blk.lt h.az) (by simp; omega), h3⟩
theorem NH.full {w wr v1 : World} {s b g cap c : Nat} {P P' : Nat → Int} {z : Nat} {y0 y1 : Int} {y2 : Bool} (h : NH w wr s b g cap c P P' z y0 y1 y2) (r : RN v1 b g cap c P') (f : Fr wr.heap.size [g] wr v1) : NZ w v1 s b g cap c P' z y0 y1 y2 := by
  have h1 := h.r.hi
  have h0 := h.r.lt
  have h2 := h.lt
  have h3 := h.zg
  exact ⟨⟨h.q.keep f h.q.lt (by simp; omega), r, h.bel.trans ((f.less (by omega : s ≤ wr.heap.size)).below (fun k hk => by simp at hk; omega)), h2⟩, Blk.keep h.az f (Blk.lt h.az) (by simp; omega), h3⟩
theorem NH.sm {w wr w1 : World} {s b g cap c : Nat} {P P' : Nat → Int} {z : Nat} {y0 y1 : Int} {y2 : Bool} (h : NH w wr s b g cap c P P' z y0 y1 y2) (e : Sm w1 wr) : NH w w1 s b g cap c P P' z y0 y1 y2 := by
  have f : Fr wr.heap.size [] wr w1 := Fr.of_below (e.below (Below.refl _ _))
  exact ⟨h.q.heap e.1, h.r.heap e.1, e.below h.bel, h.lt, Blk.heap h.az e.1, h.zg⟩

theorem nz_off {w v1 w1 : World} {s b g cap c : Nat} {P : Nat → Int} {z : Nat} {y0 y1 n : Int} {y2 : Bool} (h : NZ w v1 s b g cap c P z y0 y1 y2) (e : Sm w1 v1) :
    Calls Try.prog 31 #[.pointer (some ⟨s, 0, none⟩), .int .i64 n] w1 fun r w' => r = .returned (.int .i64 (ofE P n)) ∧ NH w w' s b g cap c P (stp (ofE P n) P n (-1)) z y0 y1 y2 :=
  (rtoff_any n w1 (h.sm e).np.q).mono fun _ _ ⟨r1, r2, r3⟩ => ⟨r1, (h.sm e).half r2 r3⟩
theorem nz_roff {w v1 w1 : World} {s b g cap c : Nat} {P : Nat → Int} {z : Nat} {y0 y1 n : Int} {y2 : Bool} (h : NH w v1 s b g cap c P (stp (ofE P n) P n (-1)) z y0 y1 y2) (e : Sm w1 v1) :
    Calls Try.prog 32 #[.pointer (some ⟨b, 0, none⟩), .int .i64 n] w1 fun r w' => r = .returned (.int .i64 (ofE P n)) ∧ NZ w w' s b g cap c (stp (ofE P n) P n (-1)) z y0 y1 y2 :=
  (rnoff_any n w1 (h.sm e).r).mono fun _ _ ⟨r1, r2, r3⟩ => ⟨r1, (h.sm e).full r2 r3⟩
theorem nz_set {w v1 w1 : World} {s b g cap c : Nat} {P : Nat → Int} {z : Nat} {y0 y1 n u : Int} {y2 : Bool} (h : NZ w v1 s b g cap c P z y0 y1 y2) (e : Sm w1 v1) :
    Calls Try.prog 33 #[.pointer (some ⟨s, 0, none⟩), .int .i64 n, .int .i64 u] w1 fun r w' => r = .returned (.int .i64 (stE c n u)) ∧ NH w w' s b g cap c P (stp (stE c n u) P n u) z y0 y1 y2 :=
  (rtset_any n u w1 (h.sm e).np.q).mono fun _ _ ⟨r1, r2, r3⟩ => ⟨r1, (h.sm e).half r2 r3⟩
theorem nz_rset {w v1 w1 : World} {s b g cap c : Nat} {P : Nat → Int} {z : Nat} {y0 y1 n u : Int} {y2 : Bool} (h : NH w v1 s b g cap c P (stp (stE c n u) P n u) z y0 y1 y2) (e : Sm w1 v1) :
    Calls Try.prog 34 #[.pointer (some ⟨b, 0, none⟩), .int .i64 n, .int .i64 u] w1 fun r w' => r = .returned (.int .i64 (stE c n u)) ∧ NZ w w' s b g cap c (stp (stE c n u) P n u) z y0 y1 y2 :=
  (rnset_any n u w1 (h.sm e).r).mono fun _ _ ⟨r1, r2, r3⟩ => ⟨r1, (h.sm e).full r2 r3⟩
theorem nz_of {w v1 w1 : World} {s b g cap c : Nat} {P : Nat → Int} {z : Nat} {y0 y1 n : Int} {y2 : Bool} (h : NZ w v1 s b g cap c P z y0 y1 y2) (e : Sm w1 v1) :
    Calls Try.prog 35 #[.pointer (some ⟨s, 0, none⟩), .int .i64 n] w1 fun r w' => r = .returned (.tuple #[.int .i64 (ofN P n), .bool (ofB P n)]) ∧ NZ w w' s b g cap c P z y0 y1 y2 :=
  (rtof_any n w1 (h.sm e).np.q).mono fun _ _ ⟨r1, r2⟩ => ⟨r1, (h.sm e).sm r2⟩
theorem nz_rof {w v1 w1 : World} {s b g cap c : Nat} {P : Nat → Int} {z : Nat} {y0 y1 n : Int} {y2 : Bool} (h : NZ w v1 s b g cap c P z y0 y1 y2) (e : Sm w1 v1) :
    Calls Try.prog 36 #[.pointer (some ⟨b, 0, none⟩), .int .i64 n] w1 fun r w' => r = .returned (.tuple #[.int .i64 (ofN P n), .bool (ofB P n)]) ∧ NZ w w' s b g cap c P z y0 y1 y2 :=
  (rnof_any n w1 (h.sm e).np.r).mono fun _ _ ⟨r1, r2⟩ => ⟨r1, (h.sm e).sm r2⟩
theorem nz_on {w v1 w1 : World} {s b g cap c : Nat} {P : Nat → Int} {z : Nat} {y0 y1 u : Int} {y2 : Bool} (h : NZ w v1 s b g cap c P z y0 y1 y2) (e : Sm w1 v1) :
    Calls Try.prog 37 #[.pointer (some ⟨s, 0, none⟩), .int .i64 u] w1 fun r w' => ∃ a n cp, r = .returned (.slice a n cp) ∧ NZ w w' s b g cap c P z y0 y1 y2 ∧ Row w' (.slice a n cp) (KK (on P u) 16) := by
  refine (rton_any u w1 (h.sm e).np.q).mono fun _ w' ⟨v, r1, r2⟩ => ?_
  obtain ⟨a, cp, rfl⟩ := own_shape r2.own
  exact ⟨a, _, cp, r1, (h.sm e).keep r2.bel, gat_row r2⟩
theorem nz_ron {w v1 w1 : World} {s b g cap c : Nat} {P : Nat → Int} {z : Nat} {y0 y1 u : Int} {y2 : Bool} {v : Value} {xs : List Int} (h : NZ w v1 s b g cap c P z y0 y1 y2) (q : Row v1 v xs) (e : Sm w1 v1) :
    Calls Try.prog 38 #[.pointer (some ⟨b, 0, none⟩), .int .i64 u] w1 fun r w' => ∃ a n cp, r = .returned (.slice a n cp) ∧ NZ w w' s b g cap c P z y0 y1 y2 ∧ Row w' v xs ∧ Row w' (.slice a n cp) (KK (on P u) 16) := by
  refine (rnon_any u w1 (h.sm e).np.r).mono fun _ w' ⟨v, r1, r2⟩ => ?_
  obtain ⟨a, cp, rfl⟩ := own_shape r2.own
  have f : Below v1.heap.size v1 w' := by have := e.from r2.bel; rwa [e.1] at this
  exact ⟨a, _, cp, r1, (h.sm e).keep r2.bel, q.keep (Fr.of_below f) (Nat.le_refl _), gat_row r2⟩
theorem nz_ints {w v1 w1 : World} {s b g cap c : Nat} {P : Nat → Int} {z : Nat} {y0 y1 : Int} {y2 : Bool} {v v' : Value} {p : Nat → Bool} (h : NZ w v1 s b g cap c P z y0 y1 y2) (q : Row v1 v (KK p 16)) (q' : Row v1 v' (KK p 16)) (e : Sm w1 v1) :
    Calls Try.prog 15 #[v, v'] w1 fun r w' => r = .returned (.bool true) ∧ NZ w w' s b g cap c P z y0 y1 y2 := by
  have f : Fr v1.heap.size [] v1 w1 := Fr.of_below (e.below (Below.refl _ _))
  refine (ints_any (KK p 16) v v' w1 (by have := KK_le p 16; omega) (q.keep f (Nat.le_refl _)) (q'.keep f (Nat.le_refl _))).mono fun _ w' ⟨r1, n, r2⟩ => ⟨r1, ?_⟩
  rw [r2]
  exact (h.sm e).sm ⟨rfl, rfl, rfl, rfl⟩
theorem nz_cores {w v1 w1 : World} {s b g cap c : Nat} {P : Nat → Int} {z : Nat} {y0 y1 : Int} {y2 : Bool} (h : NZ w v1 s b g cap c P z y0 y1 y2) (e : Sm w1 v1) :
    Calls Try.prog 39 #[.pointer (some ⟨s, 0, none⟩)] w1 fun r w' => r = .returned (.int .u64 (cl P 16 : Nat)) ∧ NZ w w' s b g cap c P z y0 y1 y2 :=
  (rtcores_any w1 (h.sm e).np.q).mono fun _ _ ⟨r1, r2⟩ => ⟨r1, (h.sm e).keep r2⟩
theorem nz_rcores {w v1 w1 : World} {s b g cap c : Nat} {P : Nat → Int} {z : Nat} {y0 y1 : Int} {y2 : Bool} (h : NZ w v1 s b g cap c P z y0 y1 y2) (e : Sm w1 v1) :
    Calls Try.prog 40 #[.pointer (some ⟨b, 0, none⟩)] w1 fun r w' => r = .returned (.int .u64 (cl P 16 : Nat)) ∧ NZ w w' s b g cap c P z y0 y1 y2 :=
  (rncores_any w1 (h.sm e).np.r).mono fun _ _ ⟨r1, r2⟩ => ⟨r1, by rw [r2]; exact h.sm e⟩
end Go.Proofs.Ythhgmnkgeombhaa
