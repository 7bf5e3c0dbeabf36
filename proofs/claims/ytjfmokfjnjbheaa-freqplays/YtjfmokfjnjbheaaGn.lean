/- A governor of the program and the document's, side by side, with the act that law 24 looks at: what each call leaves of them. -/
import Derived.Test.YtjfmokfjnjbheaaGj
import Derived.Test.YtjfmokfjnjbheaaGm
namespace Go.Proofs.Ytjfmokfjnjbheaa
open Go.ChangeShapes Go.WideShapes Go.ChangeAt Go.RowKit

/-- The program's governor at block s (lo', hi', q, p), the document's at block r with the list v (lo, hi, Y). -/
structure GD (w wr : World) (s r : Nat) (v : Value) (lo hi : Int) (Y : List Fq) (lo' hi' : Int) (q : List Fq) (p : Nat) : Prop where
  g : PG wr s lo' hi' q p
  d : DG wr r v lo hi Y
  l1 : Lim lo hi
  l2 : Lim lo' hi'
  hr : s < r
  hv : ∀ g, v.ownBlock = some g → s < g
  bel : Below s w wr

/-- The same, with the act at block c. -/
structure GA (w wr : World) (s r : Nat) (v : Value) (c : Nat) (A : List Value) (lo hi : Int) (Y : List Fq) (lo' hi' : Int) (q : List Fq) (p : Nat) : Prop where
  b : GD w wr s r v lo hi Y lo' hi' q p
  ac : Blk wr c A 47

section
variable {w wr w1 : World} {s r c p : Nat} {v : Value} {A : List Value} {lo hi lo' hi' : Int} {Y q : List Fq}
theorem GD.top (t : GD w wr s r v lo hi Y lo' hi' q p) : s < wr.heap.size := t.g.sb.lt
theorem GD.sm (t : GD w wr s r v lo hi Y lo' hi' q p) (e : Sm w1 wr) : GD w w1 s r v lo hi Y lo' hi' q p := ⟨t.g.heap e.1, t.d.heap e.1, t.l1, t.l2, t.hr, t.hv, e.below t.bel⟩
theorem GD.more (t : GD w wr s r v lo hi Y lo' hi' q p) (e : Below wr.heap.size wr w1) : GD w w1 s r v lo hi Y lo' hi' q p := ⟨t.g.below e, t.d.below e, t.l1, t.l2, t.hr, t.hv, t.bel.trans (e.mono (Nat.le_of_lt t.top))⟩
theorem GD.half {lo2 hi2 : Int} {q2 : List Fq} {p2 : Nat} (t : GD w wr s r v lo hi Y lo' hi' q p) (g : PG w1 s lo2 hi2 q2 p2) (l : Lim lo2 hi2) (f : Fr wr.heap.size [s] wr w1) : GD w w1 s r v lo hi Y lo2 hi2 q2 p2 := by
  have hr := t.hr
  refine ⟨g, t.d.keep f ⟨t.d.sb.lt, by simp; omega⟩ (fun k e => ⟨(t.d.ob e).2, ?_⟩), t.l1, l, t.hr, t.hv, fr_own t.bel f (Nat.le_of_lt t.top) (by simp)⟩
  have := t.hv k e
  simp
  omega
theorem GD.full {v2 : Value} {lo2 hi2 : Int} {Y2 : List Fq} (t : GD w wr s r v lo hi Y lo' hi' q p) (d : DG w1 r v2 lo2 hi2 Y2) (l : Lim lo2 hi2) (f : DL wr w1 r v v2) : GD w w1 s r v2 lo2 hi2 Y2 lo' hi' q p := by
  have hr := t.hr
  have ht := t.top
  have hs : ∀ k ∈ r :: v.ownBlock.toList, s < k := fun k hk => by
    rcases List.mem_cons.1 hk with e | e
    · omega
    · exact t.hv k (by simpa using e)
  refine ⟨t.g.keep f.fr ht (fun e => by have := hs s e; omega), d, l, t.l2, hr, fun k e => ?_, fr_own t.bel f.fr (Nat.le_of_lt ht) (fun k hk => Nat.le_of_lt (hs k hk))⟩
  rcases f.nw k e with q | q
  · exact t.hv k q
  · omega
theorem GA.sm (t : GA w wr s r v c A lo hi Y lo' hi' q p) (e : Sm w1 wr) : GA w w1 s r v c A lo hi Y lo' hi' q p := ⟨t.b.sm e, t.ac.heap e.1⟩
theorem GA.more (t : GA w wr s r v c A lo hi Y lo' hi' q p) (e : Below wr.heap.size wr w1) : GA w w1 s r v c A lo hi Y lo' hi' q p := ⟨t.b.more e, t.ac.keep (Fr.of_below e) t.ac.lt (by simp)⟩
theorem GA.half {lo2 hi2 : Int} {q2 : List Fq} {p2 : Nat} (t : GA w wr s r v c A lo hi Y lo' hi' q p) (g : PG w1 s lo2 hi2 q2 p2) (l : Lim lo2 hi2) (f : Fr wr.heap.size [s] wr w1) : GA w w1 s r v c A lo hi Y lo2 hi2 q2 p2 := by
  have := t.ac.ne t.b.g.sb (by decide)
  exact ⟨t.b.half g l f, t.ac.keep f t.ac.lt (by simp; omega)⟩
theorem GA.full {v2 : Value} {lo2 hi2 : Int} {Y2 : List Fq} (t : GA w wr s r v c A lo hi Y lo' hi' q p) (d : DG w1 r v2 lo2 hi2 Y2) (l : Lim lo2 hi2) (f : DL wr w1 r v v2) : GA w w1 s r v2 c A lo2 hi2 Y2 lo' hi' q p := by
  have h1 := t.ac.ne t.b.d.sb (by decide)
  refine ⟨t.b.full d l f, t.ac.keep f.fr t.ac.lt (fun e => ?_)⟩
  rcases List.mem_cons.1 e with e | e
  · omega
  · exact owng_ne t.b.d.own t.ac (by decide) (by simpa using e) rfl
theorem GD.box (t : GD w wr s r v lo hi Y lo' hi' q p) (A : List Value) : GA w (wr.alloc (.cells A.toArray 47)) s r v wr.heap.size A lo hi Y lo' hi' q p :=
  ⟨t.more ((Below.refl _ _).alloc (Nat.le_refl _) _), Blk.new wr A _⟩

theorem ga_limits (t : GA w wr s r v c A lo hi Y lo' hi' q p) : Calls Try.prog 26 #[.pointer (some ⟨s, 0, none⟩)] wr fun e w' => e = .returned (.tuple #[.int .i64 lo', .int .i64 hi']) ∧ GA w w' s r v c A lo hi Y lo' hi' q p :=
  (glimits_any wr t.b.g).mono fun _ _ ⟨r1, r2⟩ => ⟨r1, t.sm r2⟩
theorem ga_busy (t : GA w wr s r v c A lo hi Y lo' hi' q p) : Calls Try.prog 29 #[.pointer (some ⟨s, 0, none⟩)] wr fun e w' => e = .returned (.int .i64 (bz q)) ∧ GA w w' s r v c A lo hi Y lo' hi' q p :=
  (gbusy_any wr t.b.g).mono fun _ _ ⟨r1, r2⟩ => ⟨r1, t.more r2⟩
theorem ga_freq (t : GA w wr s r v c A lo hi Y lo' hi' q p) : Calls Try.prog 27 #[.pointer (some ⟨s, 0, none⟩)] wr fun e w' => e = .returned (.int .i64 (fr lo' hi' q)) ∧ GA w w' s r v c A lo hi Y lo' hi' q p :=
  (gfreq_any wr t.b.g t.b.l2).mono fun _ _ ⟨r1, r2⟩ => ⟨r1, t.more r2⟩
theorem ga_set (a b : Int) (t : GA w wr s r v c A lo hi Y lo' hi' q p) : Calls Try.prog 22 #[.pointer (some ⟨s, 0, none⟩), .int .i64 a, .int .i64 b] wr fun e w' => e = .returned (.int .i64 (stE a b)) ∧ GA w w' s r v c A lo hi Y (stL a b lo') (stH a b hi') q p :=
  (gset_any a b t.b.g).mono fun _ _ ⟨r1, r2, r3⟩ => ⟨r1, t.half r2 (st_lim t.b.l2) r3⟩
theorem ga_feed (a b : Int) (t : GA w wr s r v c A lo hi Y lo' hi' q p) : Calls Try.prog 24 #[.pointer (some ⟨s, 0, none⟩), .int .i64 a, .int .i64 b] wr fun e w' => e = .returned (.tuple #[.int .i64 (fdN a b lo' hi' q), .int .i64 (fdE a b)]) ∧ GA w w' s r v c A lo hi Y lo' hi' (fdQ a b q) (fdP a b p) :=
  (gfeed_any a b t.b.g t.b.l2).mono fun _ _ ⟨r1, r2, r3⟩ => ⟨r1, t.half r2 t.b.l2 r3⟩
theorem ga_rset (a b : Int) (t : GA w wr s r v c A lo hi Y lo' hi' q p) : Calls Try.prog 23 #[.pointer (some ⟨r, 0, none⟩), .int .i64 a, .int .i64 b] wr fun e w' => e = .returned (.int .i64 (stE a b)) ∧ GA w w' s r v c A (stL a b lo) (stH a b hi) Y lo' hi' q p :=
  (dset_any a b wr t.b.d).mono fun _ _ ⟨r1, r2, r3⟩ => ⟨r1, t.full r2 (st_lim t.b.l1) (DL.of_fr r3)⟩
theorem ga_rfeed (a b : Int) (t : GA w wr s r v c A lo hi Y lo' hi' q p) (hn : (Y.length : Int) < 1000) : Calls Try.prog 25 #[.pointer (some ⟨r, 0, none⟩), .int .i64 a, .int .i64 b] wr fun e w' => e = .returned (.tuple #[.int .i64 (fdN a b lo hi (lf Y)), .int .i64 (fdE a b)]) ∧ ∃ v2, GA w w' s r v2 c A lo hi (fdY a b Y) lo' hi' q p :=
  (dfeed_any a b wr t.b.d t.b.l1 hn).mono fun _ _ ⟨r1, v2, r2, r3⟩ => ⟨r1, v2, t.full r2 t.b.l1 r3⟩
theorem ga_rbusy (t : GA w wr s r v c A lo hi Y lo' hi' q p) (hn : (Y.length : Int) ≤ 1000) : Calls Try.prog 30 #[.pointer (some ⟨r, 0, none⟩)] wr fun e w' => e = .returned (.int .i64 (bz (lf Y))) ∧ GA w w' s r v c A lo hi Y lo' hi' q p :=
  (dbusy_any wr t.b.d hn).mono fun _ _ ⟨r1, r2⟩ => ⟨r1, by rw [r2]; exact t⟩
theorem ga_rfreq (t : GA w wr s r v c A lo hi Y lo' hi' q p) (hn : (Y.length : Int) ≤ 1000) : Calls Try.prog 28 #[.pointer (some ⟨r, 0, none⟩)] wr fun e w' => e = .returned (.int .i64 (fr lo hi (lf Y))) ∧ GA w w' s r v c A lo hi Y lo' hi' q p :=
  (dfreq_any wr t.b.d t.b.l1 hn).mono fun _ _ ⟨r1, r2⟩ => ⟨r1, t.sm r2⟩
end
end Go.Proofs.Ytjfmokfjnjbheaa
