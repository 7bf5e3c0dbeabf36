/- Both meters beside an act: what each call answers, and that all the rest stays. -/
import Derived.Test.YtmelbbojanomiaaRows
import Derived.Test.YtmelbbojanomiaaMeE
import Derived.Test.YtmelbbojanomiaaMeG
import Derived.WalkKit
import Derived.ProofKit
import Derived.OpenShut
namespace Go.Proofs.Ytmelbbojanomiaa
open Go.ChangeShapes Go.WideShapes Go.ChangeAt Go.RowKit
open Mt Flo

/-- The program's meter, the document's, and an act at block z. -/
structure MB (w wr : World) (s g r h n : Nat) (F G : Nat → Ac) (z : Nat) (A : List Value) : Prop where
  p : PM wr s g n F
  q : RM wr r h n G
  ak : Blk wr z A 32
  bel : Below w.heap.size w wr
  glo : w.heap.size ≤ g
  hlo : w.heap.size ≤ h

/-- The same without an act. -/
structure M2 (w wr : World) (s g r h n : Nat) (F G : Nat → Ac) : Prop where
  p : PM wr s g n F
  q : RM wr r h n G
  bel : Below w.heap.size w wr
  glo : w.heap.size ≤ g
  hlo : w.heap.size ≤ h

section
variable {w wr u : World} {s g r h n z : Nat} {F G : Nat → Ac} {A : List Value}
theorem MB.two (b : MB w wr s g r h n F G z A) : M2 w wr s g r h n F G := ⟨b.p, b.q, b.bel, b.glo, b.hlo⟩
theorem M2.act (b : M2 w wr s g r h n F G) (B : List Value) : MB w (wr.alloc (.cells B.toArray 32)) s g r h n F G wr.heap.size B := by
  have e := (Below.refl wr.heap.size wr).alloc (Nat.le_refl _) (.cells B.toArray 32)
  exact ⟨b.p.below e, b.q.below e, Blk.new wr B _, b.bel.trans (e.mono b.bel.size), b.glo, b.hlo⟩
theorem MB.apart (b : MB w wr s g r h n F G z A) : s ≠ h ∧ r ≠ g ∧ g ≠ h ∧ z ≠ g ∧ z ≠ h := by
  obtain ⟨cs, p1, _⟩ := b.p.gb
  obtain ⟨ds, q1, _⟩ := b.q.gb
  exact ⟨b.p.sb.ne q1 (by decide), b.q.sb.ne p1 (by decide), p1.ne q1 (by decide), b.ak.ne p1 (by decide), b.ak.ne q1 (by decide)⟩
theorem MB.sm (b : MB w wr s g r h n F G z A) (e : Sm u wr) : MB w u s g r h n F G z A :=
  ⟨b.p.heap e.1, b.q.heap e.1, b.ak.heap e.1, e.below b.bel, b.glo, b.hlo⟩
theorem MB.below (b : MB w wr s g r h n F G z A) (e : Below wr.heap.size wr u) : MB w u s g r h n F G z A :=
  ⟨b.p.below e, b.q.below e, b.ak.keep (Fr.of_below e) b.ak.lt (by simp), b.bel.trans (e.mono b.bel.size), b.glo, b.hlo⟩
theorem MB.left {F' : Nat → Ac} (b : MB w wr s g r h n F G z A) (p : PM u s g n F') (f : Fr wr.heap.size [g] wr u) : MB w u s g r h n F' G z A := by
  obtain ⟨a1, a2, a3, a4, a5⟩ := b.apart
  exact ⟨p, b.q.keep f b.q.slt b.q.glt (by simpa using a2) (by simpa using a3.symm), b.ak.keep f b.ak.lt (by simpa using a4), fr_own b.bel f b.bel.size (by simpa using b.glo), b.glo, b.hlo⟩
theorem MB.right {G' : Nat → Ac} (b : MB w wr s g r h n F G z A) (q : RM u r h n G') (f : Fr wr.heap.size [h] wr u) : MB w u s g r h n F G' z A := by
  obtain ⟨a1, a2, a3, a4, a5⟩ := b.apart
  exact ⟨b.p.keep f b.p.slt b.p.glt (by simpa using a1) (by simpa using a3), q, b.ak.keep f b.ak.lt (by simpa using a5), fr_own b.bel f b.bel.size (by simpa using b.hlo), b.glo, b.hlo⟩
theorem mb_work (b : MB w wr s g r h n F G z A) (ok : OkF n F 1000000000000) (c t p : Int) (sm : Sm u wr) :
    Calls Try.prog 12 #[.pointer (some ⟨s, 0, none⟩), .int .i64 c, .int .i64 t, .int .i64 p] u fun e u' => e = .returned (.int .i64 (wkE n F c t p)) ∧ MB w u' s g r h n (wkF n F c t p) G z A :=
  (mtwork_any u s g n F c t p (b.sm sm).p ok).mono fun _ _ ⟨e, p, f⟩ => ⟨e, (b.sm sm).left p f⟩
theorem mb_rest (b : MB w wr s g r h n F G z A) (ok : OkF n F 1000000000000) (c m t p : Int) (sm : Sm u wr) :
    Calls Try.prog 14 #[.pointer (some ⟨s, 0, none⟩), .int .i64 c, .int .i64 m, .int .i64 t, .int .i64 p] u fun e u' => e = .returned (.int .i64 (rsE n F c m t p)) ∧ MB w u' s g r h n (rsF n F c m t p) G z A :=
  (mtrest_any u s g n F c m t p (b.sm sm).p ok).mono fun _ _ ⟨e, p, f⟩ => ⟨e, (b.sm sm).left p f⟩
theorem mbr_work (b : MB w wr s g r h n F G z A) (ok : OkF n G 1000000000000) (c t p : Int) (sm : Sm u wr) :
    Calls Try.prog 13 #[.pointer (some ⟨r, 0, none⟩), .int .i64 c, .int .i64 t, .int .i64 p] u fun e u' => e = .returned (.int .i64 (wkE n G c t p)) ∧ MB w u' s g r h n F (wkF n G c t p) z A :=
  (rfwork_any u r h n G c t p (b.sm sm).q ok).mono fun _ _ ⟨e, p, f⟩ => ⟨e, (b.sm sm).right p f⟩
theorem mbr_rest (b : MB w wr s g r h n F G z A) (ok : OkF n G 1000000000000) (c m t p : Int) (sm : Sm u wr) :
    Calls Try.prog 15 #[.pointer (some ⟨r, 0, none⟩), .int .i64 c, .int .i64 m, .int .i64 t, .int .i64 p] u fun e u' => e = .returned (.int .i64 (rsE n G c m t p)) ∧ MB w u' s g r h n F (rsF n G c m t p) z A :=
  (rfrest_any u r h n G c m t p (b.sm sm).q ok).mono fun _ _ ⟨e, p, f⟩ => ⟨e, (b.sm sm).right p f⟩
theorem mb_energy (b : MB w wr s g r h n F G z A) (c : Int) (sm : Sm u wr) :
    Calls Try.prog 16 #[.pointer (some ⟨s, 0, none⟩), .int .i64 c] u fun e u' => e = .returned (.int .i64 (enB n F c)) ∧ MB w u' s g r h n F G z A :=
  (mtenergy_any u s g n F c (b.sm sm).p).mono fun _ _ ⟨e, f⟩ => ⟨e, (b.sm sm).below f⟩
theorem mbr_energy (b : MB w wr s g r h n F G z A) (c : Int) (sm : Sm u wr) :
    Calls Try.prog 17 #[.pointer (some ⟨r, 0, none⟩), .int .i64 c] u fun e u' => e = .returned (.int .i64 (enB n G c)) ∧ MB w u' s g r h n F G z A :=
  (rfenergy_any u r h n G c (b.sm sm).q).mono fun _ _ ⟨e, f⟩ => ⟨e, by rw [f]; exact b.sm sm⟩
theorem mb_ticks (b : MB w wr s g r h n F G z A) (c : Int) (sm : Sm u wr) :
    Calls Try.prog 18 #[.pointer (some ⟨s, 0, none⟩), .int .i64 c] u fun e u' => e = .returned (.int .i64 (tkB n F c)) ∧ MB w u' s g r h n F G z A :=
  (mtticks_any u s g n F c (b.sm sm).p).mono fun _ _ ⟨e, f⟩ => ⟨e, (b.sm sm).below f⟩
theorem mbr_ticks (b : MB w wr s g r h n F G z A) (ok : OkF n G 1000000000000) (c : Int) (sm : Sm u wr) :
    Calls Try.prog 19 #[.pointer (some ⟨r, 0, none⟩), .int .i64 c] u fun e u' => e = .returned (.int .i64 (tkB n G c)) ∧ MB w u' s g r h n F G z A :=
  (rfticks_any u r h n G c (b.sm sm).q ok).mono fun _ _ ⟨e, f⟩ => ⟨e, by rw [f]; exact b.sm sm⟩
theorem mb_rested (b : MB w wr s g r h n F G z A) (c m : Int) (sm : Sm u wr) :
    Calls Try.prog 20 #[.pointer (some ⟨s, 0, none⟩), .int .i64 c, .int .i64 m] u fun e u' => e = .returned (.int .i64 (rsB n F c m)) ∧ MB w u' s g r h n F G z A :=
  (mtrested_any u s g n F c m (b.sm sm).p).mono fun _ _ ⟨e, f⟩ => ⟨e, (b.sm sm).below f⟩
theorem mbr_rested (b : MB w wr s g r h n F G z A) (c m : Int) (sm : Sm u wr) :
    Calls Try.prog 21 #[.pointer (some ⟨r, 0, none⟩), .int .i64 c, .int .i64 m] u fun e u' => e = .returned (.int .i64 (rsB n G c m)) ∧ MB w u' s g r h n F G z A :=
  (rfrested_any u r h n G c m (b.sm sm).q).mono fun _ _ ⟨e, f⟩ => ⟨e, by rw [f]; exact b.sm sm⟩
theorem mb_average (b : MB w wr s g r h n F G z A) (c : Int) (sm : Sm u wr) :
    Calls Try.prog 23 #[.pointer (some ⟨s, 0, none⟩), .int .i64 c] u fun e u' => ∃ x, e = .returned (.float .f64 x) ∧ x < 18446744073709551616 ∧ ky x = rt (enB n F c) (tkB n F c) ∧ MB w u' s g r h n F G z A :=
  (mtaverage_any u s g n F c (b.sm sm).p).mono fun _ _ ⟨x, e, hx, kx, f⟩ => ⟨x, e, hx, kx, (b.sm sm).below f⟩
theorem mbr_average (b : MB w wr s g r h n F G z A) (ok : OkF n G 1000000000000) (c : Int) (sm : Sm u wr) :
    Calls Try.prog 24 #[.pointer (some ⟨r, 0, none⟩), .int .i64 c] u fun e u' => ∃ x, e = .returned (.float .f64 x) ∧ x < 18446744073709551616 ∧ ky x = rt (enB n G c) (tkB n G c) ∧ MB w u' s g r h n F G z A :=
  (rfaverage_any u r h n G c (b.sm sm).q ok).mono fun _ _ ⟨x, e, hx, kx, f⟩ => ⟨x, e, hx, kx, (b.sm sm).sm f⟩
theorem mb_share (b : MB w wr s g r h n F G z A) (c m : Int) (sm : Sm u wr) :
    Calls Try.prog 25 #[.pointer (some ⟨s, 0, none⟩), .int .i64 c, .int .i64 m] u fun e u' => ∃ x, e = .returned (.float .f64 x) ∧ x < 18446744073709551616 ∧ ky x = rt (rsB n F c m) (tkB n F c) ∧ MB w u' s g r h n F G z A :=
  (mtshare_any u s g n F c m (b.sm sm).p).mono fun _ _ ⟨x, e, hx, kx, f⟩ => ⟨x, e, hx, kx, (b.sm sm).below f⟩
theorem mbr_share (b : MB w wr s g r h n F G z A) (ok : OkF n G 1000000000000) (c m : Int) (sm : Sm u wr) :
    Calls Try.prog 26 #[.pointer (some ⟨r, 0, none⟩), .int .i64 c, .int .i64 m] u fun e u' => ∃ x, e = .returned (.float .f64 x) ∧ x < 18446744073709551616 ∧ ky x = rt (rsB n G c m) (tkB n G c) ∧ MB w u' s g r h n F G z A :=
  (rfshare_any u r h n G c m (b.sm sm).q ok).mono fun _ _ ⟨x, e, hx, kx, f⟩ => ⟨x, e, hx, kx, (b.sm sm).sm f⟩
theorem mb_same (b : MB w wr s g r h n F G z A) (x y : Nat) (hx : x < 18446744073709551616) (hy : y < 18446744073709551616) (e0 : ky x = ky y) (sm : Sm u wr) :
    Calls Try.prog 22 #[.float .f64 x, .float .f64 y] u fun e u' => e = .returned (.bool true) ∧ MB w u' s g r h n F G z A :=
  (refsame_any x y u hx hy).mono fun _ _ ⟨e, f⟩ => ⟨by rw [e, e0, beq_self_eq_true], by rw [f]; exact b.sm sm⟩
end
end Go.Proofs.Ytmelbbojanomiaa
