/- A stop of the program and the document's, side by side: what each call of law 20 leaves of them; acts in blocks of their own stay as they are. -/
import Derived.Test.YtbmdfoohabipjaaEn
import Derived.Test.YtbmdfoohabipjaaEp
namespace Go.Proofs.Ytbmdfoohabipjaa
open Go.ChangeShapes Go.WideShapes Go.ChangeAt Go.RowKit
open Mm Ek

/-- The document's stop at block r, of which those of l do not yet stand still, those of h do. -/
def SD (w : World) (r l h : Nat) : Prop := ∃ on m k, DS w r on m k ∧ Rel l h on m k
/-- Both, one behind the other from block s on: the document's is (l, h), the program's (l', h'). -/
structure TT (w wr : World) (s l h l' h' : Nat) : Prop where
  q : ST wr s l' h'
  r : SD wr (s + 1) l h
  bel : Below s w wr
/-- An act at block z. -/
def AT (w : World) (s z : Nat) (y0 y1 y2 : Int) : Prop := Blk w z [.int .i64 y0, .int .i64 y1, .int .u64 y2] 54 ∧ s + 2 ≤ z
/-- All acts are as they were. -/
def KT (s : Nat) (w w' : World) : Prop := ∀ z y0 y1 y2, AT w s z y0 y1 y2 → AT w' s z y0 y1 y2

section
variable {w wr v1 w1 : World} {s z l h l' h' : Nat} {y0 y1 y2 : Int}
theorem SD.lt {r : Nat} (q : SD w r l h) : r < w.heap.size := by
  obtain ⟨_, _, _, d, _⟩ := q
  exact d.sb.lt
theorem SD.keep {r B : Nat} {S : List Nat} (q : SD w r l h) (f : Fr B S w w1) (hb : r < B) (hs : r ∉ S) : SD w1 r l h := by
  obtain ⟨on, m, k, d, e⟩ := q
  exact ⟨on, m, k, d.keep f hb hs, e⟩
theorem SD.c0 {r : Nat} (q : SD w r l h) : w.cell? ⟨r, 0, none⟩ = some (.bool (onB l h)) := by
  obtain ⟨on, m, k, d, e⟩ := q
  rw [e.begun]
  exact d.c0
theorem AT.cells (h : AT w s z y0 y1 y2) : w.cell? ⟨z, 0, none⟩ = some (.int .i64 y0) ∧ w.cell? ⟨z, 1, none⟩ = some (.int .i64 y1) ∧ w.cell? ⟨z, 2, none⟩ = some (.int .u64 y2) := ⟨h.1.cell 0, h.1.cell 1, h.1.cell 2⟩
theorem KT.trans {a c : World} (h : KT s a wr) (g : KT s wr c) : KT s a c := fun z y0 y1 y2 q => g z y0 y1 y2 (h z y0 y1 y2 q)
theorem KT.below (f : Below wr.heap.size wr w1) : KT s wr w1 := fun _ _ _ _ h => ⟨Blk.keep h.1 (Fr.of_below f) (Blk.lt h.1) (by simp), h.2⟩
theorem KT.sm (e : Sm w1 wr) : KT s wr w1 := KT.below (e.below (Below.refl _ _))
theorem KT.fr {x : Nat} (f : Fr wr.heap.size [x] wr w1) (hx : x < s + 2) : KT s wr w1 := fun z _ _ _ h => ⟨Blk.keep h.1 f (Blk.lt h.1) (by have := h.2; simp; omega), h.2⟩
theorem TT.hi (t : TT w wr s l h l' h') : s + 2 ≤ wr.heap.size := t.r.lt
theorem TT.keep (t : TT w wr s l h l' h') (f : Below wr.heap.size wr w1) : TT w w1 s l h l' h' := by
  have := t.hi
  exact ⟨t.q.keep (Fr.of_below f) (by omega) (by simp), t.r.keep (Fr.of_below f) (by omega) (by simp), t.bel.trans (f.mono (by omega))⟩
theorem TT.sm (t : TT w wr s l h l' h') (e : Sm w1 wr) : TT w w1 s l h l' h' := t.keep (e.below (Below.refl _ _))
theorem TT.half (t : TT w wr s l h l h) (q : ST v1 s l' h') (f : Fr wr.heap.size [s] wr v1) : TT w v1 s l h l' h' ∧ KT s wr v1 := by
  have := t.hi
  exact ⟨⟨q, t.r.keep f (by omega) (by simp), fr_own t.bel f (by omega) (by simp)⟩, KT.fr f (by omega)⟩
theorem TT.full (t : TT w wr s l h l' h') (r : SD v1 (s + 1) l' h') (f : Fr wr.heap.size [s + 1] wr v1) : TT w v1 s l' h' l' h' ∧ KT s wr v1 := by
  have := t.hi
  exact ⟨⟨t.q.keep f (by omega) (by simp), r, fr_own t.bel f (by omega) (by simp)⟩, KT.fr f (by omega)⟩
end

section
variable {w : World} {r l h : Nat}
theorem sdbegin_any (x : Nat) (hx : x < 18446744073709551616) (w : World) (q : SD w r l h) :
    Calls Try.prog 23 #[.pointer (some ⟨r, 0, none⟩), .int .u64 (x : Int)] w fun e w' => e = .returned (.int .i64 (beE l h x)) ∧ SD w' r (beL l h x) h ∧ Fr w.heap.size [r] w w' := by
  obtain ⟨on, m, k, d, e⟩ := q
  have b := e.begun
  refine (dbegin_any x hx w d).mono fun _ w' ⟨r1, r2, r3⟩ => ?_
  cases on
  · by_cases z : x = 0
    · obtain ⟨a1, rfl⟩ := r2 rfl z
      rw [show beE l h x = 2 by simp [beE, b, z], show beL l h x = l by simp [beL, beE, b, z]]
      exact ⟨a1, ⟨_, _, _, d, e⟩, Fr.refl _ _ _⟩
    · obtain ⟨a1, a2, a3⟩ := r3 rfl z
      rw [show beE l h x = 0 by simp [beE, b, z], show beL l h x = x by simp [beL, beE, b, z]]
      exact ⟨a1, ⟨_, _, _, a2, rel_begin e hx z⟩, a3⟩
  · obtain ⟨a1, rfl⟩ := r1 rfl
    rw [show beE l h x = 7 by simp [beE, b], show beL l h x = l by simp [beL, beE, b]]
    exact ⟨a1, ⟨_, _, _, d, e⟩, Fr.refl _ _ _⟩
theorem sdack_any (c : Int) (w : World) (q : SD w r l h) :
    Calls Try.prog 25 #[.pointer (some ⟨r, 0, none⟩), .int .i64 c] w fun e w' => e = .returned (.int .i64 (acE l c)) ∧ SD w' r (acL l c) (acH l h c) ∧ Fr w.heap.size [r] w w' := by
  obtain ⟨on, m, k, d, e⟩ := q
  have b := e.must c
  refine (dack_any c w d).mono fun _ w' ⟨r1, r2, r3⟩ => ?_
  rw [← b] at r1 r2
  cases t : tb l c
  · rw [t, if_neg (by simp)] at r1 r2
    rw [show acE l c = 6 by simp [acE, t], show acL l c = l by simp [acL, t], show acH l h c = h by simp [acH, t]]
    exact ⟨r1, ⟨_, _, _, r2, e⟩, r3⟩
  · rw [t, if_pos rfl] at r1 r2
    rw [show acE l c = 0 by simp [acE, t], show acL l c = nt l (bv c) by simp [acL, t], show acH l h c = h ||| bv c by simp [acH, t]]
    exact ⟨r1, ⟨_, _, _, r2, rel_ack e t⟩, r3⟩
theorem sdfree_any (w : World) (q : SD w r l h) :
    Calls Try.prog 27 #[.pointer (some ⟨r, 0, none⟩)] w fun e w' => e = .returned (.int .i64 (frE l h)) ∧ SD w' r 0 0 ∧ Fr w.heap.size [r] w w' := by
  obtain ⟨on, m, k, d, e⟩ := q
  have b := e.begun
  refine (dfree_any w d).mono fun _ w' ⟨r1, r2, r3⟩ => ⟨?_, ⟨_, _, _, r2, rel_free e⟩, r3⟩
  rw [r1]
  unfold frE
  rw [b]
theorem sdmust_any (c : Int) (w : World) (q : SD w r l h) :
    Calls Try.prog 30 #[.pointer (some ⟨r, 0, none⟩), .int .i64 c] w fun e w' => e = .returned (.bool (tb l c)) ∧ w' = w := by
  obtain ⟨on, m, k, d, e⟩ := q
  rw [e.must c]
  exact dmust_any c w d
theorem sdholds_any (c : Int) (w : World) (q : SD w r l h) :
    Calls Try.prog 32 #[.pointer (some ⟨r, 0, none⟩), .int .i64 c] w fun e w' => e = .returned (.bool (tb h c)) ∧ w' = w := by
  obtain ⟨on, m, k, d, e⟩ := q
  rw [e.held c]
  exact dholds_any c w d
theorem sdleft_any (w : World) (q : SD w r l h) :
    Calls Try.prog 36 #[.pointer (some ⟨r, 0, none⟩)] w fun e w' => e = .returned (.int .u64 (l : Int)) ∧ Below w.heap.size w w' := by
  obtain ⟨on, m, k, d, e⟩ := q
  have := dleft_any w d
  rwa [← e.left] at this
theorem sdready_any (w : World) (q : SD w r l h) :
    Calls Try.prog 34 #[.pointer (some ⟨r, 0, none⟩)] w fun e w' => e = .returned (.bool (rdB l h)) ∧ Below w.heap.size w w' := by
  obtain ⟨on, m, k, d, e⟩ := q
  have := dready_any w d
  rw [← e.left] at this
  unfold rdB
  rwa [e.begun]
end

section
variable {w v1 w1 : World} {s l h : Nat}
theorem tt_begin (x : Nat) (hx : x < 18446744073709551616) (t : TT w v1 s l h l h) (e : Sm w1 v1) :
    Calls Try.prog 22 #[.pointer (some ⟨s, 0, none⟩), .int .u64 (x : Int)] w1 fun r w' => r = .returned (.int .i64 (beE l h x)) ∧ TT w w' s l h (beL l h x) h ∧ KT s v1 w' :=
  (tbegin_any x hx w1 (t.sm e).q).mono fun _ _ ⟨r1, r2, r3⟩ => ⟨r1, ((t.sm e).half r2 r3).1, (KT.sm e).trans ((t.sm e).half r2 r3).2⟩
theorem tt_rbegin (x : Nat) (hx : x < 18446744073709551616) (t : TT w v1 s l h (beL l h x) h) (e : Sm w1 v1) :
    Calls Try.prog 23 #[.pointer (some ⟨s + 1, 0, none⟩), .int .u64 (x : Int)] w1 fun r w' => r = .returned (.int .i64 (beE l h x)) ∧ TT w w' s (beL l h x) h (beL l h x) h ∧ KT s v1 w' :=
  (sdbegin_any x hx w1 (t.sm e).r).mono fun _ _ ⟨r1, r2, r3⟩ => ⟨r1, ((t.sm e).full r2 r3).1, (KT.sm e).trans ((t.sm e).full r2 r3).2⟩
theorem tt_ack (c : Int) (t : TT w v1 s l h l h) (e : Sm w1 v1) :
    Calls Try.prog 24 #[.pointer (some ⟨s, 0, none⟩), .int .i64 c] w1 fun r w' => r = .returned (.int .i64 (acE l c)) ∧ TT w w' s l h (acL l c) (acH l h c) ∧ KT s v1 w' :=
  (tack_any c w1 (t.sm e).q).mono fun _ _ ⟨r1, r2, r3⟩ => ⟨r1, ((t.sm e).half r2 r3).1, (KT.sm e).trans ((t.sm e).half r2 r3).2⟩
theorem tt_rack (c : Int) (t : TT w v1 s l h (acL l c) (acH l h c)) (e : Sm w1 v1) :
    Calls Try.prog 25 #[.pointer (some ⟨s + 1, 0, none⟩), .int .i64 c] w1 fun r w' => r = .returned (.int .i64 (acE l c)) ∧ TT w w' s (acL l c) (acH l h c) (acL l c) (acH l h c) ∧ KT s v1 w' :=
  (sdack_any c w1 (t.sm e).r).mono fun _ _ ⟨r1, r2, r3⟩ => ⟨r1, ((t.sm e).full r2 r3).1, (KT.sm e).trans ((t.sm e).full r2 r3).2⟩
theorem tt_free (t : TT w v1 s l h l h) (e : Sm w1 v1) :
    Calls Try.prog 26 #[.pointer (some ⟨s, 0, none⟩)] w1 fun r w' => r = .returned (.int .i64 (frE l h)) ∧ TT w w' s l h 0 0 ∧ KT s v1 w' :=
  (tfree_any w1 (t.sm e).q).mono fun _ _ ⟨r1, r2, r3⟩ => ⟨r1, ((t.sm e).half r2 r3).1, (KT.sm e).trans ((t.sm e).half r2 r3).2⟩
theorem tt_rfree (t : TT w v1 s l h 0 0) (e : Sm w1 v1) :
    Calls Try.prog 27 #[.pointer (some ⟨s + 1, 0, none⟩)] w1 fun r w' => r = .returned (.int .i64 (frE l h)) ∧ TT w w' s 0 0 0 0 ∧ KT s v1 w' :=
  (sdfree_any w1 (t.sm e).r).mono fun _ _ ⟨r1, r2, r3⟩ => ⟨r1, ((t.sm e).full r2 r3).1, (KT.sm e).trans ((t.sm e).full r2 r3).2⟩
theorem tt_on (t : TT w v1 s l h l h) (e : Sm w1 v1) :
    Calls Try.prog 28 #[.pointer (some ⟨s, 0, none⟩)] w1 fun r w' => r = .returned (.bool (onB l h)) ∧ TT w w' s l h l h ∧ KT s v1 w' :=
  (ton_any w1 (t.sm e).q).mono fun _ _ ⟨r1, r2⟩ => ⟨r1, (t.sm e).sm r2, (KT.sm e).trans (KT.sm r2)⟩
theorem tt_must (c : Int) (t : TT w v1 s l h l h) (e : Sm w1 v1) :
    Calls Try.prog 29 #[.pointer (some ⟨s, 0, none⟩), .int .i64 c] w1 fun r w' => r = .returned (.bool (tb l c)) ∧ TT w w' s l h l h ∧ KT s v1 w' :=
  (tmust_any c w1 (t.sm e).q).mono fun _ _ ⟨r1, r2⟩ => ⟨r1, (t.sm e).sm r2, (KT.sm e).trans (KT.sm r2)⟩
theorem tt_rmust (c : Int) (t : TT w v1 s l h l h) (e : Sm w1 v1) :
    Calls Try.prog 30 #[.pointer (some ⟨s + 1, 0, none⟩), .int .i64 c] w1 fun r w' => r = .returned (.bool (tb l c)) ∧ TT w w' s l h l h ∧ KT s v1 w' :=
  (sdmust_any c w1 (t.sm e).r).mono fun _ _ ⟨r1, r2⟩ => by rw [r2]; exact ⟨r1, t.sm e, KT.sm e⟩
theorem tt_held (c : Int) (t : TT w v1 s l h l h) (e : Sm w1 v1) :
    Calls Try.prog 31 #[.pointer (some ⟨s, 0, none⟩), .int .i64 c] w1 fun r w' => r = .returned (.bool (tb h c)) ∧ TT w w' s l h l h ∧ KT s v1 w' :=
  (theld_any c w1 (t.sm e).q).mono fun _ _ ⟨r1, r2⟩ => ⟨r1, (t.sm e).sm r2, (KT.sm e).trans (KT.sm r2)⟩
theorem tt_rholds (c : Int) (t : TT w v1 s l h l h) (e : Sm w1 v1) :
    Calls Try.prog 32 #[.pointer (some ⟨s + 1, 0, none⟩), .int .i64 c] w1 fun r w' => r = .returned (.bool (tb h c)) ∧ TT w w' s l h l h ∧ KT s v1 w' :=
  (sdholds_any c w1 (t.sm e).r).mono fun _ _ ⟨r1, r2⟩ => by rw [r2]; exact ⟨r1, t.sm e, KT.sm e⟩
theorem tt_ready (t : TT w v1 s l h l h) (e : Sm w1 v1) :
    Calls Try.prog 33 #[.pointer (some ⟨s, 0, none⟩)] w1 fun r w' => r = .returned (.bool (rdB l h)) ∧ TT w w' s l h l h ∧ KT s v1 w' :=
  (tready_any w1 (t.sm e).q).mono fun _ _ ⟨r1, r2⟩ => ⟨r1, (t.sm e).sm r2, (KT.sm e).trans (KT.sm r2)⟩
theorem tt_rready (t : TT w v1 s l h l h) (e : Sm w1 v1) :
    Calls Try.prog 34 #[.pointer (some ⟨s + 1, 0, none⟩)] w1 fun r w' => r = .returned (.bool (rdB l h)) ∧ TT w w' s l h l h ∧ KT s v1 w' :=
  (sdready_any w1 (t.sm e).r).mono fun _ _ ⟨r1, r2⟩ => ⟨r1, (t.sm e).keep r2, (KT.sm e).trans (KT.below r2)⟩
theorem tt_left (t : TT w v1 s l h l h) (e : Sm w1 v1) :
    Calls Try.prog 35 #[.pointer (some ⟨s, 0, none⟩)] w1 fun r w' => r = .returned (.int .u64 (l : Int)) ∧ TT w w' s l h l h ∧ KT s v1 w' :=
  (tleft_any w1 (t.sm e).q).mono fun _ _ ⟨r1, r2⟩ => by rw [r2]; exact ⟨r1, t.sm e, KT.sm e⟩
theorem tt_rleft (t : TT w v1 s l h l h) (e : Sm w1 v1) :
    Calls Try.prog 36 #[.pointer (some ⟨s + 1, 0, none⟩)] w1 fun r w' => r = .returned (.int .u64 (l : Int)) ∧ TT w w' s l h l h ∧ KT s v1 w' :=
  (sdleft_any w1 (t.sm e).r).mono fun _ _ ⟨r1, r2⟩ => ⟨r1, (t.sm e).keep r2, (KT.sm e).trans (KT.below r2)⟩
end
end Go.Proofs.Ytbmdfoohabipjaa
