/- A governor that a law has made, beside all that was there before; what its calls leave of it; and that law 24's fixed calls hold. -/
import Derived.Test.YtjfmokfjnjbheaaRows
import Derived.Test.YtjfmokfjnjbheaaGh
import Derived.WalkKit
import Derived.ProofKit
import Derived.OpenShut
import Derived.BigQuiet
namespace Go.Proofs.Ytjfmokfjnjbheaa
open Go.ChangeShapes Go.WideShapes Go.ChangeAt Go.RowKit

instance (lo hi : Int) : Decidable (Lim lo hi) := inferInstanceAs (Decidable (_ ∧ _ ∧ _))
instance (x : Fq) : Decidable (Fok x) := inferInstanceAs (Decidable (_ ∧ _ ∧ _))

/-- What Set answers, and leaves. -/
def stE (a b : Int) : Int := if Lim a b then 0 else 2
def stL (a b lo : Int) : Int := if Lim a b then a else lo
def stH (a b hi : Int) : Int := if Lim a b then b else hi
/-- What Feed answers, and leaves. -/
def fdN (a b lo hi : Int) (q : List Fq) : Int := if Fok ⟨a, b⟩ then fr lo hi (nxt q ⟨a, b⟩) else 0
def fdE (a b : Int) : Int := if Fok ⟨a, b⟩ then 0 else 2
def fdQ (a b : Int) (q : List Fq) : List Fq := if Fok ⟨a, b⟩ then nxt q ⟨a, b⟩ else q
def fdP (a b : Int) (p : Nat) : Nat := if Fok ⟨a, b⟩ then (p + 1) % 4 else p
theorem st_lim {a b lo hi : Int} (h : Lim lo hi) : Lim (stL a b lo) (stH a b hi) := by
  unfold stL stH
  split <;> assumption

/-- The program's governor at block s; all below block s is as it was. -/
structure GW (w wr : World) (s : Nat) (lo hi : Int) (q : List Fq) (p : Nat) : Prop where
  g : PG wr s lo hi q p
  lim : Lim lo hi
  bel : Below s w wr

section
variable {w wr w1 : World} {s p : Nat} {lo hi : Int} {q : List Fq}
theorem GW.top (t : GW w wr s lo hi q p) : s < wr.heap.size := t.g.sb.lt
theorem GW.sm (t : GW w wr s lo hi q p) (e : Sm w1 wr) : GW w w1 s lo hi q p := ⟨t.g.heap e.1, t.lim, e.below t.bel⟩
theorem GW.more (t : GW w wr s lo hi q p) (e : Below wr.heap.size wr w1) : GW w w1 s lo hi q p := ⟨t.g.below e, t.lim, t.bel.trans (e.mono (Nat.le_of_lt t.top))⟩
theorem GW.turn {lo' hi' : Int} {q' : List Fq} {p' : Nat} (t : GW w wr s lo hi q p) (g : PG w1 s lo' hi' q' p') (l : Lim lo' hi') (f : Fr wr.heap.size [s] wr w1) : GW w w1 s lo' hi' q' p' :=
  ⟨g, l, fr_own t.bel f (Nat.le_of_lt t.top) (by simp)⟩
theorem gw_limits (t : GW w wr s lo hi q p) : Calls Try.prog 26 #[.pointer (some ⟨s, 0, none⟩)] wr fun e w' => e = .returned (.tuple #[.int .i64 lo, .int .i64 hi]) ∧ GW w w' s lo hi q p :=
  (glimits_any wr t.g).mono fun _ _ ⟨r1, r2⟩ => ⟨r1, t.sm r2⟩
theorem gw_busy (t : GW w wr s lo hi q p) : Calls Try.prog 29 #[.pointer (some ⟨s, 0, none⟩)] wr fun e w' => e = .returned (.int .i64 (bz q)) ∧ GW w w' s lo hi q p :=
  (gbusy_any wr t.g).mono fun _ _ ⟨r1, r2⟩ => ⟨r1, t.more r2⟩
theorem gw_freq (t : GW w wr s lo hi q p) : Calls Try.prog 27 #[.pointer (some ⟨s, 0, none⟩)] wr fun e w' => e = .returned (.int .i64 (fr lo hi q)) ∧ GW w w' s lo hi q p :=
  (gfreq_any wr t.g t.lim).mono fun _ _ ⟨r1, r2⟩ => ⟨r1, t.more r2⟩
theorem gset_any (a b : Int) (h : PG wr s lo hi q p) : Calls Try.prog 22 #[.pointer (some ⟨s, 0, none⟩), .int .i64 a, .int .i64 b] wr fun e w' => e = .returned (.int .i64 (stE a b)) ∧ PG w' s (stL a b lo) (stH a b hi) q p ∧ Fr wr.heap.size [s] wr w' := by
  unfold stE stL stH
  by_cases l : Lim a b
  · rw [if_pos l, if_pos l, if_pos l]
    exact gset_ok a b wr h l
  · rw [if_neg l, if_neg l, if_neg l]
    exact (gset_bad a b wr l).mono fun _ _ ⟨r1, r2⟩ => by rw [r2]; exact ⟨r1, h, Fr.refl _ _ _⟩
theorem gfeed_any (a b : Int) (h : PG wr s lo hi q p) (hl : Lim lo hi) : Calls Try.prog 24 #[.pointer (some ⟨s, 0, none⟩), .int .i64 a, .int .i64 b] wr fun e w' => e = .returned (.tuple #[.int .i64 (fdN a b lo hi q), .int .i64 (fdE a b)]) ∧ PG w' s lo hi (fdQ a b q) (fdP a b p) ∧ Fr wr.heap.size [s] wr w' := by
  unfold fdN fdE fdQ fdP
  by_cases l : Fok ⟨a, b⟩
  · rw [if_pos l, if_pos l, if_pos l, if_pos l]
    exact gfeed_ok a b wr h hl l
  · rw [if_neg l, if_neg l, if_neg l, if_neg l]
    exact (gfeed_bad a b wr l).mono fun _ _ ⟨r1, r2⟩ => by rw [r2]; exact ⟨r1, h, Fr.refl _ _ _⟩
theorem gw_set (a b : Int) (t : GW w wr s lo hi q p) : Calls Try.prog 22 #[.pointer (some ⟨s, 0, none⟩), .int .i64 a, .int .i64 b] wr fun e w' => e = .returned (.int .i64 (stE a b)) ∧ GW w w' s (stL a b lo) (stH a b hi) q p :=
  (gset_any a b t.g).mono fun _ _ ⟨r1, r2, r3⟩ => ⟨r1, t.turn r2 (st_lim t.lim) r3⟩
theorem gw_feed (a b : Int) (t : GW w wr s lo hi q p) : Calls Try.prog 24 #[.pointer (some ⟨s, 0, none⟩), .int .i64 a, .int .i64 b] wr fun e w' => e = .returned (.tuple #[.int .i64 (fdN a b lo hi q), .int .i64 (fdE a b)]) ∧ GW w w' s lo hi (fdQ a b q) (fdP a b p) :=
  (gfeed_any a b t.g t.lim).mono fun _ _ ⟨r1, r2, r3⟩ => ⟨r1, t.turn r2 t.lim r3⟩
end

set_option maxHeartbeats 400000 in
theorem gknown_yes (w : World) :
    Calls Try.prog 21 #[] w fun e w' => e = .returned (.bool true) ∧ Below w.heap.size w w' := by
  have C0 : Hid (∀ _ : Unit, _) := fun _ => gnew_ok 100 200 w (by decide)
  obtain ⟨s, hs⟩ : ∃ s, w.heap.size = s := ⟨_, rfl⟩
  rw [hs] at C0 ⊢
  clear hs
  go_enter Try.func21, Try.ntmps21
  go_wp2_with fail
  refine (C0.out ()).mono ?_
  rintro e u1 ⟨rfl, g1, b1⟩
  have T1 : GW w u1 s 100 200 (lf []) 0 := ⟨g1, by decide, b1⟩
  have C1 : Hid (∀ _ : Unit, _) := fun _ => gw_feed 1 2 T1
  rw [show fdN 1 2 100 200 (lf []) = 150 by decide, show fdE 1 2 = 0 by decide] at C1
  clear T1 g1 b1 C0
  go_wp2_with fail
  refine (C1.out ()).mono ?_
  rintro e u2 ⟨rfl, t2⟩
  have T2 : Hid _ := t2
  clear t2 C1
  go_wp2_with fail
  refine (gw_limits T2.out).mono ?_
  rintro e u3 ⟨rfl, t3⟩
  have C3 : Hid (∀ _ : Unit, _) := fun _ => gw_busy t3
  rw [show bz (fdQ 1 2 (lf [])) = 50 by decide] at C3
  clear t3 T2
  go_wp2_with fail
  refine (C3.out ()).mono ?_
  rintro e u4 ⟨rfl, t4⟩
  have B : Hid (Below s w u4) := t4.bel
  clear t4
  go_wp2
  go_ret
  exact ⟨rfl, B.out⟩

/-- The k youngest of them are all alike. -/
def Tl (q : List Fq) (k : Nat) (x : Fq) : Prop := q.drop (4 - k) = List.replicate k x
theorem tl_zero {q : List Fq} (h : q.length = 4) (x : Fq) : Tl q 0 x := by
  unfold Tl
  rw [List.drop_of_length_le (by omega)]
  rfl
theorem tl_nxt {q : List Fq} {k : Nat} {x : Fq} (h : q.length = 4) (t : Tl q k x) (hk : k < 4) : Tl (nxt q x) (k + 1) x := by
  unfold Tl nxt at *
  rw [List.drop_append_of_le_length (by rw [List.length_drop]; omega), List.drop_drop, show 1 + (4 - (k + 1)) = 4 - k by omega, t, List.replicate_succ']
theorem tl_four {q : List Fq} {x : Fq} (t : Tl q 4 x) : q = [x, x, x, x] := by
  unfold Tl at t
  simpa using t
theorem fr_none {lo hi st : Int} {q : List Fq} (t : Tl q 4 ⟨0, st⟩) : fr lo hi q = lo := by
  rw [tl_four t]
  exact fr_low rfl
theorem fr_full {lo hi st : Int} {q : List Fq} (hl : lo ≤ hi) (hs : 1 ≤ st) (t : Tl q 4 ⟨st, st⟩) : fr lo hi q = hi := by
  rw [tl_four t]
  exact fr_high hl rfl (by simp only [sa]; omega)
end Go.Proofs.Ytjfmokfjnjbheaa
