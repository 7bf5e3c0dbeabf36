/- A gate of the program and the document's, side by side: what each call of law 19, and its 'do', leaves of them; acts in blocks of their own stay as they are. -/
import Derived.Test.YtbmdfoohabipjaaEb
import Derived.Test.YtbmdfoohabipjaaEd
import Derived.WalkKit
import Derived.ProofKit
import Derived.OpenShut
import Derived.BigQuiet
import Derived.Deep.RegionHeld3
namespace Go.Proofs.Ytbmdfoohabipjaa
open Go.ChangeShapes Go.WideShapes Go.ChangeAt Go.RowKit
open Pm Em

/-- Both gates, one behind the other from block s on: the document's is st with readers L, the program's st' with L'. -/
structure GG (w wr : World) (s : Nat) (st st' : Int) (L L' : List Int) : Prop where
  q : GT wr (s + 2) s st' L'
  r : RG wr (s + 4) (s + 3) st L
  bel : Below s w wr
/-- An act at block z. -/
def AG (w : World) (s z : Nat) (y0 y1 : Int) : Prop := Blk w z [.int .i64 y0, .int .i64 y1] 32 ∧ s + 5 ≤ z
/-- All acts are as they were. -/
def KA (s : Nat) (w w' : World) : Prop := ∀ z y0 y1, AG w s z y0 y1 → AG w' s z y0 y1

section
variable {w wr v1 w1 : World} {s z : Nat} {st st' : Int} {L L' : List Int} {y0 y1 : Int}
theorem AG.cells (h : AG w s z y0 y1) : w.cell? ⟨z, 0, none⟩ = some (.int .i64 y0) ∧ w.cell? ⟨z, 1, none⟩ = some (.int .i64 y1) := ⟨h.1.cell 0, h.1.cell 1⟩
theorem KA.refl (s : Nat) (w : World) : KA s w w := fun _ _ _ h => h
theorem KA.trans {a c : World} (h : KA s a wr) (g : KA s wr c) : KA s a c := fun z y0 y1 q => g z y0 y1 (h z y0 y1 q)
theorem KA.below (f : Below wr.heap.size wr w1) : KA s wr w1 := fun _ _ _ h => ⟨Blk.keep h.1 (Fr.of_below f) (Blk.lt h.1) (by simp), h.2⟩
theorem KA.sm (e : Sm w1 wr) : KA s wr w1 := KA.below (e.below (Below.refl _ _))
theorem KA.fr {x : Nat} (f : Fr wr.heap.size [x] wr w1) (hx : x < s + 5) : KA s wr w1 := fun z _ _ h => ⟨Blk.keep h.1 f (Blk.lt h.1) (by have := h.2; simp; omega), h.2⟩
theorem GG.hi (h : GG w wr s st st' L L') : s + 5 ≤ wr.heap.size := h.r.sb.lt
theorem GG.keep (h : GG w wr s st st' L L') (f : Below wr.heap.size wr w1) : GG w w1 s st st' L L' := by
  have := h.hi
  exact ⟨h.q.keep (Fr.of_below f) ⟨by omega, by omega⟩ ⟨by simp, by simp⟩, h.r.keep (Fr.of_below f) ⟨by omega, by omega⟩ ⟨by simp, by simp⟩, h.bel.trans (f.mono (by omega))⟩
theorem GG.sm (h : GG w wr s st st' L L') (e : Sm w1 wr) : GG w w1 s st st' L L' := h.keep (e.below (Below.refl _ _))
/-- The program has acted. -/
theorem GG.half {x : Nat} (h : GG w wr s st st L L) (q : GT v1 (s + 2) s st' L') (f : Fr wr.heap.size [x] wr v1) (hx : s ≤ x ∧ x < s + 3) : GG w v1 s st st' L L' ∧ KA s wr v1 := by
  have := h.hi
  exact ⟨⟨q, h.r.keep f ⟨by omega, by omega⟩ ⟨by simp; omega, by simp; omega⟩, fr_own h.bel f (by omega) (by simp; omega)⟩, KA.fr f (by omega)⟩
/-- The document has acted, too. -/
theorem GG.full {x : Nat} (h : GG w wr s st st' L L') (r : RG v1 (s + 4) (s + 3) st' L') (f : Fr wr.heap.size [x] wr v1) (hx : s + 3 ≤ x ∧ x < s + 5) : GG w v1 s st' st' L' L' ∧ KA s wr v1 := by
  have := h.hi
  exact ⟨⟨h.q.keep f ⟨by omega, by omega⟩ ⟨by simp; omega, by simp; omega⟩, r, fr_own h.bel f (by omega) (by simp; omega)⟩, KA.fr f (by omega)⟩
end

section
variable {w v1 w1 : World} {s z : Nat} {st : Int} {L : List Int}
theorem gg_enter (c : Int) (h : GG w v1 s st st L L) (e : Sm w1 v1) :
    Calls Try.prog 19 #[.pointer (some ⟨s + 2, 0, none⟩), .int .i64 c] w1 fun r w' => r = .returned (.int .i64 (enE st L c)) ∧ GG w w' s st st L (enL st L c) ∧ KA s v1 w' :=
  (genter_any c w1 (h.sm e).q).mono fun _ _ ⟨r1, r2, r3⟩ => ⟨r1, ((h.sm e).half r2 r3 (by omega)).1, (KA.sm e).trans ((h.sm e).half r2 r3 (by omega)).2⟩
theorem gg_renter (c : Int) (h : GG w v1 s st st L (enL st L c)) (e : Sm w1 v1) :
    Calls Try.prog 41 #[.pointer (some ⟨s + 4, 0, none⟩), .int .i64 c] w1 fun r w' => r = .returned (.int .i64 (enE st L c)) ∧ GG w w' s st st (enL st L c) (enL st L c) ∧ KA s v1 w' :=
  (rgenter_any c w1 (h.sm e).r).mono fun _ _ ⟨r1, r2, r3⟩ => ⟨r1, ((h.sm e).full r2 r3 (by omega)).1, (KA.sm e).trans ((h.sm e).full r2 r3 (by omega)).2⟩
theorem gg_leave (c : Int) (h : GG w v1 s st st L L) (e : Sm w1 v1) :
    Calls Try.prog 20 #[.pointer (some ⟨s + 2, 0, none⟩), .int .i64 c] w1 fun r w' => r = .returned (.int .i64 (leE L c)) ∧ GG w w' s st st L (leL L c) ∧ KA s v1 w' :=
  (gleave_any c w1 (h.sm e).q).mono fun _ _ ⟨r1, r2, r3⟩ => ⟨r1, ((h.sm e).half r2 r3 (by omega)).1, (KA.sm e).trans ((h.sm e).half r2 r3 (by omega)).2⟩
theorem gg_rleave (c : Int) (h : GG w v1 s st st L (leL L c)) (e : Sm w1 v1) :
    Calls Try.prog 42 #[.pointer (some ⟨s + 4, 0, none⟩), .int .i64 c] w1 fun r w' => r = .returned (.int .i64 (leE L c)) ∧ GG w w' s st st (leL L c) (leL L c) ∧ KA s v1 w' :=
  (rgleave_any c w1 (h.sm e).r).mono fun _ _ ⟨r1, r2, r3⟩ => ⟨r1, ((h.sm e).full r2 r3 (by omega)).1, (KA.sm e).trans ((h.sm e).full r2 r3 (by omega)).2⟩
theorem gg_want (h : GG w v1 s st st L L) (e : Sm w1 v1) :
    Calls Try.prog 18 #[.pointer (some ⟨s + 2, 0, none⟩)] w1 fun r w' => r = .returned (.int .i64 (waE st)) ∧ GG w w' s st (waS st) L L ∧ KA s v1 w' :=
  (gwant_any w1 (h.sm e).q).mono fun _ _ ⟨r1, r2, r3⟩ => ⟨r1, ((h.sm e).half r2 r3 (by omega)).1, (KA.sm e).trans ((h.sm e).half r2 r3 (by omega)).2⟩
theorem gg_rwant (h : GG w v1 s st (waS st) L L) (e : Sm w1 v1) :
    Calls Try.prog 43 #[.pointer (some ⟨s + 4, 0, none⟩)] w1 fun r w' => r = .returned (.int .i64 (waE st)) ∧ GG w w' s (waS st) (waS st) L L ∧ KA s v1 w' :=
  (rgwant_any w1 (h.sm e).r).mono fun _ _ ⟨r1, r2, r3⟩ => ⟨r1, ((h.sm e).full r2 r3 (by omega)).1, (KA.sm e).trans ((h.sm e).full r2 r3 (by omega)).2⟩
theorem gg_take (h : GG w v1 s st st L L) (e : Sm w1 v1) :
    Calls Try.prog 21 #[.pointer (some ⟨s + 2, 0, none⟩)] w1 fun r w' => r = .returned (.int .i64 (tkE st L)) ∧ GG w w' s st (tkS st L) L L ∧ KA s v1 w' :=
  (gtake_any w1 (h.sm e).q).mono fun _ _ ⟨r1, r2, r3⟩ => ⟨r1, ((h.sm e).half r2 r3 (by omega)).1, (KA.sm e).trans ((h.sm e).half r2 r3 (by omega)).2⟩
theorem gg_rtake (h : GG w v1 s st (tkS st L) L L) (e : Sm w1 v1) :
    Calls Try.prog 44 #[.pointer (some ⟨s + 4, 0, none⟩)] w1 fun r w' => r = .returned (.int .i64 (tkE st L)) ∧ GG w w' s (tkS st L) (tkS st L) L L ∧ KA s v1 w' :=
  (rgtake_any w1 (h.sm e).r).mono fun _ _ ⟨r1, r2, r3⟩ => ⟨r1, ((h.sm e).full r2 r3 (by omega)).1, (KA.sm e).trans ((h.sm e).full r2 r3 (by omega)).2⟩
theorem gg_free (h : GG w v1 s st st L L) (e : Sm w1 v1) :
    Calls Try.prog 17 #[.pointer (some ⟨s + 2, 0, none⟩)] w1 fun r w' => r = .returned (.int .i64 (frE st)) ∧ GG w w' s st 0 L L ∧ KA s v1 w' :=
  (gfree_any w1 (h.sm e).q).mono fun _ _ ⟨r1, r2, r3⟩ => ⟨r1, ((h.sm e).half r2 r3 (by omega)).1, (KA.sm e).trans ((h.sm e).half r2 r3 (by omega)).2⟩
theorem gg_rfree (h : GG w v1 s st 0 L L) (e : Sm w1 v1) :
    Calls Try.prog 45 #[.pointer (some ⟨s + 4, 0, none⟩)] w1 fun r w' => r = .returned (.int .i64 (frE st)) ∧ GG w w' s 0 0 L L ∧ KA s v1 w' :=
  (rgfree_any w1 (h.sm e).r).mono fun _ _ ⟨r1, r2, r3⟩ => ⟨r1, ((h.sm e).full r2 r3 (by omega)).1, (KA.sm e).trans ((h.sm e).full r2 r3 (by omega)).2⟩
theorem gg_state (h : GG w v1 s st st L L) (e : Sm w1 v1) :
    Calls Try.prog 13 #[.pointer (some ⟨s + 2, 0, none⟩)] w1 fun r w' => r = .returned (.int .i64 st) ∧ GG w w' s st st L L ∧ KA s v1 w' :=
  (gstate_any w1 (h.sm e).q).mono fun _ _ ⟨r1, r2⟩ => by rw [r2]; exact ⟨r1, h.sm e, KA.sm e⟩
theorem gg_readers (h : GG w v1 s st st L L) (e : Sm w1 v1) :
    Calls Try.prog 14 #[.pointer (some ⟨s + 2, 0, none⟩)] w1 fun r w' => r = .returned (.int .i64 L.sum) ∧ GG w w' s st st L L ∧ KA s v1 w' :=
  (greaders_any w1 (h.sm e).q).mono fun _ _ ⟨r1, r2⟩ => by rw [r2]; exact ⟨r1, h.sm e, KA.sm e⟩
theorem gg_rreaders (h : GG w v1 s st st L L) (e : Sm w1 v1) :
    Calls Try.prog 15 #[.pointer (some ⟨s + 4, 0, none⟩)] w1 fun r w' => r = .returned (.int .i64 L.sum) ∧ GG w w' s st st L L ∧ KA s v1 w' :=
  (rgreaders_any w1 (h.sm e).r).mono fun _ _ ⟨r1, r2⟩ => by rw [r2]; exact ⟨r1, h.sm e, KA.sm e⟩
theorem gg_on (c : Int) (h : GG w v1 s st st L L) (e : Sm w1 v1) :
    Calls Try.prog 16 #[.pointer (some ⟨s + 2, 0, none⟩), .int .i64 c] w1 fun r w' => r = .returned (.int .i64 (gtN L c)) ∧ GG w w' s st st L L ∧ KA s v1 w' :=
  (gOn_any c w1 (h.sm e).q).mono fun _ _ ⟨r1, r2⟩ => by rw [r2]; exact ⟨r1, h.sm e, KA.sm e⟩
end

set_option maxRecDepth 100000 in
set_option maxHeartbeats 2000000 in
theorem gg_do {w v1 w1 : World} {s : Nat} {st : Int} {L : List Int} (y0 y1 : Int) (h : GG w v1 s st st L L) (e : Sm w1 v1) :
    Calls Try.prog 12 #[.pointer (some ⟨s + 2, 0, none⟩), .pointer (some ⟨s + 4, 0, none⟩), .agg #[.int .i64 y0, .int .i64 y1]] w1 fun r w' => r = .returned (.bool true) ∧ ∃ st2 L2, GG w w' s st2 st2 L2 L2 ∧ KA s v1 w' ∧ L2.length = L.length ∧ (Rs st L → Rs st2 L2) := by
  have h0 := h.sm e
  have HR : Hid (Rd L) := h.q.rd
  have b0 : Below w1.heap.size w1 (w1.alloc (.cells #[.int .i64 y0, .int .i64 y1] 32)) := (Below.refl _ _).alloc (Nat.le_refl _) _
  obtain ⟨z, hzz⟩ : ∃ z, w1.heap.size = z := ⟨_, rfl⟩
  have HZZ : Hid (w1.heap.size = z) := hzz
  obtain ⟨u0, hu0⟩ : ∃ u0, w1.alloc (.cells #[.int .i64 y0, .int .i64 y1] 32) = u0 := ⟨_, rfl⟩
  have HU0 : Hid (w1.alloc (.cells #[.int .i64 y0, .int .i64 y1] 32) = u0) := hu0
  have Q0 : Hid (GG w u0 s st st L L) := by rw [← hu0]; exact h0.keep b0
  have a0 : AG u0 s z y0 y1 := by rw [← hu0, ← hzz]; exact ⟨Blk.new w1 [.int .i64 y0, .int .i64 y1] _, h0.hi⟩
  have A0 : Hid (AG u0 s z y0 y1) := a0
  have K0 : Hid (KA s v1 u0) := by rw [← hu0]; exact (KA.sm e).trans (KA.below b0)
  obtain ⟨i0, i1⟩ := a0.cells
  clear h e h0 b0 hzz hu0 a0
  by_cases t0 : y0.tmod 5 = 0
  · have e0 : (y0.tmod 5 == 0) = true := by simpa using t0
    clear t0
    have C1 : Hid (∀ w1, Sm w1 u0 → _) := fun w1 e => gg_enter y1 Q0.out (w1 := w1) e
    have C2 : Hid (∀ v1 w1, GG w v1 s st st L (enL st L y1) → Sm w1 v1 → _) := fun v1 w1 h e => gg_renter y1 h (w1 := w1) e
    have LN : Hid ((enL st L y1).length = L.length ∧ (Rs st L → Rs st (enL st L y1))) := ⟨en_len _ _ _, fun h => rs_en h _⟩
    generalize enE st L y1 = ee at *
    generalize enL st L y1 = L2 at *
    have s1 : (ee == ee) = true := by simp
    go_enter Try.func12, Try.ntmps12
    go_wp2_with fail
    rw [HU0.out, HZZ.out]
    go_region_held3 (fun w' => w'.cell? ⟨z, 1, none⟩ = some (.int .i64 y1)) (go_keep)
      (first | (go_at_call 19; refine (C1.out _ ?_).mono ?_; exact ⟨rfl, rfl, rfl, rfl⟩; rintro e v2 ⟨rfl, q1, t1⟩; obtain ⟨k0, k1⟩ := (t1 _ _ _ A0.out).cells; have R1 : Hid (GG w v2 s st st L L2) := q1; have T1 : Hid (KA s u0 v2) := t1; clear q1 t1) | (go_at_call 41; refine (C2.out v2 _ R1.out ?_).mono ?_; exact ⟨rfl, rfl, rfl, rfl⟩; rintro e v3 ⟨rfl, q2, t2⟩; obtain ⟨l0, l1⟩ := (t2 _ _ _ (T1.out _ _ _ A0.out)).cells; have R2 : Hid (GG w v3 s st st L2 L2 ∧ KA s v1 v3) := ⟨q2, (K0.out.trans T1.out).trans t2⟩; clear q2 t2))
    go_wp2
    go_ret
    exact ⟨rfl, st, L2, R2.out.1.sm ⟨rfl, rfl, rfl, rfl⟩, R2.out.2.trans (KA.sm ⟨rfl, rfl, rfl, rfl⟩), LN.out⟩
  · have e0 : (y0.tmod 5 == 0) = false := by simpa using t0
    by_cases t1 : y0.tmod 5 = 1
    · have e1 : (y0.tmod 5 == 1) = true := by simpa using t1
      clear t0 t1
      have C1 : Hid (∀ w1, Sm w1 u0 → _) := fun w1 e => gg_leave y1 Q0.out (w1 := w1) e
      have C2 : Hid (∀ v1 w1, GG w v1 s st st L (leL L y1) → Sm w1 v1 → _) := fun v1 w1 h e => gg_rleave y1 h (w1 := w1) e
      have LN : Hid ((leL L y1).length = L.length ∧ (Rs st L → Rs st (leL L y1))) := ⟨le_len _ _, fun h => rs_le HR.out h _⟩
      generalize leE L y1 = ee at *
      generalize leL L y1 = L2 at *
      have s1 : (ee == ee) = true := by simp
      go_enter Try.func12, Try.ntmps12
      go_wp2_with fail
      rw [HU0.out, HZZ.out]
      go_region_held3 (fun w' => w'.cell? ⟨z, 1, none⟩ = some (.int .i64 y1)) (go_keep)
        (first | (go_at_call 20; refine (C1.out _ ?_).mono ?_; exact ⟨rfl, rfl, rfl, rfl⟩; rintro e v2 ⟨rfl, q1, t1⟩; obtain ⟨k0, k1⟩ := (t1 _ _ _ A0.out).cells; have R1 : Hid (GG w v2 s st st L L2) := q1; have T1 : Hid (KA s u0 v2) := t1; clear q1 t1) | (go_at_call 42; refine (C2.out v2 _ R1.out ?_).mono ?_; exact ⟨rfl, rfl, rfl, rfl⟩; rintro e v3 ⟨rfl, q2, t2⟩; obtain ⟨l0, l1⟩ := (t2 _ _ _ (T1.out _ _ _ A0.out)).cells; have R2 : Hid (GG w v3 s st st L2 L2 ∧ KA s v1 v3) := ⟨q2, (K0.out.trans T1.out).trans t2⟩; clear q2 t2))
      go_wp2
      go_ret
      exact ⟨rfl, st, L2, R2.out.1.sm ⟨rfl, rfl, rfl, rfl⟩, R2.out.2.trans (KA.sm ⟨rfl, rfl, rfl, rfl⟩), LN.out⟩
    · have e1 : (y0.tmod 5 == 1) = false := by simpa using t1
      by_cases t2 : y0.tmod 5 = 2
      · have e2 : (y0.tmod 5 == 2) = true := by simpa using t2
        clear t0 t1 t2
        have C1 : Hid (∀ w1, Sm w1 u0 → _) := fun w1 e => gg_want Q0.out (w1 := w1) e
        have C2 : Hid (∀ v1 w1, GG w v1 s st (waS st) L L → Sm w1 v1 → _) := fun v1 w1 h e => gg_rwant h (w1 := w1) e
        have LN : Hid (L.length = L.length ∧ (Rs st L → Rs (waS st) L)) := ⟨rfl, fun h => rs_wa h⟩
        generalize waE st = ee at *
        generalize waS st = st2 at *
        have s1 : (ee == ee) = true := by simp
        go_enter Try.func12, Try.ntmps12
        go_wp2_with fail
        rw [HU0.out, HZZ.out]
        refine (C1.out _ ⟨rfl, rfl, rfl, rfl⟩).mono ?_
        rintro e v2 ⟨rfl, q1, t1⟩
        have R1 : Hid _ := q1
        have T1 : Hid _ := t1
        clear q1 t1
        go_wp2_with fail
        refine (C2.out v2 _ R1.out ⟨rfl, rfl, rfl, rfl⟩).mono ?_
        rintro e v3 ⟨rfl, q2, t2⟩
        have R2 : Hid (GG w v3 s st2 st2 L L ∧ KA s v1 v3) := ⟨q2, (K0.out.trans T1.out).trans t2⟩
        clear q2 t2
        go_wp2
        go_ret
        exact ⟨rfl, st2, L, R2.out.1, R2.out.2, rfl, LN.out.2⟩
      · have e2 : (y0.tmod 5 == 2) = false := by simpa using t2
        by_cases t3 : y0.tmod 5 = 3
        · have e3 : (y0.tmod 5 == 3) = true := by simpa using t3
          clear t0 t1 t2 t3
          have C1 : Hid (∀ w1, Sm w1 u0 → _) := fun w1 e => gg_take Q0.out (w1 := w1) e
          have C2 : Hid (∀ v1 w1, GG w v1 s st (tkS st L) L L → Sm w1 v1 → _) := fun v1 w1 h e => gg_rtake h (w1 := w1) e
          have LN : Hid (L.length = L.length ∧ (Rs st L → Rs (tkS st L) L)) := ⟨rfl, fun h => rs_tk HR.out h⟩
          generalize tkE st L = ee at *
          generalize tkS st L = st2 at *
          have s1 : (ee == ee) = true := by simp
          go_enter Try.func12, Try.ntmps12
          go_wp2_with fail
          rw [HU0.out, HZZ.out]
          refine (C1.out _ ⟨rfl, rfl, rfl, rfl⟩).mono ?_
          rintro e v2 ⟨rfl, q1, t1⟩
          have R1 : Hid _ := q1
          have T1 : Hid _ := t1
          clear q1 t1
          go_wp2_with fail
          refine (C2.out v2 _ R1.out ⟨rfl, rfl, rfl, rfl⟩).mono ?_
          rintro e v3 ⟨rfl, q2, t2⟩
          have R2 : Hid (GG w v3 s st2 st2 L L ∧ KA s v1 v3) := ⟨q2, (K0.out.trans T1.out).trans t2⟩
          clear q2 t2
          go_wp2
          go_ret
          exact ⟨rfl, st2, L, R2.out.1, R2.out.2, rfl, LN.out.2⟩
        · have e3 : (y0.tmod 5 == 3) = false := by simpa using t3
          clear t0 t1 t2 t3
          have C1 : Hid (∀ w1, Sm w1 u0 → _) := fun w1 e => gg_free Q0.out (w1 := w1) e
          have C2 : Hid (∀ v1 w1, GG w v1 s st 0 L L → Sm w1 v1 → _) := fun v1 w1 h e => gg_rfree h (w1 := w1) e
          have LN : Hid (L.length = L.length ∧ (Rs st L → Rs 0 L)) := ⟨rfl, fun h => rs_fr _⟩
          generalize frE st = ee at *
          have s1 : (ee == ee) = true := by simp
          go_enter Try.func12, Try.ntmps12
          go_wp2_with fail
          rw [HU0.out, HZZ.out]
          refine (C1.out _ ⟨rfl, rfl, rfl, rfl⟩).mono ?_
          rintro e v2 ⟨rfl, q1, t1⟩
          have R1 : Hid _ := q1
          have T1 : Hid _ := t1
          clear q1 t1
          go_wp2_with fail
          refine (C2.out v2 _ R1.out ⟨rfl, rfl, rfl, rfl⟩).mono ?_
          rintro e v3 ⟨rfl, q2, t2⟩
          have R2 : Hid (GG w v3 s 0 0 L L ∧ KA s v1 v3) := ⟨q2, (K0.out.trans T1.out).trans t2⟩
          clear q2 t2
          go_wp2
          go_ret
          exact ⟨rfl, 0, L, R2.out.1, R2.out.2, rfl, LN.out.2⟩
end Go.Proofs.Ytbmdfoohabipjaa
