/- Lists of works of the program and the document's, side by side, and acts that are played (in blocks of their own): what each call of law 17 leaves of them. -/
import Derived.Test.YtofdhljgchefgaaDoorGc
import Derived.Test.YtofdhljgchefgaaDoorGs
import Derived.Test.YtofdhljgchefgaaDoorFi
import Derived.WalkKit
import Derived.ProofKit
import Derived.OpenShut
import Derived.BigQuiet
namespace Go.Proofs.YtofdhljgchefgaaDoor
open Go.ChangeShapes Go.WideShapes Go.ChangeAt Go.RowKit
open Fm Sl Cm

/-- The document's lists, all of whose blocks lie above. -/
def GF (w : World) (lo b lb p : Nat) (K : Ks) : Prop := ∃ V, RX 69 w b lb p V K ∧ lo ≤ b ∧ lo ≤ lb ∧ ∀ g ∈ bl V, lo ≤ g
theorem GF.keep {B : Nat} {S : List Nat} {w w' : World} {lo b lb p : Nat} {K : Ks} (h : GF w lo b lb p K) (f : Fr B S w w') (hB : w.heap.size ≤ B) (hS : ∀ k ∈ S, k < lo) : GF w' lo b lb p K := by
  obtain ⟨V, r, h1, h2, h3⟩ := h
  exact ⟨V, r.keep f hB (fun q => by have := hS _ q; omega) (fun q => by have := hS _ q; omega) fun g hg q => by have := hS _ q; have := h3 g hg; omega, h1, h2, h3⟩

/-- Both hold the same works; they lie apart, behind all that was there before. (K': the program's, K: the document's.) -/
structure GZ (w wr : World) (s b lb n : Nat) (K K' : Ks) : Prop where
  x : GX wr s n K'
  r : GF wr (s + (7 + 2 * n)) b lb (n + 1) K
  al : Al K
  kn : K.length = n + 1
  bel : Below s w wr
  tb : Tab w
  s0 : 0 < s

/-- An act in a block of its own, above. -/
def AW (w : World) (s n z : Nat) (y0 y1 y2 : Int) : Prop := Blk w z [.int .i64 y0, .int .i64 y1, .int .i64 y2] 32 ∧ s + (7 + 2 * n) ≤ z
/-- All acts are as they were. -/
def KA (s n : Nat) (w w' : World) : Prop := ∀ z y0 y1 y2, AW w s n z y0 y1 y2 → AW w' s n z y0 y1 y2

section
variable {w wr v1 w1 : World} {s b lb n z : Nat} {K K' : Ks} {y0 y1 y2 : Int}
theorem GZ.tab (h : GZ w wr s b lb n K K') : Tab wr := h.tb.keep h.s0 (by simp) (Fr.of_below h.bel)
theorem GZ.hi (h : GZ w wr s b lb n K K') : s + (7 + 2 * n) ≤ wr.heap.size := h.x.hi
theorem GZ.keep (h : GZ w wr s b lb n K K') (f : Below wr.heap.size wr w1) : GZ w w1 s b lb n K K' :=
  ⟨h.x.below f, h.r.keep (Fr.of_below f) (Nat.le_refl _) (by simp), h.al, h.kn, h.bel.trans (f.mono (by have := h.hi; omega)), h.tb, h.s0⟩
theorem GZ.sm (h : GZ w wr s b lb n K K') (e : Sm w1 wr) : GZ w w1 s b lb n K K' := h.keep (e.below (Below.refl _ _))
theorem KA.refl (s n : Nat) (w : World) : KA s n w w := fun _ _ _ _ h => h
theorem KA.trans {a c : World} (h : KA s n a wr) (g : KA s n wr c) : KA s n a c := fun z y0 y1 y2 q => g z y0 y1 y2 (h z y0 y1 y2 q)
theorem KA.below (f : Below wr.heap.size wr w1) : KA s n wr w1 := fun _ _ _ _ h => ⟨Blk.keep h.1 (Fr.of_below f) (Blk.lt h.1) (by simp), h.2⟩
theorem KA.sm (e : Sm w1 wr) : KA s n wr w1 := KA.below (e.below (Below.refl _ _))
theorem AW.cells (h : AW wr s n z y0 y1 y2) : wr.cell? ⟨z, 0, none⟩ = some (.int .i64 y0) ∧ wr.cell? ⟨z, 1, none⟩ = some (.int .i64 y1) ∧ wr.cell? ⟨z, 2, none⟩ = some (.int .i64 y2) :=
  ⟨h.1.cell 0, h.1.cell 1, h.1.cell 2⟩

/-- The program has acted. -/
theorem GZ.half (h : GZ w wr s b lb n K K) {K2 : Ks} (q : GX v1 s n K2) (f : Fr wr.heap.size (gz s n) wr v1) : GZ w v1 s b lb n K K2 ∧ KA s n wr v1 := by
  have hz : ∀ k ∈ gz s n, k < s + (7 + 2 * n) := fun k hk => ((mem_gz s n k).1 hk).2
  refine ⟨⟨q, h.r.keep f (Nat.le_refl _) hz, h.al, h.kn, h.bel.trans ((f.less (by have := h.hi; omega)).below fun k hk => ((mem_gz s n k).1 hk).1), h.tb, h.s0⟩, fun z y0 y1 y2 a => ⟨Blk.keep a.1 f (Blk.lt a.1) (fun q => by have := hz _ q; have := a.2; omega), a.2⟩⟩
/-- The document has acted, too. -/
theorem GZ.full {V : List Value} (h : GZ w wr s b lb n K K') (al' : Al K') (r : RX 69 wr b lb (n + 1) V K) (l1 : s + (7 + 2 * n) ≤ b) (l2 : s + (7 + 2 * n) ≤ lb) (l3 : ∀ g ∈ bl V, s + (7 + 2 * n) ≤ g) (rc : RC 69 wr v1 b lb (n + 1) V K') : GZ w v1 s b lb n K' K' ∧ KA s n wr v1 := by
  obtain ⟨V', r', hV'⟩ := rc.ex
  have hi := h.hi
  have lo : ∀ k ∈ lb :: bl V, s + (7 + 2 * n) ≤ k := fun k hk => by
    simp only [List.mem_cons] at hk
    rcases hk with e | e
    · omega
    · exact l3 k e
  refine ⟨⟨h.x.keep rc.fr (Nat.le_refl _) fun k _ hk q => ?_, ⟨V', r', l1, l2, fun g hg => ?_⟩, al', h.x.kn, h.bel.trans ((rc.fr.less (by omega)).below fun k hk => by have := lo k hk; omega), h.tb, h.s0⟩, fun z y0 y1 y2 a => ⟨Blk.keep a.1 rc.fr (Blk.lt a.1) (fun q => ?_), a.2⟩⟩
  · have := lo k q
    omega
  · rcases hV' g hg with e | e
    · exact l3 g e
    · omega
  · simp only [List.mem_cons] at q
    rcases q with e | e
    · exact (Blk.ne a.1 r.sl (by decide)) e
    · exact r.not a.1 (by decide) e
end

section
variable {w v1 w1 : World} {s b lb n z : Nat} {K : Ks} {y0 y1 y2 : Int}
theorem gz_queue (c : Int) (h : GZ w v1 s b lb n K K) (e : Sm w1 v1) :
    Calls Tryd.prog 20 #[.pointer (some ⟨s + 6, 0, none⟩), .int .i64 c] w1 fun r w' => r = .returned (.tuple #[.int .i64 (quN n K c), .int .i64 (quE n K c)]) ∧ GZ w w' s b lb n K (quK n K c) ∧ KA s n v1 w' :=
  (queue_any c (h.sm e).x (h.sm e).tab).mono fun _ _ ⟨r1, r2, r3⟩ => ⟨r1, ((h.sm e).half r2 r3).1, (KA.sm e).trans ((h.sm e).half r2 r3).2⟩
theorem gz_rqueue (c : Int) (h : GZ w v1 s b lb n K (quK n K c)) (e : Sm w1 v1) :
    Calls Tryd.prog 40 #[.pointer (some ⟨b, 0, none⟩), .int .i64 c] w1 fun r w' => r = .returned (.tuple #[.int .i64 (quN n K c), .int .i64 (quE n K c)]) ∧ GZ w w' s b lb n (quK n K c) (quK n K c) ∧ KA s n v1 w' := by
  obtain ⟨V, r, l1, l2, l3⟩ := (h.sm e).r
  exact (rgqueue_any c w1 r h.al rfl).mono fun _ w2 ⟨r1, r2⟩ => ⟨r1, ((h.sm e).full (al_quK h.al h.kn c).1 r l1 l2 l3 r2).1, (KA.sm e).trans ((h.sm e).full (al_quK h.al h.kn c).1 r l1 l2 l3 r2).2⟩
theorem gz_take (c : Int) (h : GZ w v1 s b lb n K K) (e : Sm w1 v1) :
    Calls Tryd.prog 21 #[.pointer (some ⟨s + 6, 0, none⟩), .int .i64 c] w1 fun r w' => r = .returned (.tuple #[.int .i64 (taN n K c), .int .i64 (taE n K c)]) ∧ GZ w w' s b lb n K (taK n K c) ∧ KA s n v1 w' :=
  (gtake_any c (h.sm e).x).mono fun _ _ ⟨r1, r2, r3⟩ => ⟨r1, ((h.sm e).half r2 r3).1, (KA.sm e).trans ((h.sm e).half r2 r3).2⟩
theorem gz_rtake (c : Int) (h : GZ w v1 s b lb n K (taK n K c)) (e : Sm w1 v1) :
    Calls Tryd.prog 41 #[.pointer (some ⟨b, 0, none⟩), .int .i64 c] w1 fun r w' => r = .returned (.tuple #[.int .i64 (taN n K c), .int .i64 (taE n K c)]) ∧ GZ w w' s b lb n (taK n K c) (taK n K c) ∧ KA s n v1 w' := by
  obtain ⟨V, r, l1, l2, l3⟩ := (h.sm e).r
  exact (rgtake_any c w1 r h.al rfl).mono fun _ w2 ⟨r1, r2⟩ => ⟨r1, ((h.sm e).full (al_taK h.al h.kn c).1 r l1 l2 l3 r2).1, (KA.sm e).trans ((h.sm e).full (al_taK h.al h.kn c).1 r l1 l2 l3 r2).2⟩
theorem gz_unbind (c : Int) (h : GZ w v1 s b lb n K K) (e : Sm w1 v1) :
    Calls Tryd.prog 22 #[.pointer (some ⟨s + 6, 0, none⟩), .int .i64 c] w1 fun r w' => r = .returned (.tuple #[.int .i64 (unN n K c), .int .i64 (unE n K c)]) ∧ GZ w w' s b lb n K (unK n K c) ∧ KA s n v1 w' :=
  (unbind_any c (h.sm e).x).mono fun _ _ ⟨r1, r2, r3⟩ => ⟨r1, ((h.sm e).half r2 r3).1, (KA.sm e).trans ((h.sm e).half r2 r3).2⟩
theorem gz_runbind (c : Int) (h : GZ w v1 s b lb n K (unK n K c)) (e : Sm w1 v1) :
    Calls Tryd.prog 42 #[.pointer (some ⟨b, 0, none⟩), .int .i64 c] w1 fun r w' => r = .returned (.tuple #[.int .i64 (unN n K c), .int .i64 (unE n K c)]) ∧ GZ w w' s b lb n (unK n K c) (unK n K c) ∧ KA s n v1 w' := by
  obtain ⟨V, r, l1, l2, l3⟩ := (h.sm e).r
  exact (rgunbind_any c w1 r h.al rfl).mono fun _ w2 ⟨r1, r2⟩ => ⟨r1, ((h.sm e).full (al_unK h.al h.kn c).1 r l1 l2 l3 r2).1, (KA.sm e).trans ((h.sm e).full (al_unK h.al h.kn c).1 r l1 l2 l3 r2).2⟩
theorem gz_drop (c : Int) (hi : (Lit.int .i64 c).wf = true) (h : GZ w v1 s b lb n K K) (e : Sm w1 v1) :
    Calls Tryd.prog 23 #[.pointer (some ⟨s + 6, 0, none⟩), .int .i64 c] w1 fun r w' => r = .returned (.int .i64 (drE K c)) ∧ GZ w w' s b lb n K (drK K c) ∧ KA s n v1 w' :=
  (gdrop_any c hi (h.sm e).x).mono fun _ _ ⟨r1, r2, r3⟩ => ⟨r1, ((h.sm e).half r2 r3).1, (KA.sm e).trans ((h.sm e).half r2 r3).2⟩
theorem gz_rdrop (c : Int) (h : GZ w v1 s b lb n K (drK K c)) (e : Sm w1 v1) :
    Calls Tryd.prog 43 #[.pointer (some ⟨b, 0, none⟩), .int .i64 c] w1 fun r w' => r = .returned (.int .i64 (drE K c)) ∧ GZ w w' s b lb n (drK K c) (drK K c) ∧ KA s n v1 w' := by
  obtain ⟨V, r, l1, l2, l3⟩ := (h.sm e).r
  exact (rgdrop_any c w1 r h.al rfl).mono fun _ w2 ⟨r1, r2⟩ => ⟨r1, ((h.sm e).full (al_drK h.al h.kn c).1 r l1 l2 l3 r2).1, (KA.sm e).trans ((h.sm e).full (al_drK h.al h.kn c).1 r l1 l2 l3 r2).2⟩

theorem gz_where (c : Int) (hi : (Lit.int .i64 c).wf = true) (h : GZ w v1 s b lb n K K) (e : Sm w1 v1) :
    Calls Tryd.prog 13 #[.pointer (some ⟨s + 6, 0, none⟩), .int .i64 c] w1 fun r w' => r = .returned (.tuple #[.int .i64 (whN n K c), .bool (haB K c)]) ∧ GZ w w' s b lb n K K ∧ KA s n v1 w' :=
  (gwhere_any c hi (h.sm e).x).mono fun _ _ ⟨r1, r2⟩ => by rw [r2]; exact ⟨r1, h.sm e, KA.sm e⟩
theorem gz_rwhere (c : Int) (h : GZ w v1 s b lb n K K) (e : Sm w1 v1) :
    Calls Tryd.prog 14 #[.pointer (some ⟨b, 0, none⟩), .int .i64 c] w1 fun r w' => r = .returned (.tuple #[.int .i64 (whN n K c), .bool (haB K c)]) ∧ GZ w w' s b lb n K K ∧ KA s n v1 w' := by
  obtain ⟨V, r, l1, l2, l3⟩ := (h.sm e).r
  exact (rgwhere_any c w1 r h.al rfl).mono fun _ _ ⟨r1, r2⟩ => by rw [r2]; exact ⟨r1, h.sm e, KA.sm e⟩
theorem gz_has (c : Int) (hi : (Lit.int .i64 c).wf = true) (h : GZ w v1 s b lb n K K) (e : Sm w1 v1) :
    Calls Tryd.prog 15 #[.pointer (some ⟨s + 6, 0, none⟩), .int .i64 c] w1 fun r w' => r = .returned (.bool (haB K c)) ∧ GZ w w' s b lb n K K ∧ KA s n v1 w' :=
  (ghas_any c hi (h.sm e).x).mono fun _ _ ⟨r1, r2⟩ => by rw [r2]; exact ⟨r1, h.sm e, KA.sm e⟩
theorem gz_load (c : Int) (h : GZ w v1 s b lb n K K) (e : Sm w1 v1) :
    Calls Tryd.prog 19 #[.pointer (some ⟨s + 6, 0, none⟩), .int .i64 c] w1 fun r w' => r = .returned (.int .i64 ((wlL n K c).length : Int)) ∧ GZ w w' s b lb n K K ∧ KA s n v1 w' :=
  (gload_any c (h.sm e).x).mono fun _ _ ⟨r1, r2⟩ => by rw [r2]; exact ⟨r1, h.sm e, KA.sm e⟩
theorem gz_list (c : Int) (h : GZ w v1 s b lb n K K) (e : Sm w1 v1) :
    Calls Tryd.prog 17 #[.pointer (some ⟨s + 6, 0, none⟩), .int .i64 c] w1 fun r w' => ∃ x cp, r = .returned (.slice x (wlL n K c).length cp) ∧ GZ w w' s b lb n K K ∧ KA s n v1 w' ∧ Row w' (.slice x (wlL n K c).length cp) (wlL n K c) := by
  refine (glist_any c (h.sm e).x).mono fun _ w' ⟨v, r1, r2, r3⟩ => ?_
  obtain ⟨x, cp, rfl⟩ := own_shape r2
  exact ⟨x, cp, r1, (h.sm e).keep r3, (KA.sm e).trans (KA.below r3), row_of_owns r2⟩
theorem gz_rlist (c : Int) (h : GZ w v1 s b lb n K K) (e : Sm w1 v1) :
    Calls Tryd.prog 18 #[.pointer (some ⟨b, 0, none⟩), .int .i64 c] w1 fun r w' => ∃ x cp, r = .returned (.slice x (wlL n K c).length cp) ∧ GZ w w' s b lb n K K ∧ KA s n v1 w' ∧ Row w' (.slice x (wlL n K c).length cp) (wlL n K c) ∧ ∀ u xs, Row v1 u xs → Row w' u xs := by
  obtain ⟨V, r, l1, l2, l3⟩ := (h.sm e).r
  refine (rglist_any c w1 r rfl).mono fun _ w' ⟨x, cp, r1, r2, r3⟩ => ?_
  rw [r3]
  exact ⟨x, cp, r1, h.sm e, KA.sm e, r2, fun u xs q => q.keep (Fr.of_below (e.below (Below.refl v1.heap.size v1))) (Nat.le_refl _)⟩
theorem gz_ints {u v : Value} (c : Int) (h : GZ w v1 s b lb n K K) (q : Row v1 u (wlL n K c)) (q' : Row v1 v (wlL n K c)) (e : Sm w1 v1) :
    Calls Tryd.prog 16 #[u, v] w1 fun r w' => r = .returned (.bool true) ∧ GZ w w' s b lb n K K ∧ KA s n v1 w' := by
  have f : Fr v1.heap.size [] v1 w1 := Fr.of_below (e.below (Below.refl _ _))
  have l : ((wlL n K c).length : Int) ≤ 100000 := by
    unfold wlL
    split
    · rename_i k _
      have := h.al.len k; omega
    · simp
  refine (ints_any (wlL n K c) u v w1 l (q.keep f (Nat.le_refl _)) (q'.keep f (Nat.le_refl _))).mono fun _ w' ⟨r1, m, r2⟩ => ⟨r1, ?_⟩
  rw [r2]
  exact ⟨(h.sm e).sm ⟨rfl, rfl, rfl, rfl⟩, (KA.sm e).trans (KA.sm ⟨rfl, rfl, rfl, rfl⟩)⟩
end

set_option maxRecDepth 100000 in
set_option maxHeartbeats 4000000 in
theorem gz_do {w v1 w1 : World} {s b lb n : Nat} {K : Ks} (y0 y1 y2 : Int) (hi : (Lit.int .i64 y2).wf = true) (h : GZ w v1 s b lb n K K) (e : Sm w1 v1) :
    Calls Tryd.prog 12 #[.pointer (some ⟨s + 6, 0, none⟩), .pointer (some ⟨b, 0, none⟩), .agg #[.int .i64 y0, .int .i64 y1, .int .i64 y2]] w1 fun r w' => r = .returned (.bool true) ∧ ∃ K2, GZ w w' s b lb n K2 K2 ∧ KA s n v1 w' := by
  have h0 := h.sm e
  have b0 : Below w1.heap.size w1 (w1.alloc (.cells #[.int .i64 y0, .int .i64 y1, .int .i64 y2] 32)) := (Below.refl _ _).alloc (Nat.le_refl _) _
  obtain ⟨z, hzz⟩ : ∃ z, w1.heap.size = z := ⟨_, rfl⟩
  have HZZ : Hid (w1.heap.size = z) := hzz
  obtain ⟨u0, hu0⟩ : ∃ u0, w1.alloc (.cells #[.int .i64 y0, .int .i64 y1, .int .i64 y2] 32) = u0 := ⟨_, rfl⟩
  have HU0 : Hid (w1.alloc (.cells #[.int .i64 y0, .int .i64 y1, .int .i64 y2] 32) = u0) := hu0
  have Q0 : Hid (GZ w u0 s b lb n K K) := by rw [← hu0]; exact h0.keep b0
  have a0 : AW u0 s n z y0 y1 y2 := by rw [← hu0, ← hzz]; exact ⟨Blk.new w1 [.int .i64 y0, .int .i64 y1, .int .i64 y2] _, h0.hi⟩
  have A0 : Hid (AW u0 s n z y0 y1 y2) := a0
  have K0 : Hid (KA s n v1 u0) := by rw [← hu0]; exact (KA.sm e).trans (KA.below b0)
  have HW : Hid ((Lit.int .i64 y2).wf = true) := hi
  obtain ⟨i0, i1, i2⟩ := a0.cells
  clear h e h0 b0 hzz hu0 a0 hi
  by_cases t0 : y0.tmod 4 = 0
  · have e0 : (y0.tmod 4 == 0) = true := by simpa using t0
    clear t0
    have C1 : Hid (∀ w1, Sm w1 u0 → _) := fun w1 e => gz_queue y1 Q0.out (w1 := w1) e
    have C2 : Hid (∀ v1 w1, GZ w v1 s b lb n K (quK n K y1) → Sm w1 v1 → _) := fun v1 w1 h e => gz_rqueue y1 h (w1 := w1) e
    generalize quN n K y1 = nn at *
    generalize quE n K y1 = ee at *
    generalize quK n K y1 = K2 at *
    have s1 : (nn == nn) = true := by simp
    have s2 : (ee == ee) = true := by simp
    go_enter Tryd.func12, Tryd.ntmps12
    go_wp2_with fail
    rw [HU0.out, HZZ.out]
    refine (C1.out _ ⟨rfl, rfl, rfl, rfl⟩).mono ?_
    rintro e v2 ⟨rfl, q1, t1⟩
    obtain ⟨k0, k1, k2⟩ := (t1 _ _ _ _ A0.out).cells
    have R1 : Hid _ := q1
    have T1 : Hid _ := t1
    clear q1 t1
    go_wp2_with fail
    refine (C2.out v2 _ R1.out ⟨rfl, rfl, rfl, rfl⟩).mono ?_
    rintro e v3 ⟨rfl, q2, t2⟩
    have R2 : Hid (GZ w v3 s b lb n K2 K2 ∧ KA s n v1 v3) := ⟨q2, (K0.out.trans T1.out).trans t2⟩
    clear q2 t2 k0 k1 k2
    go_wp2
    go_ret
    exact ⟨rfl, K2, R2.out⟩
  · have e0 : (y0.tmod 4 == 0) = false := by simpa using t0
    by_cases t1 : y0.tmod 4 = 1
    · have e1 : (y0.tmod 4 == 1) = true := by simpa using t1
      clear t0 t1
      have C1 : Hid (∀ w1, Sm w1 u0 → _) := fun w1 e => gz_take y1 Q0.out (w1 := w1) e
      have C2 : Hid (∀ v1 w1, GZ w v1 s b lb n K (taK n K y1) → Sm w1 v1 → _) := fun v1 w1 h e => gz_rtake y1 h (w1 := w1) e
      generalize taN n K y1 = nn at *
      generalize taE n K y1 = ee at *
      generalize taK n K y1 = K2 at *
      have s1 : (nn == nn) = true := by simp
      have s2 : (ee == ee) = true := by simp
      go_enter Tryd.func12, Tryd.ntmps12
      go_wp2_with fail
      rw [HU0.out, HZZ.out]
      refine (C1.out _ ⟨rfl, rfl, rfl, rfl⟩).mono ?_
      rintro e v2 ⟨rfl, q1, t1⟩
      obtain ⟨k0, k1, k2⟩ := (t1 _ _ _ _ A0.out).cells
      have R1 : Hid _ := q1
      have T1 : Hid _ := t1
      clear q1 t1
      go_wp2_with fail
      refine (C2.out v2 _ R1.out ⟨rfl, rfl, rfl, rfl⟩).mono ?_
      rintro e v3 ⟨rfl, q2, t2⟩
      have R2 : Hid (GZ w v3 s b lb n K2 K2 ∧ KA s n v1 v3) := ⟨q2, (K0.out.trans T1.out).trans t2⟩
      clear q2 t2 k0 k1 k2
      go_wp2
      go_ret
      exact ⟨rfl, K2, R2.out⟩
    · have e1 : (y0.tmod 4 == 1) = false := by simpa using t1
      by_cases t2 : y0.tmod 4 = 2
      · have e2 : (y0.tmod 4 == 2) = true := by simpa using t2
        clear t0 t1 t2
        have C1 : Hid (∀ w1, Sm w1 u0 → _) := fun w1 e => gz_unbind y1 Q0.out (w1 := w1) e
        have C2 : Hid (∀ v1 w1, GZ w v1 s b lb n K (unK n K y1) → Sm w1 v1 → _) := fun v1 w1 h e => gz_runbind y1 h (w1 := w1) e
        generalize unN n K y1 = nn at *
        generalize unE n K y1 = ee at *
        generalize unK n K y1 = K2 at *
        have s1 : (nn == nn) = true := by simp
        have s2 : (ee == ee) = true := by simp
        go_enter Tryd.func12, Tryd.ntmps12
        go_wp2_with fail
        rw [HU0.out, HZZ.out]
        refine (C1.out _ ⟨rfl, rfl, rfl, rfl⟩).mono ?_
        rintro e v2 ⟨rfl, q1, t1⟩
        obtain ⟨k0, k1, k2⟩ := (t1 _ _ _ _ A0.out).cells
        have R1 : Hid _ := q1
        have T1 : Hid _ := t1
        clear q1 t1
        go_wp2_with fail
        refine (C2.out v2 _ R1.out ⟨rfl, rfl, rfl, rfl⟩).mono ?_
        rintro e v3 ⟨rfl, q2, t2⟩
        have R2 : Hid (GZ w v3 s b lb n K2 K2 ∧ KA s n v1 v3) := ⟨q2, (K0.out.trans T1.out).trans t2⟩
        clear q2 t2 k0 k1 k2
        go_wp2
        go_ret
        exact ⟨rfl, K2, R2.out⟩
      · have e2 : (y0.tmod 4 == 2) = false := by simpa using t2
        have C1 : Hid (∀ w1, Sm w1 u0 → _) := fun w1 e => gz_drop y2 HW.out Q0.out (w1 := w1) e
        have C2 : Hid (∀ v1 w1, GZ w v1 s b lb n K (drK K y2) → Sm w1 v1 → _) := fun v1 w1 h e => gz_rdrop y2 h (w1 := w1) e
        generalize drE K y2 = ee at *
        generalize drK K y2 = K2 at *
        have s2 : (ee == ee) = true := by simp
        clear t0 t1 t2
        go_enter Tryd.func12, Tryd.ntmps12
        go_wp2_with fail
        rw [HU0.out, HZZ.out]
        go_region_held3 (fun w' => w'.cell? ⟨z, 2, none⟩ = some (.int .i64 y2)) (go_keep)
          (first | (go_at_call 23; refine (C1.out _ ?_).mono ?_; exact ⟨rfl, rfl, rfl, rfl⟩; rintro e v2 ⟨rfl, q1, t1⟩; obtain ⟨k0, k1, k2⟩ := (t1 _ _ _ _ A0.out).cells; have R1 : Hid (GZ w v2 s b lb n K K2) := q1; have T1 : Hid (KA s n u0 v2) := t1; clear q1 t1) | (go_at_call 43; refine (C2.out v2 _ R1.out ?_).mono ?_; exact ⟨rfl, rfl, rfl, rfl⟩; rintro e v3 ⟨rfl, q2, t2⟩; obtain ⟨l0, l1, l2⟩ := (t2 _ _ _ _ (T1.out _ _ _ _ A0.out)).cells; have R2 : Hid (GZ w v3 s b lb n K2 K2) := q2; have T2 : Hid (KA s n v1 v3) := (K0.out.trans T1.out).trans t2; clear q2 t2))
        all_goals go_wp2
        all_goals go_ret
        all_goals exact ⟨rfl, K2, R2.out.sm ⟨rfl, rfl, rfl, rfl⟩, T2.out.trans (KA.sm ⟨rfl, rfl, rfl, rfl⟩)⟩
end Go.Proofs.YtofdhljgchefgaaDoor
