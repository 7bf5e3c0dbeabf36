/- Timers of the program and the document's, side by side; what an act to both answers and leaves. -/
import Derived.Test.YtadaghhgmflfdaaDoorRows
import Derived.Test.YtadaghhgmflfdaaDoorZk
import Derived.Test.YtadaghhgmflfdaaDoorZr
import Derived.Test.YtadaghhgmflfdaaDoorZs
import Derived.WalkKit
import Derived.ProofKit
import Derived.OpenShut
import Derived.BigQuiet
import Derived.Deep.RegionHeld3
namespace Go.Proofs.YtadaghhgmflfdaaDoor
open Go.ChangeShapes Go.WideShapes Go.ChangeAt Go.RowKit
open Wm Zm Sl

theorem TX.tk {w : World} {t n : Nat} {now : Int} {K : Ks} {F : List Nat} (h : TX w t n now K F) : ∀ c, c < n → ∀ x ∈ K c, isT x.1 := by
  obtain ⟨sb, sg, tb, mb, S, G, W, O, b, a, o, rfl⟩ := h
  exact fun c hc x hx => (b.ws c hc).tks x hx

theorem rmove_any {w : World} {r n : Nat} {now : Int} {K : Ks} {F : List Nat} (c d : Int) (h : RX w r n now K F) (a : Al n K) (hT : ∀ c, c < n → ∀ x ∈ K c, isT x.1) :
    Calls Tryd.prog 36 #[.pointer (some ⟨r, 0, none⟩), .int .i64 c, .int .i64 d] w fun e w' => e = .returned (.tuple #[.int .i64 (moN n K c d), .int .i64 (moE n K c d)]) ∧ ∃ F', RX w' r n now (moK n K c d) F' ∧ Mv w w' F F' := by
  unfold moN moE moK
  by_cases hc : isC n c ∧ isC n d
  · rw [if_pos hc, if_pos hc, if_pos hc]
    obtain ⟨k, rfl, hk⟩ := core_of hc.1
    obtain ⟨j, rfl, hj⟩ := core_of hc.2
    by_cases e : (k : Int) = j
    · rw [if_pos e, if_pos e, if_pos e]
      obtain rfl : k = j := by omega
      refine (rmove_arg k hk h).mono ?_
      rintro e w' ⟨rfl, rfl⟩
      exact ⟨rfl, F, h, Mv.refl _ _⟩
    · rw [if_neg e, if_neg e, if_neg e, Int.toNat_natCast, Int.toNat_natCast]
      cases hd : K k with
      | nil =>
        refine (rmove_none k j hk hj (by omega) h hd).mono ?_
        rintro e w' ⟨rfl, rfl⟩
        exact ⟨rfl, F, h, Mv.refl _ _⟩
      | cons x R => exact rmove_yes k j hk hj (by omega) h a (hT k hk) hd
  · rw [if_neg hc, if_neg hc, if_neg hc]
    refine (rmove_range c d hc h).mono ?_
    rintro e w' ⟨rfl, rfl⟩
    exact ⟨rfl, F, h, Mv.refl _ _⟩

/-- Both hold the same; they lie apart, behind all that was there before. -/
structure PP (w0 w : World) (t r n : Nat) (now : Int) (K : Ks) (F FR : List Nat) : Prop where
  tx : TX w t n now K F
  rx : RX w r n now K FR
  lo : ∀ g ∈ F, w0.heap.size ≤ g
  lr : ∀ g ∈ FR, w0.heap.size ≤ g
  dis : ∀ g ∈ F, g ∉ FR
  bel : Below w0.heap.size w0 w
/-- .. and a box beside them. -/
structure PT (w0 w : World) (t r n : Nat) (now : Int) (K : Ks) (B : Nat) (CS : List Value) (F FR : List Nat) : Prop extends PP w0 w t r n now K F FR where
  ox : Blk w B CS 32
  of : B ∉ F
  or : B ∉ FR
/-- The program's at now1, K1; the document's at now, K; two boxes beside them. -/
structure PH (w0 w : World) (t r n : Nat) (now1 : Int) (K1 : Ks) (now : Int) (K : Ks) (B : Nat) (CS : List Value) (b : Nat) (cs : List Value) (F FR : List Nat) : Prop where
  tx : TX w t n now1 K1 F
  rx : RX w r n now K FR
  lo : ∀ g ∈ F, w0.heap.size ≤ g
  lr : ∀ g ∈ FR, w0.heap.size ≤ g
  dis : ∀ g ∈ F, g ∉ FR
  bel : Below w0.heap.size w0 w
  ox : Blk w B CS 32
  of : B ∉ F
  or : B ∉ FR
  bx : Blk w b cs 32
  bf : b ∉ F
  br : b ∉ FR
section
variable {w0 w w' : World} {t r n : Nat} {now1 now2 now : Int} {K1 K2 K : Ks} {B : Nat} {CS : List Value} {b : Nat} {cs : List Value} {F FR F' : List Nat}
theorem PP.below (h : PP w0 w t r n now K F FR) (f : Below w.heap.size w w') : PP w0 w' t r n now K F FR :=
  ⟨h.tx.below f, h.rx.below f, h.lo, h.lr, h.dis, h.bel.trans (f.mono h.bel.size)⟩
theorem PT.below (h : PT w0 w t r n now K B CS F FR) (f : Below w.heap.size w w') : PT w0 w' t r n now K B CS F FR :=
  ⟨h.toPP.below f, h.ox.keep (Fr.of_below f) h.ox.lt (by simp), h.of, h.or⟩
theorem PT.sm (h : PT w0 w t r n now K B CS F FR) (e : Sm w' w) : PT w0 w' t r n now K B CS F FR := h.below (e.below (Below.refl _ _))
theorem PP.box (h : PP w0 w t r n now K F FR) (CS : List Value) : PT w0 (w.alloc (.cells CS.toArray 32)) t r n now K w.heap.size CS F FR :=
  ⟨h.below ((Below.refl _ w).alloc (Nat.le_refl _) _), Blk.new w _ _, fun e => Nat.lt_irrefl _ (h.tx.lt e), fun e => Nat.lt_irrefl _ (h.rx.lt e)⟩
theorem PH.pt (h : PH w0 w t r n now K now K B CS b cs F FR) : PT w0 w t r n now K B CS F FR := ⟨⟨h.tx, h.rx, h.lo, h.lr, h.dis, h.bel⟩, h.ox, h.of, h.or⟩
theorem PT.box (h : PT w0 w t r n now K B CS F FR) (cs : List Value) : PH w0 (w.alloc (.cells cs.toArray 32)) t r n now K now K B CS w.heap.size cs F FR := by
  have h2 := h.below ((Below.refl _ w).alloc (Nat.le_refl _) (.cells cs.toArray 32))
  exact ⟨h2.tx, h2.rx, h2.lo, h2.lr, h2.dis, h2.bel, h2.ox, h2.of, h2.or, Blk.new w _ _, fun e => Nat.lt_irrefl _ (h.tx.lt e), fun e => Nat.lt_irrefl _ (h.rx.lt e)⟩
theorem PH.sm (h : PH w0 w t r n now1 K1 now K B CS b cs F FR) (e : Sm w' w) : PH w0 w' t r n now1 K1 now K B CS b cs F FR := by
  have f := e.below (Below.refl w.heap.size w)
  exact ⟨h.tx.below f, h.rx.below f, h.lo, h.lr, h.dis, h.bel.trans (f.mono h.bel.size), h.ox.heap e.1, h.of, h.or, h.bx.heap e.1, h.bf, h.br⟩
theorem PH.prog (h : PH w0 w t r n now1 K1 now K B CS b cs F FR) (q : TX w' t n now2 K2 F') (m : Mv w w' F F') : PH w0 w' t r n now2 K2 now K B CS b cs F' FR := by
  have hz := h.bel.size
  refine ⟨q, h.rx.keep m.fr (Nat.le_refl _) fun g hg hg2 => h.dis g hg2 hg, fun g hg => ?_, h.lr, fun g hg hg2 => ?_, fr_own h.bel m.fr hz h.lo, h.ox.keep m.fr h.ox.lt h.of, fun e => ?_, h.or, h.bx.keep m.fr h.bx.lt h.bf, fun e => ?_, h.br⟩
  · rcases m.sub g hg with e | e
    · exact h.lo g e
    · omega
  · rcases m.sub g hg with e | e
    · exact h.dis g e hg2
    · have := h.rx.lt hg2; omega
  · rcases m.sub B e with e | e
    · exact h.of e
    · have := h.ox.lt; omega
  · rcases m.sub b e with e | e
    · exact h.bf e
    · have := h.bx.lt; omega
theorem PH.doc (h : PH w0 w t r n now1 K1 now K B CS b cs F FR) (q : RX w' r n now2 K2 F') (m : Mv w w' FR F') : PH w0 w' t r n now1 K1 now2 K2 B CS b cs F F' := by
  have hz := h.bel.size
  refine ⟨h.tx.keep m.fr (Nat.le_refl _) fun g hg hg2 => h.dis g hg hg2, q, h.lo, fun g hg => ?_, fun g hg hg2 => ?_, fr_own h.bel m.fr hz h.lr, h.ox.keep m.fr h.ox.lt h.or, h.of, fun e => ?_, h.bx.keep m.fr h.bx.lt h.br, h.bf, fun e => ?_⟩
  · rcases m.sub g hg with e | e
    · exact h.lr g e
    · omega
  · rcases m.sub g hg2 with e | e
    · exact h.dis g hg e
    · have := h.tx.lt hg; omega
  · rcases m.sub B e with e | e
    · exact h.or e
    · have := h.ox.lt; omega
  · rcases m.sub b e with e | e
    · exact h.br e
    · have := h.bx.lt; omega
end
theorem rx_now {w : World} {r n : Nat} {now : Int} {K : Ks} {F : List Nat} (h : RX w r n now K F) : ∃ lb cap s, w.cell? ⟨r, 0, none⟩ = some (.slice (some ⟨lb, 0, none⟩) n cap) ∧ w.cell? ⟨lb, 0, none⟩ = some (.pointer (some ⟨s, 0, none⟩)) ∧ w.cell? ⟨s, 0, none⟩ = some (.int .i64 now) := by
  obtain ⟨lb, cap, S, G, b, rfl⟩ := h
  exact ⟨lb, cap, S 0, b.c0, b.cw b.n1, rnow_cell (b.ws 0 b.n1)⟩
theorem txL_len {n : Nat} {K : Ks} (a : Al n K) (c : Int) : (txL n K c).length ≤ 48 := by
  unfold txL
  by_cases hc : isC n c
  · rw [if_pos hc]
    unfold ids
    rw [List.length_map]
    exact a.len (by have := hc.1; have := hc.2; omega)
  · rw [if_neg hc]
    decide

set_option maxRecDepth 100000 in
set_option maxHeartbeats 8000000 in
theorem tdo_any {w0 wr : World} {t r n : Nat} {now : Int} {K : Ks} {B : Nat} {CS : List Value} {F FR : List Nat} (y0 y1 y2 y3 y4 : Int) (hi : (Lit.int .i64 y3).wf = true) (h : PT w0 wr t r n now K B CS F FR) (ht : ∀ w1, Below w0.heap.size w0 w1 → Tab w1) :
    Calls Tryd.prog 9 #[.pointer (some ⟨t, 0, none⟩), .pointer (some ⟨r, 0, none⟩), .agg #[.int .i64 y0, .int .i64 y1, .int .i64 y2, .int .i64 y3, .int .i64 y4]] wr fun e w' => e = .returned (.bool true) ∧ ∃ now' K' F' FR', PT w0 w' t r n now' K' B CS F' FR' := by
  have ha := h.box [.int .i64 y0, .int .i64 y1, .int .i64 y2, .int .i64 y3, .int .i64 y4]
  obtain ⟨wa, hwa⟩ : ∃ wa, wr.alloc (.cells #[.int .i64 y0, .int .i64 y1, .int .i64 y2, .int .i64 y3, .int .i64 y4] 32) = wa := ⟨_, rfl⟩
  have HWA : Hid (wr.alloc (.cells #[.int .i64 y0, .int .i64 y1, .int .i64 y2, .int .i64 y3, .int .i64 y4] 32) = wa) := hwa
  have ha : PH w0 wa t r n now K now K B CS wr.heap.size [.int .i64 y0, .int .i64 y1, .int .i64 y2, .int .i64 y3, .int .i64 y4] F FR := by rw [← hwa]; exact ha
  have al := h.tx.al
  have tk := h.tx.tk
  have HTB : Hid (∀ u, Sm u wa → Tab u) := fun u e => ht u (e.below ha.bel)
  have x0 := ha.bx.cell 0
  have x1 := ha.bx.cell 1
  have x2 := ha.bx.cell 2
  have x3 := ha.bx.cell 3
  have x4 := ha.bx.cell 4
  simp only [List.getElem?_cons_zero, List.getElem?_cons_succ] at x0 x1 x2 x3 x4
  clear h hwa ht
  by_cases t0 : y0.tmod 5 = 0
  · have e0 : (y0.tmod 5 == 0) = true := by simpa using t0
    clear t0
    have C1 : Hid (∀ u, Sm u wa → Calls Tryd.prog 23 #[.pointer (some ⟨t, 0, none⟩), .int .i64 y1, .int .i64 y4] u fun e w1 => e = .returned (.tuple #[.int .i64 (arN n K y1 y4), .int .i64 (arE n K y1 y4)]) ∧ (w1.cell? ⟨wr.heap.size, 1, none⟩ = some (.int .i64 y1) ∧ w1.cell? ⟨wr.heap.size, 2, none⟩ = some (.int .i64 y2) ∧ w1.cell? ⟨wr.heap.size, 3, none⟩ = some (.int .i64 y3) ∧ w1.cell? ⟨wr.heap.size, 4, none⟩ = some (.int .i64 y4)) ∧ Hid (∃ F1, PH w0 w1 t r n now (arL n K y1 y4) now K B CS wr.heap.size [.int .i64 y0, .int .i64 y1, .int .i64 y2, .int .i64 y3, .int .i64 y4] F1 FR)) := fun u e => by
      have hu := ha.sm e
      refine (arm_any y1 y4 hu.tx (HTB.out u e)).mono ?_
      rintro e1 w1 ⟨rfl, F1, q, m⟩
      have h1 := hu.prog q m
      exact ⟨rfl, ⟨h1.bx.cell 1, h1.bx.cell 2, h1.bx.cell 3, h1.bx.cell 4⟩, F1, h1⟩
    have C2 : Hid (∀ v1, (∃ F1, PH w0 v1 t r n now (arL n K y1 y4) now K B CS wr.heap.size [.int .i64 y0, .int .i64 y1, .int .i64 y2, .int .i64 y3, .int .i64 y4] F1 FR) → ∀ u, Sm u v1 → Calls Tryd.prog 32 #[.pointer (some ⟨r, 0, none⟩), .int .i64 y1, .int .i64 y4] u fun e w1 => e = .returned (.tuple #[.int .i64 (arN n K y1 y4), .int .i64 (arE n K y1 y4)]) ∧ (w1.cell? ⟨wr.heap.size, 1, none⟩ = some (.int .i64 y1) ∧ w1.cell? ⟨wr.heap.size, 2, none⟩ = some (.int .i64 y2) ∧ w1.cell? ⟨wr.heap.size, 3, none⟩ = some (.int .i64 y3) ∧ w1.cell? ⟨wr.heap.size, 4, none⟩ = some (.int .i64 y4)) ∧ Hid (∀ u', Sm u' w1 → ∃ now' K' F' FR', PT w0 u' t r n now' K' B CS F' FR')) := fun v1 ⟨F1, hv⟩ u e => by
      have hu := hv.sm e
      refine (rarm_any y1 y4 hu.rx al).mono ?_
      rintro e1 w1 ⟨rfl, F2, q, m⟩
      have h1 := hu.doc q m
      exact ⟨rfl, ⟨h1.bx.cell 1, h1.bx.cell 2, h1.bx.cell 3, h1.bx.cell 4⟩, fun u' e' => ⟨_, _, _, _, h1.pt.sm e'⟩⟩
    generalize arN n K y1 y4 = n0 at *
    have bb0 : (n0 == n0) = true := by simp
    generalize arE n K y1 y4 = n1 at *
    have bb1 : (n1 == n1) = true := by simp
    clear ha al tk HTB hi
    go_enter Tryd.func9, Tryd.ntmps9
    go_wp2_with fail
    rw [HWA.out]
    refine (C1.out _ ⟨rfl, rfl, rfl, rfl⟩).mono ?_
    rintro e v1 ⟨rfl, ⟨k1, k2, k3, k4⟩, P1⟩
    have D2 : Hid (∀ _ : Unit, _) := fun _ => C2.out v1 P1.out
    clear C2 P1
    go_wp2_with fail
    refine (D2.out () _ ⟨rfl, rfl, rfl, rfl⟩).mono ?_
    rintro e v2 ⟨rfl, ⟨j1, j2, j3, j4⟩, P2⟩
    go_wp2
    go_ret
    exact ⟨rfl, P2.out _ ⟨rfl, rfl, rfl, rfl⟩⟩
  have e0 : (y0.tmod 5 == 0) = false := by simpa using t0
  by_cases t1 : y0.tmod 5 = 1
  · have e1 : (y0.tmod 5 == 1) = true := by simpa using t1
    clear t0 t1
    have C1 : Hid (∀ u, Sm u wa → Calls Tryd.prog 28 #[.pointer (some ⟨t, 0, none⟩), .int .i64 y3] u fun e w1 => e = .returned (.int .i64 (caE n K y3)) ∧ (w1.cell? ⟨wr.heap.size, 1, none⟩ = some (.int .i64 y1) ∧ w1.cell? ⟨wr.heap.size, 2, none⟩ = some (.int .i64 y2) ∧ w1.cell? ⟨wr.heap.size, 3, none⟩ = some (.int .i64 y3) ∧ w1.cell? ⟨wr.heap.size, 4, none⟩ = some (.int .i64 y4)) ∧ Hid (∃ F1, PH w0 w1 t r n now (caK n K y3) now K B CS wr.heap.size [.int .i64 y0, .int .i64 y1, .int .i64 y2, .int .i64 y3, .int .i64 y4] F1 FR)) := fun u e => by
      have hu := ha.sm e
      refine (cancel_any y3 hi hu.tx).mono ?_
      rintro e1 w1 ⟨rfl, F1, q, m⟩
      have h1 := hu.prog q m
      exact ⟨rfl, ⟨h1.bx.cell 1, h1.bx.cell 2, h1.bx.cell 3, h1.bx.cell 4⟩, F1, h1⟩
    have C2 : Hid (∀ v1, (∃ F1, PH w0 v1 t r n now (caK n K y3) now K B CS wr.heap.size [.int .i64 y0, .int .i64 y1, .int .i64 y2, .int .i64 y3, .int .i64 y4] F1 FR) → ∀ u, Sm u v1 → Calls Tryd.prog 33 #[.pointer (some ⟨r, 0, none⟩), .int .i64 y3] u fun e w1 => e = .returned (.int .i64 (caE n K y3)) ∧ (w1.cell? ⟨wr.heap.size, 1, none⟩ = some (.int .i64 y1) ∧ w1.cell? ⟨wr.heap.size, 2, none⟩ = some (.int .i64 y2) ∧ w1.cell? ⟨wr.heap.size, 3, none⟩ = some (.int .i64 y3) ∧ w1.cell? ⟨wr.heap.size, 4, none⟩ = some (.int .i64 y4)) ∧ Hid (∀ u', Sm u' w1 → ∃ now' K' F' FR', PT w0 u' t r n now' K' B CS F' FR')) := fun v1 ⟨F1, hv⟩ u e => by
      have hu := hv.sm e
      refine (rcancel_any y3 hu.rx al).mono ?_
      rintro e1 w1 ⟨rfl, F2, q, m⟩
      have h1 := hu.doc q m
      exact ⟨rfl, ⟨h1.bx.cell 1, h1.bx.cell 2, h1.bx.cell 3, h1.bx.cell 4⟩, fun u' e' => ⟨_, _, _, _, h1.pt.sm e'⟩⟩
    generalize caE n K y3 = n0 at *
    have bb0 : (n0 == n0) = true := by simp
    clear ha al tk HTB hi
    go_enter Tryd.func9, Tryd.ntmps9
    go_wp2_with fail
    rw [HWA.out]
    go_region_held3 (fun w' => w'.cell? ⟨wr.heap.size, 3, none⟩ = some (.int .i64 y3)) (go_keep)
      (first | (go_at_call 28; refine (C1.out _ ?_).mono ?_; exact ⟨rfl, rfl, rfl, rfl⟩; rintro e v1 ⟨rfl, ⟨k1, k2, k3, k4⟩, P1⟩; have D2 : Hid (∀ _ : Unit, _) := fun _ => C2.out v1 P1.out; clear C2 P1) | (go_at_call 33; refine (D2.out () _ ?_).mono ?_; exact ⟨rfl, rfl, rfl, rfl⟩; rintro e v2 ⟨rfl, ⟨j1, j2, j3, j4⟩, P2⟩))
    all_goals go_wp2
    go_ret
    exact ⟨rfl, P2.out _ ⟨rfl, rfl, rfl, rfl⟩⟩
  have e1 : (y0.tmod 5 == 1) = false := by simpa using t1
  by_cases t2 : y0.tmod 5 = 2
  · have e2 : (y0.tmod 5 == 2) = true := by simpa using t2
    clear t0 t1 t2
    have C1 : Hid (∀ u, Sm u wa → Calls Tryd.prog 25 #[.pointer (some ⟨t, 0, none⟩), .int .i64 y4] u fun e w1 => e = .returned (.int .i64 (goE now y4)) ∧ (w1.cell? ⟨wr.heap.size, 1, none⟩ = some (.int .i64 y1) ∧ w1.cell? ⟨wr.heap.size, 2, none⟩ = some (.int .i64 y2) ∧ w1.cell? ⟨wr.heap.size, 3, none⟩ = some (.int .i64 y3) ∧ w1.cell? ⟨wr.heap.size, 4, none⟩ = some (.int .i64 y4)) ∧ Hid (∃ F1, PH w0 w1 t r n (goN now y4) K now K B CS wr.heap.size [.int .i64 y0, .int .i64 y1, .int .i64 y2, .int .i64 y3, .int .i64 y4] F1 FR)) := fun u e => by
      have hu := ha.sm e
      refine (tgo_any y4 hu.tx).mono ?_
      rintro e1 w1 ⟨rfl, F1, q, m⟩
      have h1 := hu.prog q m
      exact ⟨rfl, ⟨h1.bx.cell 1, h1.bx.cell 2, h1.bx.cell 3, h1.bx.cell 4⟩, F1, h1⟩
    have C2 : Hid (∀ v1, (∃ F1, PH w0 v1 t r n (goN now y4) K now K B CS wr.heap.size [.int .i64 y0, .int .i64 y1, .int .i64 y2, .int .i64 y3, .int .i64 y4] F1 FR) → ∀ u, Sm u v1 → Calls Tryd.prog 34 #[.pointer (some ⟨r, 0, none⟩), .int .i64 y4] u fun e w1 => e = .returned (.int .i64 (goE now y4)) ∧ (w1.cell? ⟨wr.heap.size, 1, none⟩ = some (.int .i64 y1) ∧ w1.cell? ⟨wr.heap.size, 2, none⟩ = some (.int .i64 y2) ∧ w1.cell? ⟨wr.heap.size, 3, none⟩ = some (.int .i64 y3) ∧ w1.cell? ⟨wr.heap.size, 4, none⟩ = some (.int .i64 y4)) ∧ Hid (∀ u', Sm u' w1 → ∃ now' K' F' FR', PT w0 u' t r n now' K' B CS F' FR')) := fun v1 ⟨F1, hv⟩ u e => by
      have hu := hv.sm e
      refine (rtgo_any y4 hu.rx).mono ?_
      rintro e1 w1 ⟨rfl, F2, q, m⟩
      have h1 := hu.doc q m
      exact ⟨rfl, ⟨h1.bx.cell 1, h1.bx.cell 2, h1.bx.cell 3, h1.bx.cell 4⟩, fun u' e' => ⟨_, _, _, _, h1.pt.sm e'⟩⟩
    generalize goE now y4 = n0 at *
    have bb0 : (n0 == n0) = true := by simp
    clear ha al tk HTB hi
    go_enter Tryd.func9, Tryd.ntmps9
    go_wp2_with fail
    rw [HWA.out]
    go_region_held3 (fun w' => w'.cell? ⟨wr.heap.size, 4, none⟩ = some (.int .i64 y4)) (go_keep)
      (first | (go_at_call 25; refine (C1.out _ ?_).mono ?_; exact ⟨rfl, rfl, rfl, rfl⟩; rintro e v1 ⟨rfl, ⟨k1, k2, k3, k4⟩, P1⟩; have D2 : Hid (∀ _ : Unit, _) := fun _ => C2.out v1 P1.out; clear C2 P1) | (go_at_call 34; refine (D2.out () _ ?_).mono ?_; exact ⟨rfl, rfl, rfl, rfl⟩; rintro e v2 ⟨rfl, ⟨j1, j2, j3, j4⟩, P2⟩))
    all_goals go_wp2
    go_ret
    exact ⟨rfl, P2.out _ ⟨rfl, rfl, rfl, rfl⟩⟩
  have e2 : (y0.tmod 5 == 2) = false := by simpa using t2
  by_cases t3 : y0.tmod 5 = 3
  · have e3 : (y0.tmod 5 == 3) = true := by simpa using t3
    clear t0 t1 t2 t3
    have C1 : Hid (∀ u, Sm u wa → Calls Tryd.prog 26 #[.pointer (some ⟨t, 0, none⟩), .int .i64 y1] u fun e w1 => e = .returned (.tuple #[.int .i64 (fxN n now K y1), .int .i64 (fxE n now K y1)]) ∧ (w1.cell? ⟨wr.heap.size, 1, none⟩ = some (.int .i64 y1) ∧ w1.cell? ⟨wr.heap.size, 2, none⟩ = some (.int .i64 y2) ∧ w1.cell? ⟨wr.heap.size, 3, none⟩ = some (.int .i64 y3) ∧ w1.cell? ⟨wr.heap.size, 4, none⟩ = some (.int .i64 y4)) ∧ Hid (∃ F1, PH w0 w1 t r n now (fxK n now K y1) now K B CS wr.heap.size [.int .i64 y0, .int .i64 y1, .int .i64 y2, .int .i64 y3, .int .i64 y4] F1 FR)) := fun u e => by
      have hu := ha.sm e
      refine (fire_any y1 hu.tx).mono ?_
      rintro e1 w1 ⟨rfl, F1, q, m⟩
      have h1 := hu.prog q m
      exact ⟨rfl, ⟨h1.bx.cell 1, h1.bx.cell 2, h1.bx.cell 3, h1.bx.cell 4⟩, F1, h1⟩
    have C2 : Hid (∀ v1, (∃ F1, PH w0 v1 t r n now (fxK n now K y1) now K B CS wr.heap.size [.int .i64 y0, .int .i64 y1, .int .i64 y2, .int .i64 y3, .int .i64 y4] F1 FR) → ∀ u, Sm u v1 → Calls Tryd.prog 35 #[.pointer (some ⟨r, 0, none⟩), .int .i64 y1] u fun e w1 => e = .returned (.tuple #[.int .i64 (fxN n now K y1), .int .i64 (fxE n now K y1)]) ∧ (w1.cell? ⟨wr.heap.size, 1, none⟩ = some (.int .i64 y1) ∧ w1.cell? ⟨wr.heap.size, 2, none⟩ = some (.int .i64 y2) ∧ w1.cell? ⟨wr.heap.size, 3, none⟩ = some (.int .i64 y3) ∧ w1.cell? ⟨wr.heap.size, 4, none⟩ = some (.int .i64 y4)) ∧ Hid (∀ u', Sm u' w1 → ∃ now' K' F' FR', PT w0 u' t r n now' K' B CS F' FR')) := fun v1 ⟨F1, hv⟩ u e => by
      have hu := hv.sm e
      refine (rfire_any y1 hu.rx al).mono ?_
      rintro e1 w1 ⟨rfl, F2, q, m⟩
      have h1 := hu.doc q m
      exact ⟨rfl, ⟨h1.bx.cell 1, h1.bx.cell 2, h1.bx.cell 3, h1.bx.cell 4⟩, fun u' e' => ⟨_, _, _, _, h1.pt.sm e'⟩⟩
    generalize fxN n now K y1 = n0 at *
    have bb0 : (n0 == n0) = true := by simp
    generalize fxE n now K y1 = n1 at *
    have bb1 : (n1 == n1) = true := by simp
    clear ha al tk HTB hi
    go_enter Tryd.func9, Tryd.ntmps9
    go_wp2_with fail
    rw [HWA.out]
    refine (C1.out _ ⟨rfl, rfl, rfl, rfl⟩).mono ?_
    rintro e v1 ⟨rfl, ⟨k1, k2, k3, k4⟩, P1⟩
    have D2 : Hid (∀ _ : Unit, _) := fun _ => C2.out v1 P1.out
    clear C2 P1
    go_wp2_with fail
    refine (D2.out () _ ⟨rfl, rfl, rfl, rfl⟩).mono ?_
    rintro e v2 ⟨rfl, ⟨j1, j2, j3, j4⟩, P2⟩
    go_wp2
    go_ret
    exact ⟨rfl, P2.out _ ⟨rfl, rfl, rfl, rfl⟩⟩
  have e3 : (y0.tmod 5 == 3) = false := by simpa using t3
  clear t0 t1 t2 t3
  have C1 : Hid (∀ u, Sm u wa → Calls Tryd.prog 24 #[.pointer (some ⟨t, 0, none⟩), .int .i64 y1, .int .i64 y2] u fun e w1 => e = .returned (.tuple #[.int .i64 (moN n K y1 y2), .int .i64 (moE n K y1 y2)]) ∧ (w1.cell? ⟨wr.heap.size, 1, none⟩ = some (.int .i64 y1) ∧ w1.cell? ⟨wr.heap.size, 2, none⟩ = some (.int .i64 y2) ∧ w1.cell? ⟨wr.heap.size, 3, none⟩ = some (.int .i64 y3) ∧ w1.cell? ⟨wr.heap.size, 4, none⟩ = some (.int .i64 y4)) ∧ Hid (∃ F1, PH w0 w1 t r n now (moK n K y1 y2) now K B CS wr.heap.size [.int .i64 y0, .int .i64 y1, .int .i64 y2, .int .i64 y3, .int .i64 y4] F1 FR)) := fun u e => by
    have hu := ha.sm e
    refine (move_any y1 y2 hu.tx).mono ?_
    rintro e1 w1 ⟨rfl, F1, q, m⟩
    have h1 := hu.prog q m
    exact ⟨rfl, ⟨h1.bx.cell 1, h1.bx.cell 2, h1.bx.cell 3, h1.bx.cell 4⟩, F1, h1⟩
  have C2 : Hid (∀ v1, (∃ F1, PH w0 v1 t r n now (moK n K y1 y2) now K B CS wr.heap.size [.int .i64 y0, .int .i64 y1, .int .i64 y2, .int .i64 y3, .int .i64 y4] F1 FR) → ∀ u, Sm u v1 → Calls Tryd.prog 36 #[.pointer (some ⟨r, 0, none⟩), .int .i64 y1, .int .i64 y2] u fun e w1 => e = .returned (.tuple #[.int .i64 (moN n K y1 y2), .int .i64 (moE n K y1 y2)]) ∧ (w1.cell? ⟨wr.heap.size, 1, none⟩ = some (.int .i64 y1) ∧ w1.cell? ⟨wr.heap.size, 2, none⟩ = some (.int .i64 y2) ∧ w1.cell? ⟨wr.heap.size, 3, none⟩ = some (.int .i64 y3) ∧ w1.cell? ⟨wr.heap.size, 4, none⟩ = some (.int .i64 y4)) ∧ Hid (∀ u', Sm u' w1 → ∃ now' K' F' FR', PT w0 u' t r n now' K' B CS F' FR')) := fun v1 ⟨F1, hv⟩ u e => by
    have hu := hv.sm e
    refine (rmove_any y1 y2 hu.rx al tk).mono ?_
    rintro e1 w1 ⟨rfl, F2, q, m⟩
    have h1 := hu.doc q m
    exact ⟨rfl, ⟨h1.bx.cell 1, h1.bx.cell 2, h1.bx.cell 3, h1.bx.cell 4⟩, fun u' e' => ⟨_, _, _, _, h1.pt.sm e'⟩⟩
  generalize moN n K y1 y2 = n0 at *
  have bb0 : (n0 == n0) = true := by simp
  generalize moE n K y1 y2 = n1 at *
  have bb1 : (n1 == n1) = true := by simp
  clear ha al tk HTB hi
  go_enter Tryd.func9, Tryd.ntmps9
  go_wp2_with fail
  rw [HWA.out]
  refine (C1.out _ ⟨rfl, rfl, rfl, rfl⟩).mono ?_
  rintro e v1 ⟨rfl, ⟨k1, k2, k3, k4⟩, P1⟩
  have D2 : Hid (∀ _ : Unit, _) := fun _ => C2.out v1 P1.out
  clear C2 P1
  go_wp2_with fail
  refine (D2.out () _ ⟨rfl, rfl, rfl, rfl⟩).mono ?_
  rintro e v2 ⟨rfl, ⟨j1, j2, j3, j4⟩, P2⟩
  go_wp2
  go_ret
  exact ⟨rfl, P2.out _ ⟨rfl, rfl, rfl, rfl⟩⟩
end Go.Proofs.YtadaghhgmflfdaaDoor
