/- A box of the program and the document's, side by side, and the act that is played (in a block of its own): what each call of law 18 leaves of them. -/
import Derived.Test.YtofdhljgchefgaaDoorJc
import Derived.Test.YtofdhljgchefgaaDoorJs
import Derived.Test.YtofdhljgchefgaaDoorFi
import Derived.WalkKit
import Derived.ProofKit
import Derived.OpenShut
import Derived.BigQuiet
namespace Go.Proofs.YtofdhljgchefgaaDoor
open Go.ChangeShapes Go.WideShapes Go.ChangeAt Go.RowKit
open Fm Sl Cm

/-- The document's box, all of whose blocks lie above. -/
def RF (w : World) (lo b lb p : Nat) (K : Ks) : Prop := ∃ V, RX 76 w b lb p V K ∧ lo ≤ b ∧ lo ≤ lb ∧ ∀ g ∈ bl V, lo ≤ g
theorem RF.heap {w w1 : World} {lo b lb p : Nat} {K : Ks} (h : RF w lo b lb p K) (e : w1.heap = w.heap) : RF w1 lo b lb p K := by
  obtain ⟨V, r, h1, h2, h3⟩ := h
  exact ⟨V, r.heap e, h1, h2, h3⟩
theorem RF.keep {B : Nat} {S : List Nat} {w w' : World} {lo b lb p : Nat} {K : Ks} (h : RF w lo b lb p K) (f : Fr B S w w') (hB : w.heap.size ≤ B) (hS : ∀ k ∈ S, k < lo) : RF w' lo b lb p K := by
  obtain ⟨V, r, h1, h2, h3⟩ := h
  exact ⟨V, r.keep f hB (fun q => by have := hS _ q; omega) (fun q => by have := hS _ q; omega) fun g hg q => by have := hS _ q; have := h3 g hg; omega, h1, h2, h3⟩

/-- Both boxes hold the same calls; they lie apart, behind all that was there before; an act at block z. -/
structure CZ (w wr : World) (s b lb p : Nat) (K K' : Ks) : Prop where
  x : CX wr s K'
  r : RF wr (s + (4 + 2 * p)) b lb p K
  al : Al K
  kn : K.length = p ∧ K'.length = p
  bel : Below s w wr
  tb : Tab w
  s0 : 0 < s

def AC (w : World) (s p z : Nat) (y0 y1 y2 y3 : Int) : Prop := Blk w z [.int .i64 y0, .int .i64 y1, .int .i64 y2, .int .i64 y3] 54 ∧ s + (4 + 2 * p) ≤ z

section
variable {w wr v1 w1 : World} {s b lb p z : Nat} {K K' : Ks} {y0 y1 y2 y3 : Int}
theorem CZ.tab (h : CZ w wr s b lb p K K') : Tab wr := h.tb.keep h.s0 (by simp) (Fr.of_below h.bel)
theorem CZ.hi (h : CZ w wr s b lb p K K') : s + (4 + 2 * p) ≤ wr.heap.size := by have := h.x.hi; rw [h.kn.2] at this; exact this
theorem CZ.keep (h : CZ w wr s b lb p K K') (f : Below wr.heap.size wr w1) : CZ w w1 s b lb p K K' :=
  ⟨h.x.below f, h.r.keep (Fr.of_below f) (Nat.le_refl _) (by simp), h.al, h.kn, h.bel.trans (f.mono (by have := h.hi; omega)), h.tb, h.s0⟩
theorem CZ.sm (h : CZ w wr s b lb p K K') (e : Sm w1 wr) : CZ w w1 s b lb p K K' := h.keep (e.below (Below.refl _ _))
theorem AC.keep (h : AC wr s p z y0 y1 y2 y3) (f : Below wr.heap.size wr w1) : AC w1 s p z y0 y1 y2 y3 := ⟨Blk.keep h.1 (Fr.of_below f) (Blk.lt h.1) (by simp), h.2⟩
theorem AC.sm (h : AC wr s p z y0 y1 y2 y3) (e : Sm w1 wr) : AC w1 s p z y0 y1 y2 y3 := h.keep (e.below (Below.refl _ _))
theorem AC.cells (h : AC wr s p z y0 y1 y2 y3) : wr.cell? ⟨z, 0, none⟩ = some (.int .i64 y0) ∧ wr.cell? ⟨z, 1, none⟩ = some (.int .i64 y1) ∧ wr.cell? ⟨z, 2, none⟩ = some (.int .i64 y2) ∧ wr.cell? ⟨z, 3, none⟩ = some (.int .i64 y3) :=
  ⟨h.1.cell 0, h.1.cell 1, h.1.cell 2, h.1.cell 3⟩

/-- The program has acted. -/
theorem CZ.half (h : CZ w wr s b lb p K K) (a : AC wr s p z y0 y1 y2 y3) {K2 : Ks} (q : CX v1 s K2) (l : K2.length = K.length) (f : Fr wr.heap.size (cz s K.length) wr v1) : CZ w v1 s b lb p K K2 ∧ AC v1 s p z y0 y1 y2 y3 := by
  rw [h.kn.1] at f l
  have hz : ∀ k ∈ cz s p, k < s + (4 + 2 * p) := fun k hk => ((mem_cz s p k).1 hk).2
  refine ⟨⟨q, h.r.keep f (Nat.le_refl _) hz, h.al, ⟨h.kn.1, l⟩, h.bel.trans ((f.less (by have := h.hi; omega)).below fun k hk => ((mem_cz s p k).1 hk).1), h.tb, h.s0⟩, Blk.keep a.1 f (Blk.lt a.1) (fun q => by have := hz _ q; have := a.2; omega), a.2⟩
/-- The document has acted, too. -/
theorem CZ.full {V : List Value} (h : CZ w wr s b lb p K K') (a : AC wr s p z y0 y1 y2 y3) (al' : Al K') (r : RX 76 wr b lb p V K) (l1 : s + (4 + 2 * p) ≤ b) (l2 : s + (4 + 2 * p) ≤ lb) (l3 : ∀ g ∈ bl V, s + (4 + 2 * p) ≤ g) (rc : RC 76 wr v1 b lb p V K') : CZ w v1 s b lb p K' K' ∧ AC v1 s p z y0 y1 y2 y3 := by
  obtain ⟨V', r', hV'⟩ := rc.ex
  have hi := h.hi
  have lo : ∀ k ∈ lb :: bl V, s + (4 + 2 * p) ≤ k := fun k hk => by
    simp only [List.mem_cons] at hk
    rcases hk with e | e
    · omega
    · exact l3 k e
  refine ⟨⟨h.x.keep rc.fr (Nat.le_refl _) fun k _ hk q => ?_, ⟨V', r', l1, l2, fun g hg => ?_⟩, al', ⟨h.kn.2, h.kn.2⟩, h.bel.trans ((rc.fr.less (by omega)).below fun k hk => by have := lo k hk; omega), h.tb, h.s0⟩, Blk.keep a.1 rc.fr (Blk.lt a.1) (fun q => ?_), a.2⟩
  · rw [h.kn.2] at hk
    have := lo k q
    omega
  · rcases hV' g hg with e | e
    · exact l3 g e
    · omega
  · simp only [List.mem_cons] at q
    rcases q with e | e
    · exact (Blk.ne a.1 r.sl (by decide)) e
    · exact r.not a.1 (by decide) e
end

section
variable {w v1 w1 : World} {s b lb p z : Nat} {K : Ks} {y0 y1 y2 y3 : Int}
theorem cz_send (c : Int) (h : CZ w v1 s b lb p K K) (a : AC v1 s p z y0 y1 y2 y3) (e : Sm w1 v1) :
    Calls Tryd.prog 27 #[.pointer (some ⟨s + 3, 0, none⟩), .int .i64 c] w1 fun r w' => r = .returned (.tuple #[.int .i64 (seN K c), .int .i64 (seE K c)]) ∧ CZ w w' s b lb p K (seK K c) ∧ AC w' s p z y0 y1 y2 y3 :=
  (send_any c (h.sm e).x (h.sm e).tab).mono fun _ _ ⟨r1, r2, r3⟩ => ⟨r1, (h.sm e).half (a.sm e) r2 (al_seK h.al c).2 r3⟩
theorem cz_rsend (c : Int) (h : CZ w v1 s b lb p K (seK K c)) (a : AC v1 s p z y0 y1 y2 y3) (e : Sm w1 v1) :
    Calls Tryd.prog 28 #[.pointer (some ⟨b, 0, none⟩), .int .i64 c] w1 fun r w' => r = .returned (.tuple #[.int .i64 (seN K c), .int .i64 (seE K c)]) ∧ CZ w w' s b lb p (seK K c) (seK K c) ∧ AC w' s p z y0 y1 y2 y3 := by
  obtain ⟨V, r, l1, l2, l3⟩ := (h.sm e).r
  exact (rcsend_any c w1 r h.al).mono fun _ w2 ⟨r1, r2⟩ => ⟨r1, (h.sm e).full (a.sm e) (al_seK h.al c).1 r l1 l2 l3 r2⟩
theorem cz_take (c : Int) (h : CZ w v1 s b lb p K K) (a : AC v1 s p z y0 y1 y2 y3) (e : Sm w1 v1) :
    Calls Tryd.prog 29 #[.pointer (some ⟨s + 3, 0, none⟩), .int .i64 c] w1 fun r w' => r = .returned (.tuple #[.int .i64 (ckN K c), .int .i64 (ckE K c)]) ∧ CZ w w' s b lb p K (ckK K c) ∧ AC w' s p z y0 y1 y2 y3 :=
  (ctake_any c (h.sm e).x).mono fun _ _ ⟨r1, r2, r3⟩ => ⟨r1, (h.sm e).half (a.sm e) r2 (al_ckK h.al c).2 r3⟩
theorem cz_rtake (c : Int) (h : CZ w v1 s b lb p K (ckK K c)) (a : AC v1 s p z y0 y1 y2 y3) (e : Sm w1 v1) :
    Calls Tryd.prog 30 #[.pointer (some ⟨b, 0, none⟩), .int .i64 c] w1 fun r w' => r = .returned (.tuple #[.int .i64 (ckN K c), .int .i64 (ckE K c)]) ∧ CZ w w' s b lb p (ckK K c) (ckK K c) ∧ AC w' s p z y0 y1 y2 y3 := by
  obtain ⟨V, r, l1, l2, l3⟩ := (h.sm e).r
  exact (rctake_any c w1 r h.al).mono fun _ w2 ⟨r1, r2⟩ => ⟨r1, (h.sm e).full (a.sm e) (al_ckK h.al c).1 r l1 l2 l3 r2⟩
theorem cz_move (c d : Int) (h : CZ w v1 s b lb p K K) (a : AC v1 s p z y0 y1 y2 y3) (e : Sm w1 v1) :
    Calls Tryd.prog 31 #[.pointer (some ⟨s + 3, 0, none⟩), .int .i64 c, .int .i64 d] w1 fun r w' => r = .returned (.tuple #[.int .i64 (moN K c d), .int .i64 (moE K c d)]) ∧ CZ w w' s b lb p K (moK K c d) ∧ AC w' s p z y0 y1 y2 y3 :=
  (cmove_any c d (h.sm e).x).mono fun _ _ ⟨r1, r2, r3⟩ => ⟨r1, (h.sm e).half (a.sm e) r2 (al_moK h.al c d).2 r3⟩
theorem cz_rmove (c d : Int) (h : CZ w v1 s b lb p K (moK K c d)) (a : AC v1 s p z y0 y1 y2 y3) (e : Sm w1 v1) :
    Calls Tryd.prog 32 #[.pointer (some ⟨b, 0, none⟩), .int .i64 c, .int .i64 d] w1 fun r w' => r = .returned (.tuple #[.int .i64 (moN K c d), .int .i64 (moE K c d)]) ∧ CZ w w' s b lb p (moK K c d) (moK K c d) ∧ AC w' s p z y0 y1 y2 y3 := by
  obtain ⟨V, r, l1, l2, l3⟩ := (h.sm e).r
  exact (rcmove_any c d w1 r h.al).mono fun _ w2 ⟨r1, r2⟩ => ⟨r1, (h.sm e).full (a.sm e) (al_moK h.al c d).1 r l1 l2 l3 r2⟩

theorem cz_has (c : Int) (h : CZ w v1 s b lb p K K) (a : AC v1 s p z y0 y1 y2 y3) (e : Sm w1 v1) :
    Calls Tryd.prog 33 #[.pointer (some ⟨s + 3, 0, none⟩), .int .i64 c] w1 fun r w' => r = .returned (.bool (haB K c)) ∧ CZ w w' s b lb p K K ∧ AC w' s p z y0 y1 y2 y3 :=
  (chas_any c (h.sm e).x).mono fun _ _ ⟨r1, r2⟩ => by rw [r2]; exact ⟨r1, h.sm e, a.sm e⟩
theorem cz_rhas (c : Int) (h : CZ w v1 s b lb p K K) (a : AC v1 s p z y0 y1 y2 y3) (e : Sm w1 v1) :
    Calls Tryd.prog 34 #[.pointer (some ⟨b, 0, none⟩), .int .i64 c] w1 fun r w' => r = .returned (.bool (haB K c)) ∧ CZ w w' s b lb p K K ∧ AC w' s p z y0 y1 y2 y3 := by
  obtain ⟨V, r, l1, l2, l3⟩ := (h.sm e).r
  exact (rchas_any c w1 r h.al).mono fun _ _ ⟨r1, r2⟩ => by rw [r2]; exact ⟨r1, h.sm e, a.sm e⟩
theorem cz_load (c : Int) (h : CZ w v1 s b lb p K K) (a : AC v1 s p z y0 y1 y2 y3) (e : Sm w1 v1) :
    Calls Tryd.prog 35 #[.pointer (some ⟨s + 3, 0, none⟩), .int .i64 c] w1 fun r w' => r = .returned (.int .i64 ((clL K c).length : Int)) ∧ CZ w w' s b lb p K K ∧ AC w' s p z y0 y1 y2 y3 :=
  (cload_any c (h.sm e).x).mono fun _ _ ⟨r1, r2⟩ => by rw [r2]; exact ⟨r1, h.sm e, a.sm e⟩
theorem cz_list (c : Int) (h : CZ w v1 s b lb p K K) (a : AC v1 s p z y0 y1 y2 y3) (e : Sm w1 v1) :
    Calls Tryd.prog 37 #[.pointer (some ⟨s + 3, 0, none⟩), .int .i64 c] w1 fun r w' => ∃ x cp, r = .returned (.slice x (clL K c).length cp) ∧ CZ w w' s b lb p K K ∧ AC w' s p z y0 y1 y2 y3 ∧ Row w' (.slice x (clL K c).length cp) (clL K c) := by
  refine (clist_any c (h.sm e).x).mono fun _ w' ⟨v, r1, r2, r3⟩ => ?_
  obtain ⟨x, cp, rfl⟩ := own_shape r2
  exact ⟨x, cp, r1, (h.sm e).keep r3, (a.sm e).keep r3, row_of_owns r2⟩
theorem cz_rlist (c : Int) (h : CZ w v1 s b lb p K K) (a : AC v1 s p z y0 y1 y2 y3) (e : Sm w1 v1) :
    Calls Tryd.prog 36 #[.pointer (some ⟨b, 0, none⟩), .int .i64 c] w1 fun r w' => ∃ x cp, r = .returned (.slice x (clL K c).length cp) ∧ CZ w w' s b lb p K K ∧ AC w' s p z y0 y1 y2 y3 ∧ Row w' (.slice x (clL K c).length cp) (clL K c) ∧ ∀ u xs, Row v1 u xs → Row w' u xs := by
  obtain ⟨V, r, l1, l2, l3⟩ := (h.sm e).r
  refine (rclist_any c w1 r).mono fun _ w' ⟨x, cp, r1, r2, r3⟩ => ?_
  rw [r3]
  exact ⟨x, cp, r1, h.sm e, a.sm e, r2, fun u xs q => q.keep (Fr.of_below (e.below (Below.refl v1.heap.size v1))) (Nat.le_refl _)⟩
theorem cz_ints {u v : Value} (c : Int) (h : CZ w v1 s b lb p K K) (a : AC v1 s p z y0 y1 y2 y3) (q : Row v1 u (clL K c)) (q' : Row v1 v (clL K c)) (e : Sm w1 v1) :
    Calls Tryd.prog 16 #[u, v] w1 fun r w' => r = .returned (.bool true) ∧ CZ w w' s b lb p K K ∧ AC w' s p z y0 y1 y2 y3 := by
  have f : Fr v1.heap.size [] v1 w1 := Fr.of_below (e.below (Below.refl _ _))
  have l : ((clL K c).length : Int) ≤ 100000 := by
    unfold clL
    split
    · have := h.al.len c.toNat; omega
    · simp
  refine (ints_any (clL K c) u v w1 l (q.keep f (Nat.le_refl _)) (q'.keep f (Nat.le_refl _))).mono fun _ w' ⟨r1, n, r2⟩ => ⟨r1, ?_⟩
  rw [r2]
  exact ⟨(h.sm e).sm ⟨rfl, rfl, rfl, rfl⟩, (a.sm e).sm ⟨rfl, rfl, rfl, rfl⟩⟩
end
end Go.Proofs.YtofdhljgchefgaaDoor
