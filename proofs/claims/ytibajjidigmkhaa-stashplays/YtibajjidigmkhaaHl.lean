/- What the calls that look answer, of both stashes, in the middle of a law. -/
import Derived.Test.YtibajjidigmkhaaRows
import Derived.Test.YtibajjidigmkhaaHk
import Derived.WalkKit
import Derived.ProofKit
namespace Go.Proofs.Ytibajjidigmkhaa
open Go.ChangeShapes Go.WideShapes Go.ChangeAt Go.RowKit
open Om Hm

theorem row_sm {w w1 : World} {v : Value} {xs : List Int} (h : Row w v xs) (e : Sm w1 w) : Row w1 v xs := by
  rcases h with h | ⟨b, off, cap, hv, hb, hc⟩
  · exact Or.inl h
  · refine Or.inr ⟨b, off, cap, hv, by rw [e.1]; exact hb, fun i hi => ?_⟩
    have := hc i hi
    unfold World.cell? at this ⊢
    rw [e.1]
    exact this

section
variable {w u1 : World} {s n m : Nat} {P : Pl} {A : List Nat} {V R : List Value} {K : List (List Int)}

theorem si_out (h : SI w u1 s n m P A V R K) (u : World) (e : Sm u u1) :
    Calls Try.prog 27 #[.pointer (some ⟨P.b, 0, none⟩)] u fun e w' => ∃ v, e = .returned v ∧ Row w' v (ol m A K 96) ∧ SI w w' s n m P A V R K :=
  (sout_any u (h.sm e).h h.kv.kl).mono fun _ _ ⟨v, r, g⟩ => ⟨v, r, row_of_owns g.own, (h.sm e).keep g.bel⟩
theorem si_rout (h : SI w u1 s n m P A V R K) {v1 : Value} (r1 : Row u1 v1 (ol m A K 96)) (u : World) (e : Sm u u1) :
    Calls Try.prog 28 #[.pointer (some ⟨P.rb, 0, none⟩)] u fun e w' => ∃ v, e = .returned v ∧ Row w' v (ol m A K 96) ∧ Row w' v1 (ol m A K 96) ∧ SI w w' s n m P A V R K :=
  (rsout_any u (h.sm e).r h.kv.kl).mono fun _ _ ⟨v, r, g⟩ => ⟨v, r, row_of_owns g.own, (row_sm r1 e).keep (Fr.of_below g.bel) (Nat.le_refl _), (h.sm e).keep g.bel⟩
theorem si_ints {L : List Int} (hl : L.length ≤ 96) {v1 v2 : Value} (r1 : Row u1 v1 L) (r2 : Row u1 v2 L) (u : World) (e : Sm u u1) :
    Calls Try.prog 26 #[v1, v2] u fun e w' => e = .returned (.bool true) ∧ ∃ q, w' = u.drewN q := ints_any L v1 v2 u (by omega) (row_sm r1 e) (row_sm r2 e)
theorem si_free (h : SI w u1 s n m P A V R K) (u : World) (e : Sm u u1) :
    Calls Try.prog 29 #[.pointer (some ⟨P.b, 0, none⟩)] u fun e w' => e = .returned (.int .i64 ((fr m A : Nat) : Int)) ∧ w' = u := sfree_any u (h.sm e).h
theorem si_rfree (h : SI w u1 s n m P A V R K) (u : World) (e : Sm u u1) :
    Calls Try.prog 19 #[.pointer (some ⟨P.rp, 0, none⟩)] u fun e w' => e = .returned (.int .i64 ((fr m A : Nat) : Int)) ∧ w' = u := rpfree_any u (h.sm e).r.po
theorem si_has (h : SI w u1 s n m P A V R K) (x : Int) (u : World) (e : Sm u u1) :
    Calls Try.prog 30 #[.pointer (some ⟨P.b, 0, none⟩), .int .i64 x] u fun e w' => e = .returned (.bool (hs m A K x)) ∧ ∃ k, w' = u.drewN k := shas_any x u (h.sm e).h h.kv.kl
theorem si_rhas (h : SI w u1 s n m P A V R K) (x : Int) (u : World) (e : Sm u u1) :
    Calls Try.prog 31 #[.pointer (some ⟨P.rb, 0, none⟩), .int .i64 x] u fun e w' => e = .returned (.bool (hs m A K x)) ∧ w' = u := rshas_any x u (h.sm e).r h.kv.kl
theorem si_is (h : SI w u1 s n m P A V R K) (c : Int) (u : World) (e : Sm u u1) :
    Calls Try.prog 32 #[.pointer (some ⟨P.rb, 0, none⟩), .int .i64 c] u fun e w' => e = .returned (.bool (isc n c)) ∧ w' = u := is_any c u (h.sm e).r
theorem si_kept (h : SI w u1 s n m P A V R K) (c : Int) (u : World) (e : Sm u u1) :
    Calls Try.prog 33 #[.pointer (some ⟨P.b, 0, none⟩), .int .i64 c] u fun e w' => ∃ v, e = .returned v ∧ Row w' v (kc n K c) ∧ SI w w' s n m P A V R K :=
  (skept_any c u (h.sm e).h h.kv.kl).mono fun _ _ ⟨v, r, g⟩ => ⟨v, r, row_of_owns g.own, (h.sm e).keep g.bel⟩
theorem si_do (h : SI w u1 s n m P A V R K) (y0 y1 y2 : Int) (u : World) (e : Sm u u1) :
    Calls Try.prog 25 #[.pointer (some ⟨P.b, 0, none⟩), .pointer (some ⟨P.rb, 0, none⟩), .agg #[.int .i64 y0, .int .i64 y1, .int .i64 y2]] u fun e w' => e = .returned (.bool true) ∧ ∃ A2 V2 R2 K2, SI w w' s n m P A2 V2 R2 K2 := do_any y0 y1 y2 (h.sm e)
theorem si_cells (h : SI w u1 s n m P A V R K) : u1.cell? ⟨P.rb, 0, none⟩ = some (.pointer (some ⟨P.rp, 0, none⟩)) ∧ u1.cell? ⟨P.rb, 1, none⟩ = some (.slice (some ⟨P.rl, 0, none⟩) n n) := ⟨h.r.st.c0, h.r.st.c1⟩
theorem si_list (h : SI w u1 s n m P A V R K) {c : Nat} (hc : c < n) : u1.cell? ⟨P.rl, c, none⟩ = some (R.getD c nv) ∧ Row u1 (R.getD c nv) (ks K c) := ⟨h.r.st.cv hc, (h.r.st.lv hc).row⟩
end

theorem si_new {w u1 u2 : World} {n m : Nat} {b pb lb : Nat} {V : List Value} {rb rp rg rl : Nat} {R : List Value} (h : SH u1 b pb lb n m (List.replicate 12 0) V (List.replicate n [])) (up : w.heap.size ≤ b ∧ w.heap.size ≤ pb ∧ w.heap.size ≤ lb ∧ ∀ g ∈ bl V, w.heap.size ≤ g) (f : Fr w.heap.size [] w u1)
    (r : RH u2 rb rp rg rl n m (List.replicate 12 0) R (List.replicate n [])) (ur : u1.heap.size ≤ rb ∧ u1.heap.size ≤ rp ∧ u1.heap.size ≤ rg ∧ u1.heap.size ≤ rl ∧ bl R = []) (g : Fr u1.heap.size [] u1 u2) :
    SI w u2 w.heap.size n m ⟨b, pb, lb, rb, rp, rg, rl⟩ (List.replicate 12 0) V R (List.replicate n []) := by
  have z := f.size
  have l1 := h.st.sl.lt
  obtain ⟨r1, r2, r3, r4, r5⟩ := ur
  obtain ⟨q1, q2, q3, q4⟩ := up
  refine ⟨h.keep g (Nat.le_refl _) (by simp) (by simp) (by simp) (by simp), r, kv_new m n h.po.pg, (f.below (by simp)).trans ((g.less z).below (by simp)), ⟨q1, q2, q3, ?_, ?_⟩, q4, fun x hx => by rw [r5] at hx; simp at hx, ?_, fun x _ hm => by rw [r5] at hm; simp at hm⟩
  · show w.heap.size ≤ rg
    omega
  · show w.heap.size ≤ rl
    omega
  · show lb ≠ rl
    omega
theorem kc_out {n : Nat} {K : List (List Int)} {c : Int} (h : c < 0 ∨ (n : Int) ≤ c) : kc n K c = [] := by
  unfold kc
  rw [show isc n c = false from decide_eq_false (by omega)]
  rfl
end Go.Proofs.Ytibajjidigmkhaa
