/- A model's next state: what is handed up is caught at the face. -/
import Derived.Test.YtaebebgoijgolaaGreatRows
import Derived.Test.YtaebebgoijgolaaGreatMdj
import Derived.WalkKit
import Derived.ProofKit
import Derived.OpenShut
import Derived.BigQuiet
import Derived.Defers
import Derived.Recover
import Derived.Laws.EntriesVeiled
import Derived.WalkSmall
namespace Go.Proofs.YtaebebgoijgolaaGreat
open Go.ChangeShapes Go.WideShapes Go.ChangeAt Go.RowKit
set_option linter.unusedVariables false
set_option linter.unusedSimpArgs false
set_option maxRecDepth 100000

theorem catch_idle (p q : Addr) (w : World) :
    CallsD Tryz.prog 8 #[.pointer (some p), .pointer (some q)] .returning w fun e u' w' => e = .returned (.tuple #[]) ∧ u' = .returning ∧ w' = w := by
  refine callsD_of_wpS Tryz.func8 rfl fun c₀ cs hu => ?_
  apply wpS_seq
  apply wpS_region
  simp [wpOpsS, go_sem, recoverD, hu, Tryz.ntmps8, Exit.thenS]
  refine wpS_cond (t := false) (by simp [Act.eval, Array.replicate]) ?_
  simp only [Bool.false_eq_true, if_false]
  refine wpS_of_wp (wp_skip ?_)
  cases c₀
  simp_all [bodyPostS, results, Tryz.results8]

theorem oth13 {w : World} {b g : Nat} {cs : List Value} {t : TypeId} (h : Blk w b cs t) (ne : b ≠ g) (v0 v1 v2 v3 v4 v5 v6 v7 v8 v9 v10 v11 v12 : Value) : Blk (((((((((((((w.setCell ⟨g, 0, none⟩ v0).setCell ⟨g, 1, none⟩ v1).setCell ⟨g, 2, none⟩ v2).setCell ⟨g, 3, none⟩ v3).setCell ⟨g, 4, none⟩ v4).setCell ⟨g, 5, none⟩ v5).setCell ⟨g, 6, none⟩ v6).setCell ⟨g, 7, none⟩ v7).setCell ⟨g, 8, none⟩ v8).setCell ⟨g, 9, none⟩ v9).setCell ⟨g, 10, none⟩ v10).setCell ⟨g, 11, none⟩ v11).setCell ⟨g, 12, none⟩ v12) b cs t := by
  have q : ∀ {w : World} (i : Nat) (x : Value), Blk w b cs t → Blk (w.setCell ⟨g, i, none⟩ x) b cs t := fun i x h => h.other (p := ⟨g, i, none⟩) ne x
  exact q _ _ (q _ _ (q _ _ (q _ _ (q _ _ (q _ _ (q _ _ (q _ _ (q _ _ (q _ _ (q _ _ (q _ _ (q _ _ h))))))))))))
theorem fr13 {a w : World} {B : Nat} {S : List Nat} {g : Nat} (h : Fr B S a w) (hg : g ∈ S) (v0 v1 v2 v3 v4 v5 v6 v7 v8 v9 v10 v11 v12 : Value) : Fr B S a (((((((((((((w.setCell ⟨g, 0, none⟩ v0).setCell ⟨g, 1, none⟩ v1).setCell ⟨g, 2, none⟩ v2).setCell ⟨g, 3, none⟩ v3).setCell ⟨g, 4, none⟩ v4).setCell ⟨g, 5, none⟩ v5).setCell ⟨g, 6, none⟩ v6).setCell ⟨g, 7, none⟩ v7).setCell ⟨g, 8, none⟩ v8).setCell ⟨g, 9, none⟩ v9).setCell ⟨g, 10, none⟩ v10).setCell ⟨g, 11, none⟩ v11).setCell ⟨g, 12, none⟩ v12) := by
  have q : ∀ {w : World} (i : Nat) (x : Value), Fr B S a w → Fr B S a (w.setCell ⟨g, i, none⟩ x) := fun i x h => h.st g i x hg
  exact q _ _ (q _ _ (q _ _ (q _ _ (q _ _ (q _ _ (q _ _ (q _ _ (q _ _ (q _ _ (q _ _ (q _ _ (q _ _ h))))))))))))

set_option maxHeartbeats 1000000 in
theorem catch_pan (a b : Nat) (cs : List Value) (y : Value) (ne : a ≠ b) (u : TypeId) (pv : Value) (older : List PanicEntry) (w : World) (ha : Blk w a cs 32) (hl : cs.length = 13) (hb : Blk w b [y] 33) :
    CallsD Tryz.prog 8 #[.pointer (some ⟨a, 0, none⟩), .pointer (some ⟨b, 0, none⟩)] (.panicking ({ v := .iface u pv, recovered := false } :: older)) w fun e u' w' =>
      e = .returned (.tuple #[]) ∧ u' = .panicking ({ v := .iface u pv, recovered := true } :: older) ∧ Blk w' a z13 32 ∧ Blk w' b [.int .i64 6] 33 ∧ Fr w.heap.size [a, b] w w' := by
  obtain ⟨x0, x1, x2, x3, x4, x5, x6, x7, x8, x9, x10, x11, x12, rfl⟩ : ∃ x0 x1 x2 x3 x4 x5 x6 x7 x8 x9 x10 x11 x12, cs = [x0, x1, x2, x3, x4, x5, x6, x7, x8, x9, x10, x11, x12] := by
    match cs, hl with
    | [_, _, _, _, _, _, _, _, _, _, _, _, _], _ => exact ⟨_, _, _, _, _, _, _, _, _, _, _, _, _, rfl⟩
  have c0 : w.cell? ⟨a, 0, none⟩ = some x0 := ha.cell 0
  have f0 : w.frozen? ⟨a, 0, none⟩ = false := ha.free 0
  have c1 : w.cell? ⟨a, 1, none⟩ = some x1 := ha.cell 1
  have f1 : w.frozen? ⟨a, 1, none⟩ = false := ha.free 1
  have c2 : w.cell? ⟨a, 2, none⟩ = some x2 := ha.cell 2
  have f2 : w.frozen? ⟨a, 2, none⟩ = false := ha.free 2
  have c3 : w.cell? ⟨a, 3, none⟩ = some x3 := ha.cell 3
  have f3 : w.frozen? ⟨a, 3, none⟩ = false := ha.free 3
  have c4 : w.cell? ⟨a, 4, none⟩ = some x4 := ha.cell 4
  have f4 : w.frozen? ⟨a, 4, none⟩ = false := ha.free 4
  have c5 : w.cell? ⟨a, 5, none⟩ = some x5 := ha.cell 5
  have f5 : w.frozen? ⟨a, 5, none⟩ = false := ha.free 5
  have c6 : w.cell? ⟨a, 6, none⟩ = some x6 := ha.cell 6
  have f6 : w.frozen? ⟨a, 6, none⟩ = false := ha.free 6
  have c7 : w.cell? ⟨a, 7, none⟩ = some x7 := ha.cell 7
  have f7 : w.frozen? ⟨a, 7, none⟩ = false := ha.free 7
  have c8 : w.cell? ⟨a, 8, none⟩ = some x8 := ha.cell 8
  have f8 : w.frozen? ⟨a, 8, none⟩ = false := ha.free 8
  have c9 : w.cell? ⟨a, 9, none⟩ = some x9 := ha.cell 9
  have f9 : w.frozen? ⟨a, 9, none⟩ = false := ha.free 9
  have c10 : w.cell? ⟨a, 10, none⟩ = some x10 := ha.cell 10
  have f10 : w.frozen? ⟨a, 10, none⟩ = false := ha.free 10
  have c11 : w.cell? ⟨a, 11, none⟩ = some x11 := ha.cell 11
  have f11 : w.frozen? ⟨a, 11, none⟩ = false := ha.free 11
  have c12 : w.cell? ⟨a, 12, none⟩ = some x12 := ha.cell 12
  have f12 : w.frozen? ⟨a, 12, none⟩ = false := ha.free 12
  have cb : w.cell? ⟨b, 0, none⟩ = some y := hb.cell 0
  have fb : w.frozen? ⟨b, 0, none⟩ = false := hb.free 0
  have nb : ¬ b = a := fun h => ne h.symm
  have ka := blk13z ha rfl (.int .i64 0) (.int .u64 0) (.int .i64 0) (.slice none 0 0) (.slice none 0 0) (.slice none 0 0) (.slice none 0 0) (.slice none 0 0) (.slice none 0 0) (.bool false) (.bool false) (.int .i64 0) (.slice none 0 0)
  refine callsD_of_wpS Tryz.func8 rfl fun c₀ cs hu => ?_
  apply wpS_seq
  apply wpS_region
  simp [wpOpsS, go_sem, recoverD, hu, Tryz.ntmps8, Exit.thenS]
  refine wpS_cond (t := true) (by simp [Act.eval, Array.replicate]) ?_
  simp only [if_true]
  apply wpS_region
  simp [wpOpsS, go_sem, c0, f0, c1, f1, c2, f2, c3, f3, c4, f4, c5, f5, c6, f6, c7, f7, c8, f8, c9, f9, c10, f10, c11, f11, c12, f12, cb, fb, nb, ne, bodyPostS, results, Tryz.results8]
  exact ⟨ka.other (p := ⟨b, 0, none⟩) ne _, (oth13 hb nb _ _ _ _ _ _ _ _ _ _ _ _ _).set 0 _, (fr13 (Fr.refl _ _ _) (by simp) _ _ _ _ _ _ _ _ _ _ _ _ _).st b 0 _ (by simp)⟩

/-- A list of numbers that a new state has: of its own from h on, or empty. -/
def OL (h : Nat) (w : World) (v : Value) (xs : List Int) : Prop := (∃ a cap, v = .slice a 0 cap ∧ xs = [] ∧ (a = none → cap = 0)) ∨ w.ownsRow h 3 1 v xs.length (xs.map iv)
theorem OL.sl {h : Nat} {w : World} {v : Value} {xs : List Int} (q : OL h w v xs) : SL w v xs := by
  rcases q with ⟨a, cap, rfl, rfl, hc⟩ | q
  · exact ⟨Or.inl ⟨rfl, a, cap, rfl⟩, fun b c e hb => by cases e; exact hc hb⟩
  · exact own_sl q
theorem OL.keep {h : Nat} {w w' : World} {v : Value} {xs : List Int} (q : OL h w v xs) (f : ∀ k, h ≤ k → k < w.heap.size → w'.heap[k]? = w.heap[k]?) : OL h w' v xs := by
  rcases q with q | q
  · exact Or.inl q
  · refine Or.inr ⟨q.1, ?_⟩
    rcases q.2 with hn | ⟨g, cap, cur, hv, hb, hg, rest⟩
    · exact Or.inl hn
    · exact Or.inr ⟨g, cap, cur, hv, hb, (f g hb (lt_of_block hg)).trans hg, rest⟩

theorem cc_ret {w : World} {a b : Nat} {cs : List Value} {y : Int} {tmps : Array Value} (ha : Blk w a cs 32) (hl : cs.length = 13) (hb : Blk w b [.int .i64 y] 33) (h1 : tmps.getD 6 undef = .pointer (some ⟨a, 0, none⟩)) (h2 : tmps.getD 7 undef = .pointer (some ⟨b, 0, none⟩)) :
    (results Tryz.f5 tmps).run Tryz.prog w = .ok (.tuple #[.agg cs.toArray, .int .i64 y]) w := by
  have cb : w.cell? ⟨b, 0, none⟩ = some (.int .i64 y) := hb.cell 0
  have h1' : tmps[6]?.getD undef = .pointer (some ⟨a, 0, none⟩) := by simpa using h1
  have h2' : tmps[7]?.getD undef = .pointer (some ⟨b, 0, none⟩) := by simpa using h2
  have L1 := run_loadVar_row (P := Tryz.prog) w a 32 32 cs.toArray (0, 0) _ ha Tryz.underlying32 rfl (by rw [size_st]; simp [hl])
  have L2 : (loadVar 33 ⟨b, 0, none⟩).run Tryz.prog w = .ok (.int .i64 y) w := by simp [go_sem, cb]
  simp [results, Tryz.results5, h1', h2', asAddr, L1, L2, Result.andThen, Sem.run_bind]

/-- The world where a next state begins: what came in, and both results, in boxes. -/
def n4 (w : World) (S E : List Value) (y : Int) : World := (((w.alloc (.cells S.toArray 32)).alloc (.cells E.toArray 24)).alloc (.cells z13.toArray 32)).alloc (.cells #[.int .i64 y] 33)
structure N4 (w u : World) (S E : List Value) (y : Int) : Prop where
  b0 : Blk u w.heap.size S 32
  b1 : Blk u (w.heap.size + 1) E 24
  b2 : Blk u (w.heap.size + 1 + 1) z13 32
  b3 : Blk u (w.heap.size + 1 + 1 + 1) [.int .i64 y] 33
  be : Below w.heap.size w u
  sz : w.heap.size + 4 ≤ u.heap.size
theorem n4_is (w : World) (S E : List Value) (y : Int) : N4 w (n4 w S E y) S E y := by
  have e1 : (w.alloc (.cells S.toArray 32)).heap.size = w.heap.size + 1 := World.size_alloc _ _
  have e2 : ((w.alloc (.cells S.toArray 32)).alloc (.cells E.toArray 24)).heap.size = w.heap.size + 1 + 1 := by rw [World.size_alloc, e1]
  have e3 : (((w.alloc (.cells S.toArray 32)).alloc (.cells E.toArray 24)).alloc (.cells z13.toArray 32)).heap.size = w.heap.size + 1 + 1 + 1 := by rw [World.size_alloc, e2]
  refine ⟨(((Blk.new w S _).alloc _).alloc _).alloc _, ?_, ?_, ?_, ((((Below.refl _ _).alloc (Nat.le_refl _) _).alloc (by rw [e1]; omega) _).alloc (by rw [e2]; omega) _).alloc (by rw [e3]; omega) _, ?_⟩
  · have := ((Blk.new (w.alloc (.cells S.toArray 32)) E 24).alloc (.cells z13.toArray 32)).alloc (.cells #[.int .i64 y] 33)
    rwa [e1] at this
  · have := (Blk.new ((w.alloc (.cells S.toArray 32)).alloc (.cells E.toArray 24)) z13 32).alloc (.cells #[.int .i64 y] 33)
    rwa [e2] at this
  · have := Blk.new (((w.alloc (.cells S.toArray 32)).alloc (.cells E.toArray 24)).alloc (.cells z13.toArray 32)) [.int .i64 y] 33
    rwa [e3] at this
  · show _ ≤ ((((w.alloc (.cells S.toArray 32)).alloc (.cells E.toArray 24)).alloc (.cells z13.toArray 32)).alloc (.cells #[.int .i64 y] 33)).heap.size
    rw [World.size_alloc, e3]
    omega

set_option maxHeartbeats 2000000 in
/-- A state that is none has no next one. -/
theorem next_arg (w : World) (c on : Int) (k l : Value) (n cap : Nat) (a : Option Addr) (e0 e1 e2 e3 e4 : Int) (h : c < 1 ∨ 64 < c ∨ (n : Int) ≠ c) :
    Calls Tryz.prog 5 #[.agg (sc c on k (.slice a n cap)).toArray, .agg (ev e0 e1 e2 e3 e4).toArray, l] w fun e w' => e = .returned (.tuple #[.agg z13.toArray, .int .i64 2]) ∧ Below w.heap.size w w' := by
  have NN : Hid (N4 w (n4 w (sc c on k (.slice a n cap)) (ev e0 e1 e2 e3 e4) 2) _ _ _) := n4_is w (sc c on k (.slice a n cap)) (ev e0 e1 e2 e3 e4) 2
  unfold n4 at NN
  have tail : c < 1 ∨ (¬ c < 1 ∧ decide (c < 1) = false ∧ 64 < c) ∨ (¬ c < 1 ∧ decide (c < 1) = false ∧ ¬ 64 < c ∧ decide (64 < c) = false ∧ ((n : Int) == c) = false) := by
    by_cases q1 : c < 1
    · exact Or.inl q1
    · by_cases q2 : 64 < c
      · exact Or.inr (Or.inl ⟨q1, decide_eq_false q1, q2⟩)
      · refine Or.inr (Or.inr ⟨q1, decide_eq_false q1, q2, decide_eq_false q2, ?_⟩)
        rw [beq_eq_false_iff_ne]
        omega
  clear h
  unfold sc ev at *
  rcases tail with h | ⟨h1, h2, h3⟩ | ⟨h1, h2, h3, h4, h5⟩
  all_goals (
    go_enter_defers Tryz.func5, Tryz.ntmps5
    go_wp2
    exact ⟨_, cc_ret NN.out.b2 rfl NN.out.b3 rfl rfl, rfl, NN.out.be⟩)

/-- What is there where a machine follows: its block, and the copies of the lists. -/
structure FO (w V : World) (m : Nat) (c on : Int) (k0 k r : Value) (xs ys : List Int) : Prop where
  be : Below w.heap.size w V
  blk : Blk V m (mc c on k r 0 0 0 0 0) 45
  hm : w.heap.size + 4 ≤ m
  ok : V.ownsRow (w.heap.size + 4) 3 1 k xs.length (xs.map iv)
  or : V.ownsRow (w.heap.size + 4) 3 1 r ys.length (ys.map iv)
  nn : k0 = .slice none 0 0 → k = .slice none 0 0
  ap : ∀ g, k.ownBlock = some g → ∀ g', r.ownBlock = some g' → g ≠ g'
end Go.Proofs.YtaebebgoijgolaaGreat
