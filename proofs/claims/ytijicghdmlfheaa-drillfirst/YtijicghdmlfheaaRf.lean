/- A range over a method value ('for x := range q.m'): the statement's law for a body that goes on or returns. No program in it. -/
import Derived.RangeFuncNested
import Derived.RangeFuncLeaves
import Derived.RangeFuncCalls
import Derived.WalkKit
import Derived.OwnWalkIn
import Derived.TacticsInMore
import Derived.LoopIn
namespace Go.Proofs.Ytijicghdmlfheaa
open Go.RowKit

/-- It abides new blocks, and turns of blocks from B on that hold no cells. -/
structure Abd (B : Nat) (p : World → Prop) : Prop where
  new : ∀ (W : World) (o : Obj), p W → p (W.alloc o)
  turn : ∀ (W : World) (l : Nat) (o o' : Obj), B ≤ l → W.heap[l]? = some o → o.isCells = false → p W → p (W.putObj l o')

theorem Abd.both {B : Nat} {p q : World → Prop} (h : Abd B p) (k : Abd B q) : Abd B fun W => p W ∧ q W :=
  ⟨fun W o x => ⟨h.new W o x.1, k.new W o x.2⟩, fun W l o o' a b c x => ⟨h.turn W l o o' a b c x.1, k.turn W l o o' a b c x.2⟩⟩
theorem Abd.pure (B : Nat) (p : Prop) : Abd B fun _ => p := ⟨fun _ _ h => h, fun _ _ _ _ _ _ _ h => h⟩

/-- The two blocks that the statement lays lie as they lay. -/
def Tw2 (B : Nat) (W W' : World) : Prop := W'.heap[B]? = W.heap[B]? ∧ W'.heap[B + 1]? = W.heap[B + 1]?

/-- They hold no cells. -/
def Tws (B : Nat) (W : World) : Prop := (∃ o : Obj, W.heap[B]? = some o ∧ o.isCells = false) ∧ ∃ o : Obj, W.heap[B + 1]? = some o ∧ o.isCells = false
theorem Tws.lt {B : Nat} {W : World} (h : Tws B W) : B + 1 < W.heap.size := by
  obtain ⟨_, o, h, _⟩ := h
  exact (Array.getElem?_eq_some_iff.1 h).1
theorem Tws.keep {B : Nat} {W W' : World} (h : Tws B W) (k : ∀ (i : Nat) (o : Obj), o.isCells = false → W.heap[i]? = some o → W'.heap[i]? = some o) : Tw2 B W W' := by
  obtain ⟨⟨o, h1, h2⟩, o', h3, h4⟩ := h
  exact ⟨(k _ o h2 h1).trans h1.symm, (k _ o' h4 h3).trans h3.symm⟩

/-- How a round's body may be left: it goes on, or returns. -/
def Rp (B : Nat) (G X : World → Prop) (W : World) : Exit → Act → World → Prop
  | .normal, _, W' => Tw2 B W W' ∧ G W'
  | .ret, _, W' => Tw2 B W W' ∧ X W'
  | _, _, _ => False

theorem range_bound {P : Program} {g : Operand} {ps : Array Tmp} {assign body : Code} {Q : Exit → Act → World → Prop} {a : Act} {w : World} {gf : Nat} {fs : Array Value}
    (hg : a.eval g = .func (.func gf) fs #[]) (eg : ∀ args w, (callFunc gf args).run P w = .ok (.enter gf args) w)
    (N : Nat) (xs : Nat → Array Value) (hps : ∀ k, (xs k).size = ps.size) (I : Nat → World → Prop) (X : World → Prop)
    (aI : ∀ k, Abd w.heap.size (I k)) (aX : Abd w.heap.size X) (h0 : I 0 w) (a1 : Nat → Act)
    (hit : ∀ (l : Nat) (J : Nat → World → Prop) (Jx : World → Prop) (W : World), (∀ k W, J k W → I k W) → J 0 W →
      (∀ k W, k < N → J k W → YieldAt Fence.wide 2 P l (xs k) W fun e W' => (e = .returned (.bool true) ∧ J (k + 1) W') ∨ (e = .returned (.bool false) ∧ Jx W')) →
      CallsIn Fence.wide 3 P gf (fs ++ #[.func (.yield l) #[] #[]]) W fun e W' => (∃ v, e = .returned v) ∧ (J N W' ∨ Jx W'))
    (hassign : ∀ (l k : Nat) (W : World) (K : Act → World → Prop), k < N → K (a1 k) W →
      assign.wpIn (Fence.wide.inRound l) 2 P (Exit.then K (fun _ _ _ => False)) { tmps := (ps.zip (xs k)).foldl (fun t (p, v) => t.setIfInBounds p v) a.tmps, defers := [] } W)
    (hbody : ∀ (l k : Nat) (W : World), k < N → Tws w.heap.size W → I k W → body.wpIn (Fence.wide.inRound l) 2 P (Rp w.heap.size (I (k + 1)) X W) (a1 k) W)
    (hdone : ∀ W : World, I N W → W.heap[w.heap.size]? = some (.deferred (some [])) → Q .normal { a with defers := { target := .collected w.heap.size, args := #[] } :: a.defers } W)
    (hstop : ∀ W : World, X W → W.heap[w.heap.size]? = some (.deferred (some [])) → Code.ret.wpIn Fence.wide 4 P Q { a with defers := { target := .collected w.heap.size, args := #[] } :: a.defers } W) :
    (Code.rangeFunc g ps assign body).wpIn Fence.wide 4 P Q a w := by
  refine wpIn_rangeFunc fun fn hfn => ?_
  obtain ⟨B, hB⟩ : ∃ B, w.heap.size = B := ⟨_, rfl⟩
  rw [hB] at aI aX hbody hdone hstop
  let R : LoopState → Option Code → Loop := fun st pe => { state := st, pending := pe, fn := fn, tmps := a.tmps, params := ps, assign := assign, body := body, defers := B }
  have start : (Instr.enterLoop fn a.tmps ps assign body none).run P w = .ok (B + 1, [{ target := .collected B, args := #[] }]) ((w.alloc (.deferred (some []))).alloc (.loop (R .ready none))) := by
    rw [← hB]
    exact (run_enterLoop_outer fn a.tmps ps assign body).trans (by simp [R, hB])
  have d1 : ((w.alloc (.deferred (some []))).alloc (.loop (R .ready none))).heap[B]? = some (.deferred (some [])) := by
    rw [← hB]
    exact (Below.heap_alloc _ _ _ (by simp)).trans (World.alloc_heap_new w _)
  have l1 : ((w.alloc (.deferred (some []))).alloc (.loop (R .ready none))).heap[B + 1]? = some (.loop (R .ready none)) := by
    have := World.alloc_heap_new (w.alloc (.deferred (some []))) (.loop (R .ready none))
    rwa [World.size_alloc, hB] at this
  have i1 := (aI 0).new _ (.loop (R .ready none)) ((aI 0).new _ (.deferred (some [])) h0)
  generalize (w.alloc (.deferred (some []))).alloc (.loop (R .ready none)) = W1 at start d1 l1 i1
  refine ⟨B + 1, _, W1, { target := .fn (.func gf) #[], args := fs ++ #[.func (.yield (B + 1)) #[] #[]] }, W1, gf, fs ++ #[.func (.yield (B + 1)) #[] #[]], W1, start, ?_, ?_, ?_, (fun _ => by decide), ?_⟩
  · simp only [resolve, hg]
    simp [go_sem]
  · intro _ _
    trivial
  · simp [invoke, go_sem, eg]
  · refine (hit (B + 1) (fun k W => I k W ∧ W.heap[B + 1]? = some (.loop (R .ready none)) ∧ W.heap[B]? = some (.deferred (some [])))
      (fun W => X W ∧ W.heap[B + 1]? = some (.loop (R .done (some .ret))) ∧ W.heap[B]? = some (.deferred (some []))) W1 (fun _ _ h => h.1) ⟨i1, l1, d1⟩ ?_).mono ?_
    · rintro k W hk ⟨ik, lk, dk⟩
      have hlt : B + 1 < W.heap.size := (Array.getElem?_eq_some_iff.1 lk).1
      have hy := run_yield (P := P) (args := xs k) lk (hps k)
      refine ⟨fn, _, assign, body, hy, roundIn_of_wpIn hfn (hassign (B + 1) k W _ hk ⟨_, run_beginRound lk rfl, ?_⟩)⟩
      have lb : (W.putObj (B + 1) (.loop (R .busy none))).heap[B + 1]? = some (.loop (R .busy none)) := World.putObj_heap_same hlt
      have db : (W.putObj (B + 1) (.loop (R .busy none))).heap[B]? = some (.deferred (some [])) := (World.putObj_heap_other (by omega)).trans dk
      refine wpIn_mono (hbody (B + 1) k (W.putObj (B + 1) (.loop (R .busy none))) hk ⟨⟨_, db, rfl⟩, _, lb, rfl⟩ ((aI k).turn _ _ _ _ (by omega) lk rfl ik)) ?_
      intro e a3 W3 hp
      cases e with
      | normal =>
        obtain ⟨⟨e1, e2⟩, ig⟩ := hp
        rw [lb] at e2
        rw [db] at e1
        have l3 : B + 1 < W3.heap.size := (Array.getElem?_eq_some_iff.1 e2).1
        exact ⟨_, _, run_endRound none e2, .inl ⟨rfl, (aI (k + 1)).turn _ _ _ _ (by omega) e2 rfl ig, World.putObj_heap_same l3, (World.putObj_heap_other (by omega)).trans e1⟩⟩
      | ret =>
        obtain ⟨⟨e1, e2⟩, ig⟩ := hp
        rw [lb] at e2
        rw [db] at e1
        have l3 : B + 1 < W3.heap.size := (Array.getElem?_eq_some_iff.1 e2).1
        exact ⟨_, _, run_endRound (some .ret) e2, .inr ⟨rfl, aX.turn _ _ _ _ (by omega) e2 rfl ig, World.putObj_heap_same l3, (World.putObj_heap_other (by omega)).trans e1⟩⟩
      | exit _ => exact hp.elim
      | goto _ => exact hp.elim
      | panic _ => exact hp.elim
      | outgrown => exact hp.elim
    · rintro e W2 ⟨⟨v, rfl⟩, ⟨i2, l2, d2⟩ | ⟨x2, l2, d2⟩⟩
      · exact ⟨none, _, run_endLoop l2 (by simp [R]), hdone _ ((aI N).turn _ _ _ _ (by omega) l2 rfl i2) ((World.putObj_heap_other (by omega)).trans d2)⟩
      · exact ⟨some .ret, _, run_endLoop l2 (by simp [R]), hstop _ (aX.turn _ _ _ _ (by omega) l2 rfl x2) ((World.putObj_heap_other (by omega)).trans d2)⟩
end Go.Proofs.Ytijicghdmlfheaa
