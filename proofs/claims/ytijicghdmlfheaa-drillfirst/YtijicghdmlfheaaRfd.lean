/- A range over a function that captures ('for x := range f(..)'): the statement's law for a body that goes on or returns; its iterator may turn memory ahead of each round, as 'St' says; its variable lies in a new block (o1) each round. No program in it. -/
import Derived.Test.YtijicghdmlfheaaRf
import Derived.Test.YtijicghdmlfheaaFg
namespace Go.Proofs.Ytijicghdmlfheaa
open Go.RowKit

theorem range_step {P : Program} {g : Operand} {ps : Array Tmp} {assign body : Code} {Q : Exit → Act → World → Prop} {a : Act} {w : World} {gf : Nat} {cs : Array Value}
    (hg : a.eval g = .func (.func gf) #[] cs) (eg : ∀ args w, (callFunc gf args).run P w = .ok (.enter gf args) w)
    (N : Nat) (xs : Nat → Array Value) (hps : ∀ k, (xs k).size = ps.size) (I I' : Nat → World → Prop) (St : Nat → World → World → Prop) (X : World → Prop)
    (aI : ∀ k, Abd w.heap.size (I k)) (aI' : ∀ k, Abd w.heap.size (I' k)) (aX : Abd w.heap.size X) (hSt : ∀ k W W', k < N → St k W W' → I k W → I' k W') (hTw : ∀ k W W', k < N → St k W W' → I k W → Tws w.heap.size W → Tw2 w.heap.size W W') (h0 : I 0 w) (a1 : Nat → Nat → Act) (o1 : Nat → Obj)
    (hit : ∀ (l : Nat) (J J' : Nat → World → Prop) (Jx : World → Prop) (W : World), (∀ k W, J k W → I k W) → (∀ k W W', k < N → St k W W' → J k W → J' k W') → J 0 W →
      (∀ k W, k < N → J' k W → YieldAt Fence.wide 2 P l (xs k) W fun e W' => (e = .returned (.bool true) ∧ J (k + 1) W') ∨ (e = .returned (.bool false) ∧ Jx W')) →
      CallsIn Fence.wide 3 P gf (#[.func (.yield l) #[] #[]] ++ cs) W fun e W' => (∃ v, e = .returned v) ∧ (J N W' ∨ Jx W'))
    (hassign : ∀ (l k : Nat) (W : World) (K : Act → World → Prop), k < N → K (a1 k W.heap.size) (W.alloc (o1 k)) →
      assign.wpIn (Fence.wide.inRound l) 2 P (Exit.then K (fun _ _ _ => False)) { tmps := (ps.zip (xs k)).foldl (fun t (p, v) => t.setIfInBounds p v) a.tmps, defers := [] } W)
    (hbody : ∀ (l k q : Nat) (W : World), k < N → Tws w.heap.size W → W.heap[q]? = some (o1 k) → I' k W → body.wpIn (Fence.wide.inRound l) 2 P (Rp w.heap.size (I (k + 1)) X W) (a1 k q) W)
    (hdone : ∀ W : World, I N W → W.heap[w.heap.size]? = some (.deferred (some [])) → Q .normal { a with defers := { target := .collected w.heap.size, args := #[] } :: a.defers } W)
    (hstop : ∀ W : World, X W → W.heap[w.heap.size]? = some (.deferred (some [])) → Code.ret.wpIn Fence.wide 4 P Q { a with defers := { target := .collected w.heap.size, args := #[] } :: a.defers } W) :
    (Code.rangeFunc g ps assign body).wpIn Fence.wide 4 P Q a w := by
  refine wpIn_rangeFunc fun fn hfn => ?_
  obtain ⟨B, hB⟩ : ∃ B, w.heap.size = B := ⟨_, rfl⟩
  rw [hB] at aI aI' aX hTw hbody hdone hstop
  let R : LoopState → Option Code → Loop := fun st pe => { state := st, pending := pe, fn := fn, tmps := a.tmps, params := ps, assign := assign, body := body, defers := B }
  have start : (Instr.enterLoop fn a.tmps ps assign body none).run P w = .ok (B + 1, [{ target := .collected B, args := #[] }]) ((w.alloc (.deferred (some []))).alloc (.loop (R .ready none))) := by
    rw [← hB]
    exact (run_enterLoop_outer fn a.tmps ps assign body).trans (by simp [R, hB])
  have d1 : ((w.alloc (.deferred (some []))).alloc (.loop (R .ready none))).heap[B]? = some (.deferred (some [])) := by
    rw [← hB]
    exact (Below.heap_alloc _ _ _ (by simp)).trans (World.alloc_heap_new w _)
  have l1 : ((w.alloc (.deferred (some []))).alloc (.loop (R .ready none))).heap[B + 1]? = some (.loop (R .ready none)) := by
    have := World.alloc_heap_new (w.alloc (.deferred (some []))) (.loop (R .ready none))
    rwa [World.size_alloc, hB] at this
  have i1 := (aI 0).new _ (.loop (R .ready none)) ((aI 0).new _ (.deferred (some [])) h0)
  generalize (w.alloc (.deferred (some []))).alloc (.loop (R .ready none)) = W1 at start d1 l1 i1
  refine ⟨B + 1, _, W1, { target := .fn (.func gf) cs, args := #[.func (.yield (B + 1)) #[] #[]] }, W1, gf, #[.func (.yield (B + 1)) #[] #[]] ++ cs, W1, start, ?_, ?_, ?_, (fun _ => by decide), ?_⟩
  · simp only [resolve, hg]
    simp [go_sem]
  · intro _ _
    trivial
  · simp [invoke, go_sem, eg]
  · refine (hit (B + 1) (fun k W => I k W ∧ W.heap[B + 1]? = some (.loop (R .ready none)) ∧ W.heap[B]? = some (.deferred (some [])))
      (fun k W => I' k W ∧ W.heap[B + 1]? = some (.loop (R .ready none)) ∧ W.heap[B]? = some (.deferred (some [])))
      (fun W => X W ∧ W.heap[B + 1]? = some (.loop (R .done (some .ret))) ∧ W.heap[B]? = some (.deferred (some []))) W1 (fun _ _ h => h.1) (fun k W W' hk s h => by
        obtain ⟨t1, t2⟩ := hTw k W W' hk s h.1 ⟨⟨_, h.2.2, rfl⟩, _, h.2.1, rfl⟩
        exact ⟨hSt k W W' hk s h.1, t2.trans h.2.1, t1.trans h.2.2⟩) ⟨i1, l1, d1⟩ ?_).mono ?_
    · rintro k W hk ⟨ik, lk, dk⟩
      have hlt : B + 1 < W.heap.size := (Array.getElem?_eq_some_iff.1 lk).1
      have hy := run_yield (P := P) (args := xs k) lk (hps k)
      have lk1 : (W.alloc (o1 k)).heap[B + 1]? = some (.loop (R .ready none)) := (Below.heap_alloc _ _ _ hlt).trans lk
      have dk1 : (W.alloc (o1 k)).heap[B]? = some (.deferred (some [])) := (Below.heap_alloc _ _ _ (by omega)).trans dk
      have hl1 : B + 1 < (W.alloc (o1 k)).heap.size := (Array.getElem?_eq_some_iff.1 lk1).1
      refine ⟨fn, _, assign, body, hy, roundIn_of_wpIn hfn (hassign (B + 1) k W _ hk ⟨_, run_beginRound lk1 rfl, ?_⟩)⟩
      have lb : ((W.alloc (o1 k)).putObj (B + 1) (.loop (R .busy none))).heap[B + 1]? = some (.loop (R .busy none)) := World.putObj_heap_same hl1
      have db : ((W.alloc (o1 k)).putObj (B + 1) (.loop (R .busy none))).heap[B]? = some (.deferred (some [])) := (World.putObj_heap_other (by omega)).trans dk1
      have qb : ((W.alloc (o1 k)).putObj (B + 1) (.loop (R .busy none))).heap[W.heap.size]? = some (o1 k) := (World.putObj_heap_other (by omega)).trans (World.alloc_heap_new W _)
      refine wpIn_mono (hbody (B + 1) k W.heap.size ((W.alloc (o1 k)).putObj (B + 1) (.loop (R .busy none))) hk ⟨⟨_, db, rfl⟩, _, lb, rfl⟩ qb ((aI' k).turn _ _ _ _ (by omega) lk1 rfl ((aI' k).new W (o1 k) ik))) ?_
      intro e a3 W3 hp
      cases e with
      | normal =>
        obtain ⟨⟨e1, e2⟩, ig⟩ := hp
        rw [lb] at e2
        rw [db] at e1
        have l3 : B + 1 < W3.heap.size := (Array.getElem?_eq_some_iff.1 e2).1
        exact ⟨_, _, run_endRound none e2, .inl ⟨rfl, (aI (k + 1)).turn _ _ _ _ (by omega) e2 rfl ig, World.putObj_heap_same l3, (World.putObj_heap_other (by omega)).trans e1⟩⟩
      | ret =>
        obtain ⟨⟨e1, e2⟩, ig⟩ := hp
        rw [lb] at e2
        rw [db] at e1
        have l3 : B + 1 < W3.heap.size := (Array.getElem?_eq_some_iff.1 e2).1
        exact ⟨_, _, run_endRound (some .ret) e2, .inr ⟨rfl, aX.turn _ _ _ _ (by omega) e2 rfl ig, World.putObj_heap_same l3, (World.putObj_heap_other (by omega)).trans e1⟩⟩
      | exit _ => exact hp.elim
      | goto _ => exact hp.elim
      | panic _ => exact hp.elim
      | outgrown => exact hp.elim
    · rintro e W2 ⟨⟨v, rfl⟩, ⟨i2, l2, d2⟩ | ⟨x2, l2, d2⟩⟩
      · exact ⟨none, _, run_endLoop l2 (by simp [R]), hdone _ ((aI N).turn _ _ _ _ (by omega) l2 rfl i2) ((World.putObj_heap_other (by omega)).trans d2)⟩
      · exact ⟨some .ret, _, run_endLoop l2 (by simp [R]), hstop _ (aX.turn _ _ _ _ (by omega) l2 rfl x2) ((World.putObj_heap_other (by omega)).trans d2)⟩
/-- An append whose outcome is known, where the order is the text's, inside a fence. -/
theorem wpListIn_rung {F : Fence} {n : Nat} {P : Program} {w w' : World} {ops : Array Oper} {rest : List Oper} {o : Oper} {a : Act} {Q : Exit → Act → World → Prop} {v u v' : Value}
    (hg : o.guard = none) (s x : Operand) (t : TypeId) (hop : o.op = Op.call { callee := Callee.builtin Builtin.append, args := #[s, x], argTypes := #[t, t] }) (hs : a.eval s = v) (hx : a.eval x = u)
    (hrun : (Builtin.append_ #[t, t] o.type #[v, u]).run P w = .ok v' w') (hK : wpListIn F n P ops Q rest (a.put o.dst v') w') : wpListIn F n P ops Q (o :: rest) a w := by
  refine wpListIn_plain hg fun K hK' => ?_
  unfold Oper.wpIn
  refine ⟨?_, ?_⟩
  · simp [Oper.about, hop, resolve, Target.leads, Sem.run_pure]
  · rw [Oper.semAt_plain F _ _ (by rw [hop]; intro c hc'; cases hc')]
    simp [execOp, hop, resolve, invoke, builtin, hs, hx, hrun, Result.andThen]
    exact hK' _ _ hK
end Go.Proofs.Ytijicghdmlfheaa
