/- The texts Rf Qm Qa Qb Qc Qd Qe Qk Xm Um Ua Ub Uc Ud Uk Ul of one layer, laid together. -/
import Derived.Test.YtfipiifickdeiaaGreatDoorRows
import Derived.Test.YtfipiifickdeiaaGreatDoorXf
import Derived.RangeFuncNested
import Derived.RangeFuncLeaves
import Derived.RangeFuncCalls
import Derived.WalkKit
import Derived.OwnWalkIn
import Derived.TacticsInMore
import Derived.LoopIn
import Derived.ProofKit
import Derived.OpenShut
import Derived.BigQuiet
import Derived.Shelf.Abstract
import Derived.Shelf.RegionOpen
import Derived.Deep.RegionHeld3
import Derived.Maps.OwnSet
namespace Go.Proofs.YtfipiifickdeiaaGreatDoor.Rqu
open Fif
open Go.RowKit
/-- It abides new blocks, and turns of blocks from B on that hold no cells. -/
structure Abd (B : Nat) (p : World → Prop) : Prop where
  new : ∀ (W : World) (o : Obj), p W → p (W.alloc o)
  turn : ∀ (W : World) (l : Nat) (o o' : Obj), B ≤ l → W.heap[l]? = some o → o.isCells = false → p W → p (W.putObj l o')
theorem Abd.pure (B : Nat) (p : Prop) : Abd B fun _ => p := ⟨fun _ _ h => h, fun _ _ _ _ _ _ _ h => h⟩
/-- The two blocks that the statement lays lie as they lay. -/
def Tw2 (B : Nat) (W W' : World) : Prop := W'.heap[B]? = W.heap[B]? ∧ W'.heap[B + 1]? = W.heap[B + 1]?
/-- They hold no cells. -/
def Tws (B : Nat) (W : World) : Prop := (∃ o : Obj, W.heap[B]? = some o ∧ o.isCells = false) ∧ ∃ o : Obj, W.heap[B + 1]? = some o ∧ o.isCells = false
theorem Tws.lt {B : Nat} {W : World} (h : Tws B W) : B + 1 < W.heap.size := by
  obtain ⟨_, o, h, _⟩ := h
  exact (Array.getElem?_eq_some_iff.1 h).1
theorem Tws.keep {B : Nat} {W W' : World} (h : Tws B W) (k : ∀ (i : Nat) (o : Obj), o.isCells = false → W.heap[i]? = some o → W'.heap[i]? = some o) : Tw2 B W W' := by
  obtain ⟨⟨o, h1, h2⟩, o', h3, h4⟩ := h
  exact ⟨(k _ o h2 h1).trans h1.symm, (k _ o' h4 h3).trans h3.symm⟩
/-- How a round's body may be left: it goes on, or returns. -/
def Rp (B : Nat) (G X : World → Prop) (W : World) : Exit → Act → World → Prop
  | .normal, _, W' => Tw2 B W W' ∧ G W'
  | .ret, _, W' => Tw2 B W W' ∧ X W'
  | _, _, _ => False
theorem range_bound {P : Program} {g : Operand} {ps : Array Tmp} {assign body : Code} {Q : Exit → Act → World → Prop} {a : Act} {w : World} {gf : Nat} {fs : Array Value}
    (hg : a.eval g = .func (.func gf) fs #[]) (eg : ∀ args w, (callFunc gf args).run P w = .ok (.enter gf args) w)
    (N : Nat) (xs : Nat → Array Value) (hps : ∀ k, (xs k).size = ps.size) (I : Nat → World → Prop) (X : World → Prop)
    (aI : ∀ k, Abd w.heap.size (I k)) (aX : Abd w.heap.size X) (h0 : I 0 w) (a1 : Nat → Act)
    (hit : ∀ (l : Nat) (J : Nat → World → Prop) (Jx : World → Prop) (W : World), (∀ k W, J k W → I k W) → J 0 W →
      (∀ k W, k < N → J k W → YieldAt Fence.wide 2 P l (xs k) W fun e W' => (e = .returned (.bool true) ∧ J (k + 1) W') ∨ (e = .returned (.bool false) ∧ Jx W')) →
      CallsIn Fence.wide 3 P gf (fs ++ #[.func (.yield l) #[] #[]]) W fun e W' => (∃ v, e = .returned v) ∧ (J N W' ∨ Jx W'))
    (hassign : ∀ (l k : Nat) (W : World) (K : Act → World → Prop), k < N → K (a1 k) W →
      assign.wpIn (Fence.wide.inRound l) 2 P (Exit.then K (fun _ _ _ => False)) { tmps := (ps.zip (xs k)).foldl (fun t (p, v) => t.setIfInBounds p v) a.tmps, defers := [] } W)
    (hbody : ∀ (l k : Nat) (W : World), k < N → Tws w.heap.size W → I k W → body.wpIn (Fence.wide.inRound l) 2 P (Rp w.heap.size (I (k + 1)) X W) (a1 k) W)
    (hdone : ∀ W : World, I N W → W.heap[w.heap.size]? = some (.deferred (some [])) → Q .normal { a with defers := { target := .collected w.heap.size, args := #[] } :: a.defers } W)
    (hstop : ∀ W : World, X W → W.heap[w.heap.size]? = some (.deferred (some [])) → Code.ret.wpIn Fence.wide 4 P Q { a with defers := { target := .collected w.heap.size, args := #[] } :: a.defers } W) :
    (Code.rangeFunc g ps assign body).wpIn Fence.wide 4 P Q a w := by
  refine wpIn_rangeFunc fun fn hfn => ?_
  obtain ⟨B, hB⟩ : ∃ B, w.heap.size = B := ⟨_, rfl⟩
  rw [hB] at aI aX hbody hdone hstop
  let R : LoopState → Option Code → Loop := fun st pe => { state := st, pending := pe, fn := fn, tmps := a.tmps, params := ps, assign := assign, body := body, defers := B }
  have start : (Instr.enterLoop fn a.tmps ps assign body none).run P w = .ok (B + 1, [{ target := .collected B, args := #[] }]) ((w.alloc (.deferred (some []))).alloc (.loop (R .ready none))) := by
    rw [← hB]
    exact (run_enterLoop_outer fn a.tmps ps assign body).trans (by simp [R, hB])
  have d1 : ((w.alloc (.deferred (some []))).alloc (.loop (R .ready none))).heap[B]? = some (.deferred (some [])) := by
    rw [← hB]
    exact (Below.heap_alloc _ _ _ (by simp)).trans (World.alloc_heap_new w _)
  have l1 : ((w.alloc (.deferred (some []))).alloc (.loop (R .ready none))).heap[B + 1]? = some (.loop (R .ready none)) := by
    have := World.alloc_heap_new (w.alloc (.deferred (some []))) (.loop (R .ready none))
    rwa [World.size_alloc, hB] at this
  have i1 := (aI 0).new _ (.loop (R .ready none)) ((aI 0).new _ (.deferred (some [])) h0)
  generalize (w.alloc (.deferred (some []))).alloc (.loop (R .ready none)) = W1 at start d1 l1 i1
  refine ⟨B + 1, _, W1, { target := .fn (.func gf) #[], args := fs ++ #[.func (.yield (B + 1)) #[] #[]] }, W1, gf, fs ++ #[.func (.yield (B + 1)) #[] #[]], W1, start, ?_, ?_, ?_, (fun _ => by decide), ?_⟩
  · simp only [resolve, hg]
    simp [go_sem]
  · intro _ _
    trivial
  · simp [invoke, go_sem, eg]
  · refine (hit (B + 1) (fun k W => I k W ∧ W.heap[B + 1]? = some (.loop (R .ready none)) ∧ W.heap[B]? = some (.deferred (some [])))
      (fun W => X W ∧ W.heap[B + 1]? = some (.loop (R .done (some .ret))) ∧ W.heap[B]? = some (.deferred (some []))) W1 (fun _ _ h => h.1) ⟨i1, l1, d1⟩ ?_).mono ?_
    · rintro k W hk ⟨ik, lk, dk⟩
      have hlt : B + 1 < W.heap.size := (Array.getElem?_eq_some_iff.1 lk).1
      have hy := run_yield (P := P) (args := xs k) lk (hps k)
      refine ⟨fn, _, assign, body, hy, roundIn_of_wpIn hfn (hassign (B + 1) k W _ hk ⟨_, run_beginRound lk rfl, ?_⟩)⟩
      have lb : (W.putObj (B + 1) (.loop (R .busy none))).heap[B + 1]? = some (.loop (R .busy none)) := World.putObj_heap_same hlt
      have db : (W.putObj (B + 1) (.loop (R .busy none))).heap[B]? = some (.deferred (some [])) := (World.putObj_heap_other (by omega)).trans dk
      refine wpIn_mono (hbody (B + 1) k (W.putObj (B + 1) (.loop (R .busy none))) hk ⟨⟨_, db, rfl⟩, _, lb, rfl⟩ ((aI k).turn _ _ _ _ (by omega) lk rfl ik)) ?_
      intro e a3 W3 hp
      cases e with
      | normal =>
        obtain ⟨⟨e1, e2⟩, ig⟩ := hp
        rw [lb] at e2
        rw [db] at e1
        have l3 : B + 1 < W3.heap.size := (Array.getElem?_eq_some_iff.1 e2).1
        exact ⟨_, _, run_endRound none e2, .inl ⟨rfl, (aI (k + 1)).turn _ _ _ _ (by omega) e2 rfl ig, World.putObj_heap_same l3, (World.putObj_heap_other (by omega)).trans e1⟩⟩
      | ret =>
        obtain ⟨⟨e1, e2⟩, ig⟩ := hp
        rw [lb] at e2
        rw [db] at e1
        have l3 : B + 1 < W3.heap.size := (Array.getElem?_eq_some_iff.1 e2).1
        exact ⟨_, _, run_endRound (some .ret) e2, .inr ⟨rfl, aX.turn _ _ _ _ (by omega) e2 rfl ig, World.putObj_heap_same l3, (World.putObj_heap_other (by omega)).trans e1⟩⟩
      | exit _ => exact hp.elim
      | goto _ => exact hp.elim
      | panic _ => exact hp.elim
      | outgrown => exact hp.elim
    · rintro e W2 ⟨⟨v, rfl⟩, ⟨i2, l2, d2⟩ | ⟨x2, l2, d2⟩⟩
      · exact ⟨none, _, run_endLoop l2 (by simp [R]), hdone _ ((aI N).turn _ _ _ _ (by omega) l2 rfl i2) ((World.putObj_heap_other (by omega)).trans d2)⟩
      · exact ⟨some .ret, _, run_endLoop l2 (by simp [R]), hstop _ (aX.turn _ _ _ _ (by omega) l2 rfl x2) ((World.putObj_heap_other (by omega)).trans d2)⟩
end Go.Proofs.YtfipiifickdeiaaGreatDoor.Rqu
namespace Go.Proofs.YtfipiifickdeiaaGreatDoor.Qm
open Fif Rqu
open Fm
abbrev Its := List (Int × Int)
/-- The things of one priority, in order. -/
def lv (X : Its) (k : Nat) : List Int := (X.filter fun x => x.1 == (k : Int)).map Prod.snd
def ids (X : Its) : List Int := X.map Prod.snd
/-- Those of the k greatest priorities, as they go ahead of each other; all of them. -/
def gth (X : Its) : Nat → List Int
  | 0 => []
  | k + 1 => gth X k ++ lv X (7 - k)
def cat (X : Its) : List Int := gth X 8
def del (X : Its) (n : Int) : Its := X.filter fun x => x.2 != n
structure Ok (m : Nat) (X : Its) : Prop where
  nd : (ids X).Nodup
  le : X.length ≤ m
  rg : ∀ x ∈ X, 0 ≤ x.1 ∧ x.1 < 8
theorem ok_nil (m : Nat) : Ok m [] := ⟨by simp [ids], by simp, fun _ h => by simp at h⟩
/-- What Push answers and leaves. -/
def psE (m : Nat) (X : Its) (p n : Int) : Int := if p < 0 ∨ 8 ≤ p then 2 else if n ∈ ids X then 6 else if m ≤ X.length then 5 else 0
def psX (m : Nat) (X : Its) (p n : Int) : Its := if p < 0 ∨ 8 ≤ p then X else if n ∈ ids X then X else if m ≤ X.length then X else X ++ [(p, n)]
/-- The priority of one; whether it is there. -/
def prP (X : Its) (n : Int) : Int := ((X.find? fun x => x.2 == n).map Prod.fst).getD 0
def bkX (X : Its) (n : Int) : Its := if n ∈ ids X then del X n ++ [(prP X n, n)] else X
/-- The first one, whether there is one, and what Turn leaves. -/
def tpN (X : Its) : Int := (cat X).headD 0
def tnX (X : Its) : Its := if X = [] then X else bkX X (tpN X)
theorem gth_split (X : Its) (k d : Nat) : ∃ Y, gth X (k + d) = gth X k ++ Y := by
  induction d with
  | zero => exact ⟨[], by simp⟩
  | succ d ih =>
    obtain ⟨Y, e⟩ := ih
    refine ⟨Y ++ lv X (7 - (k + d)), ?_⟩
    have q : gth X (k + (d + 1)) = gth X (k + d) ++ lv X (7 - (k + d)) := rfl
    rw [q, e, List.append_assoc]
theorem sum_len {X : Its} (h : ∀ x ∈ X, 0 ≤ x.1 ∧ x.1 < 8) : (lv X 0).length + (lv X 1).length + (lv X 2).length + (lv X 3).length + (lv X 4).length + (lv X 5).length + (lv X 6).length + (lv X 7).length = X.length := by
  induction X with
  | nil => rfl
  | cons x r ih =>
    have h1 := ih fun y hy => h y (List.mem_cons_of_mem _ hy)
    have h2 := h x (by simp)
    obtain ⟨p, n⟩ := x
    simp only at h2
    have e : ∀ k : Nat, (lv ((p, n) :: r) k).length = (lv r k).length + if p = (k : Int) then 1 else 0 := by
      intro k
      unfold lv
      rw [List.filter_cons]
      by_cases c : p = (k : Int)
      · simp [c]
      · simp [c]
    simp only [e, List.length_cons]
    obtain rfl | rfl | rfl | rfl | rfl | rfl | rfl | rfl : p = 0 ∨ p = 1 ∨ p = 2 ∨ p = 3 ∨ p = 4 ∨ p = 5 ∨ p = 6 ∨ p = 7 := by omega
    all_goals simp
    all_goals omega
/-- How many those of the first k levels are. -/
def cnt (X : Its) : Nat → Nat
  | 0 => 0
  | k + 1 => cnt X k + (lv X k).length
theorem cnt_all {X : Its} (h : ∀ x ∈ X, 0 ≤ x.1 ∧ x.1 < 8) : cnt X 8 = X.length := by
  rw [← sum_len h]
  simp [cnt]
theorem len_cat {X : Its} (h : ∀ x ∈ X, 0 ≤ x.1 ∧ x.1 < 8) : (cat X).length = X.length := by
  rw [← sum_len h]
  simp [cat, gth]
  omega
theorem gth_le {X : Its} (h : ∀ x ∈ X, 0 ≤ x.1 ∧ x.1 < 8) {k : Nat} (hk : k ≤ 8) : (gth X k).length ≤ X.length := by
  obtain ⟨Y, e⟩ := gth_split X k (8 - k)
  rw [show k + (8 - k) = 8 by omega] at e
  have := len_cat h
  unfold cat at this
  rw [e, List.length_append] at this
  omega
theorem cnt_le {X : Its} (h : ∀ x ∈ X, 0 ≤ x.1 ∧ x.1 < 8) {k : Nat} (hk : k ≤ 8) : cnt X k ≤ X.length := by
  rw [← cnt_all h]
  have : ∀ d, cnt X k ≤ cnt X (k + d) := by
    intro d
    induction d with
    | zero => exact Nat.le_refl _
    | succ d ih => exact Nat.le_trans ih (Nat.le_add_right _ _)
  have := this (8 - k)
  rwa [show k + (8 - k) = 8 by omega] at this
end Go.Proofs.YtfipiifickdeiaaGreatDoor.Qm
namespace Go.Proofs.YtfipiifickdeiaaGreatDoor.Rqu
open Fif
open Go.ChangeShapes Go.WideShapes Go.ChangeAt Go.RowKit
open Fm Qm

attribute [local go_sem] Oper.semAt_some
/-- The pointers to the eight levels of a queue at block s: each level's struct, behind its ring. -/
def pt (s k : Nat) : Value := .pointer (some ⟨s + 2 + 2 * k, 0, none⟩)
def pts (s : Nat) : List Value := [pt s 0, pt s 1, pt s 2, pt s 3, pt s 4, pt s 5, pt s 6, pt s 7]
theorem pts_at (s k : Nat) (h : k < 8) : (pts s)[k]? = some (pt s k) := by
  obtain rfl | rfl | rfl | rfl | rfl | rfl | rfl | rfl : k = 0 ∨ k = 1 ∨ k = 2 ∨ k = 3 ∨ k = 4 ∨ k = 5 ∨ k = 6 ∨ k = 7 := by omega
  all_goals rfl
/-- The blocks of a queue at block s. -/
def zn (s : Nat) : List Nat := List.range' s 17
theorem mem_zn (s k : Nat) : k ∈ zn s ↔ s ≤ k ∧ k < s + 17 := by unfold zn; rw [List.mem_range'_1]
/-- The queue at block s, for m things, holds X. -/
structure PQ (w : World) (s m : Nat) (X : Its) : Prop where
  sb : Blk w s (pts s) 216
  lv : ∀ k, k < 8 → ∃ f r, Q w (s + 2 + 2 * k) (s + 1 + 2 * k) m f r (lv X k)
  ok : Ok m X
theorem PQ.hi {w : World} {s m : Nat} {X : Its} (h : PQ w s m X) : s + 17 ≤ w.heap.size := by
  obtain ⟨f, r, q⟩ := h.lv 7 (by omega)
  have := q.sb.lt
  omega
theorem PQ.keep {B : Nat} {S : List Nat} {w w' : World} {s m : Nat} {X : Its} (h : PQ w s m X) (f : Fr B S w w') (hB : s + 17 ≤ B) (hS : ∀ k, s ≤ k → k < s + 17 → k ∉ S) : PQ w' s m X :=
  ⟨h.sb.keep f (by omega) (hS s (by omega) (by omega)), fun k hk => by
    obtain ⟨a, r, q⟩ := h.lv k hk
    exact ⟨a, r, q.keep f ⟨by omega, by omega⟩ ⟨hS _ (by omega) (by omega), hS _ (by omega) (by omega)⟩⟩, h.ok⟩
theorem PQ.below {w w' : World} {s m : Nat} {X : Its} (h : PQ w s m X) (f : Below w.heap.size w w') : PQ w' s m X :=
  h.keep (Fr.of_below f) h.hi (fun _ _ _ => by simp)
theorem PQ.m1 {w : World} {s m : Nat} {X : Its} (h : PQ w s m X) : (1 : Int) ≤ m ∧ (m : Int) ≤ 1024 := by
  obtain ⟨f, r, q⟩ := h.lv 0 (by omega)
  have := q.rg.m1
  have := q.rg.m2
  omega
theorem PQ.cell {w : World} {s m : Nat} {X : Its} (h : PQ w s m X) (k : Nat) (hk : k < 8) : w.cell? ⟨s, k, none⟩ = some (pt s k) := by rw [h.sb.cell k, pts_at s k hk]
/-- 'Below N of w' abides what a range over a function does to its own blocks. -/
theorem abd_below {N B : Nat} {w : World} (h : N ≤ w.heap.size) (hB : N ≤ B) : Abd B fun W => Below N w W :=
  ⟨fun W o x => x.alloc (Nat.le_trans h x.size) o, fun W l o o' hl _ _ x => ⟨x.os, x.tape, x.output, by simpa using x.size, fun k hk => (World.putObj_heap_other (by omega)).trans (x.block k hk)⟩⟩
/-- What down hands to the round k. -/
def dx (s k : Nat) : Array Value := #[.int .i64 ((7 - k : Nat) : Int), pt s (7 - k)]
set_option maxHeartbeats 1000000 in
theorem down_it {s : Nat} (l : Nat) (J : Nat → World → Prop) (Jx : World → Prop) (W : World) (hJ : ∀ k W, J k W → ∀ j, j < 8 → W.cell? ⟨s, j, none⟩ = some (pt s j)) (h0 : J 0 W)
    (hY : ∀ k W, k < 8 → J k W → YieldAt Fence.wide 2 Tryz.prog l (dx s k) W fun e W' => (e = .returned (.bool true) ∧ J (k + 1) W') ∨ (e = .returned (.bool false) ∧ Jx W')) :
    CallsIn Fence.wide 3 Tryz.prog 261 (#[.pointer (some ⟨s, 0, none⟩)] ++ #[.func (.yield l) #[] #[]]) W fun e W' => (∃ v, e = .returned v) ∧ (J 8 W' ∨ Jx W') := by
  refine callsIn_of_wp Tryz.func261 rfl trivial ?_ rfl
  simp only [Tryz.ntmps261, List.size_toArray, List.length_cons, List.length_nil, Nat.reduceAdd, Nat.reduceSub, Array.replicate_succ, Array.replicate_zero, List.push_toArray, List.append_toArray, List.nil_append, List.cons_append]
  gi_wp2
  gi_loopw [4] (fun i wr => (∃ p k : Nat, p + k = 7 ∧ i = .int .i64 (p : Int) ∧ J k wr) ∨ (i = .int .i64 (-1) ∧ J 8 wr)) (fun i _ => (intOf i + 1).toNat)
  case atStart => exact Or.inl ⟨7, 0, rfl, rfl, h0⟩
  case round =>
    rcases hrel with ⟨p, k, hp, rfl, hj⟩ | ⟨rfl, hj⟩
    · have hc := hJ k wr hj p (by omega)
      obtain ⟨fn, tmps, assign, body, hy, hR⟩ := hY k wr (by omega) hj
      rw [show dx s k = #[.int .i64 (p : Int), pt s p] by unfold dx; rw [show 7 - k = p by omega]] at hy
      unfold pt at hc hy
      have hp2 : (p : Int) ≤ 7 := by omega
      have E : Hid (∀ W', J (k + 1) W' → ∀ q : Int, q = (p : Int) - 1 → (∃ p k : Nat, p + k = 7 ∧ Value.int .i64 q = .int .i64 (p : Int) ∧ J k W') ∨ (Value.int .i64 q = .int .i64 (-1) ∧ J 8 W')) := fun W' h q e => by
        by_cases c : p = 0
        · refine Or.inr ⟨by rw [e, c]; rfl, ?_⟩
          rw [show k + 1 = 8 by omega] at h
          exact h
        · exact Or.inl ⟨p - 1, k + 1, by omega, by rw [e]; congr 1; omega, h⟩
      clear hp
      gi_wp2
      refine hR.mono ?_
      rintro e W3 (⟨rfl, hJ3⟩ | ⟨rfl, hJx3⟩)
      · gi_wp2
        go_roundw
        case rel => exact E.out _ hJ3 _ (by go_num)
        case measure => simp [intOf]
      · gi_wp2
        refine bodyPost_ret (results_none rfl _ _ _) rfl ?_
        exact ⟨⟨_, rfl⟩, .inr hJx3⟩
    · gi_wp2
      go_end0
      exact ⟨⟨_, rfl⟩, .inl hj⟩
theorem abd_blk (B b : Nat) (cs : List Value) (t : TypeId) : Abd B fun W => Blk W b cs t :=
  ⟨fun W o h => h.alloc o, fun W l o o' _ ho hc h => by
    by_cases e : b = l
    · subst e
      rw [show W.heap[b]? = _ from h] at ho
      cases ho
      cases hc
    · exact (World.putObj_heap_other e).trans h⟩
theorem blk_put {W : World} {b l : Nat} {cs : List Value} {t : TypeId} (h : Blk W b cs t) {ds : List Deferred} (hk : W.heap[l]? = some (.deferred (some ds))) (o : Obj) : Blk (W.putObj l o) b cs t :=
  (abd_blk l b cs t).turn W l _ o (Nat.le_refl _) hk rfl h
end Go.Proofs.YtfipiifickdeiaaGreatDoor.Rqu
namespace Go.Proofs.YtfipiifickdeiaaGreatDoor.Rqu
open Fif
open Go.ChangeShapes Go.WideShapes Go.ChangeAt Go.RowKit
open Fm Qm

attribute [local go_sem] Oper.semAt_some
/-- Three boxes, and all that was there before. -/
structure Bx3 (w W : World) (v0 v1 v2 : Value) (t0 t1 t2 : TypeId) : Prop where
  bel : Below w.heap.size w W
  b0 : Blk W w.heap.size [v0] t0
  b1 : Blk W (w.heap.size + 1) [v1] t1
  b2 : Blk W (w.heap.size + 1 + 1) [v2] t2
theorem Bx3.set {w W : World} {v0 v1 v2 : Value} {t0 t1 t2 : TypeId} (h : Bx3 w W v0 v1 v2 t0 t1 t2) (u1 u2 : Value) : Bx3 w ((W.setCell ⟨w.heap.size + 1, 0, none⟩ u1).setCell ⟨w.heap.size + 1 + 1, 0, none⟩ u2) v0 u1 u2 t0 t1 t2 := by
  refine ⟨(h.bel.setCell (p := ⟨w.heap.size + 1, 0, none⟩) (by simp) _).setCell (p := ⟨w.heap.size + 1 + 1, 0, none⟩) (by simp; omega) _, ?_, ?_, ?_⟩
  · exact (h.b0.other (p := ⟨w.heap.size + 1, 0, none⟩) (by simp) _).other (p := ⟨w.heap.size + 1 + 1, 0, none⟩) (by simp; omega) _
  · exact (h.b1.set 0 u1).other (p := ⟨w.heap.size + 1 + 1, 0, none⟩) (by simp) _
  · exact (h.b2.other (p := ⟨w.heap.size + 1, 0, none⟩) (by simp) _).set 0 u2
theorem Bx3.new (w : World) (v0 v1 v2 : Value) (t0 t1 t2 : TypeId) : Bx3 w (((w.alloc (.cells #[v0] t0)).alloc (.cells #[v1] t1)).alloc (.cells #[v2] t2)) v0 v1 v2 t0 t1 t2 := by
  refine ⟨(((Below.refl _ w).alloc (Nat.le_refl _) _).alloc (by simp) _).alloc (by simp; omega) _, ?_, ?_, ?_⟩
  · exact ((Blk.new w [v0] t0).alloc _).alloc _
  · have := Blk.new (w.alloc (.cells #[v0] t0)) [v1] t1
    rw [World.size_alloc] at this
    exact this.alloc _
  · have := Blk.new ((w.alloc (.cells #[v0] t0)).alloc (.cells #[v1] t1)) [v2] t2
    rwa [World.size_alloc, World.size_alloc] at this
set_option maxRecDepth 100000 in
theorem idx_run (s k : Nat) (h : k < 8) (w : World) : (Instr.index 214 (.agg #[pt s 0, pt s 1, pt s 2, pt s 3, pt s 4, pt s 5, pt s 6, pt s 7]) (.int .i64 (k : Int))).run Tryz.prog w = .ok (pt s k) w := by
  obtain rfl | rfl | rfl | rfl | rfl | rfl | rfl | rfl : k = 0 ∨ k = 1 ∨ k = 2 ∨ k = 3 ∨ k = 4 ∨ k = 5 ∨ k = 6 ∨ k = 7 := by omega
  all_goals rfl
set_option maxHeartbeats 1000000 in
theorem plen_any {s m : Nat} {X : Its} (w : World) (h : PQ w s m X) :
    Calls Tryz.prog 172 #[.pointer (some ⟨s, 0, none⟩)] w fun e w' => e = .returned (.int .i64 (X.length : Int)) ∧ w' = w := by
  have c0 := h.cell 0 (by omega)
  have c1 := h.cell 1 (by omega)
  have c2 := h.cell 2 (by omega)
  have c3 := h.cell 3 (by omega)
  have c4 := h.cell 4 (by omega)
  have c5 := h.cell 5 (by omega)
  have c6 := h.cell 6 (by omega)
  have c7 := h.cell 7 (by omega)
  have HL : Hid (∀ k, k < 8 → cnt X (k + 1) ≤ 1024 ∧ cnt X k ≤ 1024) := fun k hk => by
    have := cnt_le h.ok.rg (k := k + 1) (by omega)
    have := cnt_le h.ok.rg (k := k) (by omega)
    have := h.ok.le
    have := h.m1
    omega
  have HE : Hid (cnt X 8 = X.length) := cnt_all h.ok.rg
  have C : Hid (∀ k, k < 8 → Calls Tryz.prog 96 #[pt s k] w fun e w' => e = .returned (.int .i64 ((lv X k).length : Int)) ∧ w' = w) := fun k hk => by
    obtain ⟨f, r, q⟩ := h.lv k hk
    exact len_any w q
  rw [← HE.out]
  clear h HE
  go_enter Tryz.func172, Tryz.ntmps172
  go_wp2
  go_loop [3, 12] (fun c i => ∃ k : Nat, (k : Int) ≤ 8 ∧ c = .int .i64 (cnt X k : Nat) ∧ i = .int .i64 (k : Int)) (fun _ i => 8 - (intOf i).toNat)
  case atStart => exact ⟨0, by omega, rfl, rfl⟩
  case round =>
    obtain ⟨k, hk, rfl, rfl⟩ := hrel
    by_cases c : (k : Int) < 8
    · have hC := C.out k (by omega)
      obtain ⟨b1, b2⟩ := HL.out k (by omega)
      have ec : cnt X (k + 1) = cnt X k + (lv X k).length := rfl
      obtain ⟨x, hx⟩ : ∃ x, cnt X k = x := ⟨_, rfl⟩
      obtain ⟨y, hy⟩ : ∃ y, (lv X k).length = y := ⟨_, rfl⟩
      rw [hx, hy] at ec
      rw [ec] at b1
      rw [hy] at hC
      rw [hx]
      have E : Hid (cnt X (k + 1) = x + y) := ec
      clear ec hx hy
      have gx : (x : Int) + y ≤ 1024 := by omega
      have hix := idx_run s k (by omega) w
      clear c0 c1 c2 c3 c4 c5 c6 c7 b1 b2
      go_wp2_with fail
      refine hC.mono ?_
      rintro e w' ⟨rfl, rfl⟩
      go_wp2
      go_round
      case rel => exact ⟨k + 1, by omega, by rw [E.out]; go_num, by go_num⟩
      case measure => simp [intOf]; omega
    · obtain rfl : k = 8 := by omega
      go_wp2
      go_ret
      exact ⟨rfl, rfl⟩
end Go.Proofs.YtfipiifickdeiaaGreatDoor.Rqu
namespace Go.Proofs.YtfipiifickdeiaaGreatDoor.Rqu
open Fif
open Go.ChangeShapes Go.WideShapes Go.ChangeAt Go.RowKit
open Fm Qm

attribute [local go_sem] Oper.semAt_some
/-- A list that is gathered, its header in a box at block b. -/
structure LG (w : World) (b : Nat) (W : World) (g cap : Nat) (G : List Int) : Prop where
  bel : Below w.heap.size w W
  box : Blk W b [.slice (some ⟨g, 0, none⟩) G.length cap] 22
  own : W.ownsRow w.heap.size 3 1 (.slice (some ⟨g, 0, none⟩) G.length cap) G.length (G.map (Value.int .i64))
theorem LG.blk {w : World} {b : Nat} {W : World} {g cap : Nat} {G : List Int} (h : LG w b W g cap G) : ∃ cur : Array Value, w.heap.size ≤ g ∧ W.heap[g]? = some (.cells cur 3 (0, 0)) := by
  rcases h.own.2 with ⟨e, _⟩ | ⟨g', c', cur, e, hb, hg, _⟩
  · cases e
  · simp only [Value.slice.injEq, Option.some.injEq, Addr.mk.injEq] at e
    obtain ⟨⟨rfl, _⟩, _⟩ := e
    exact ⟨cur, hb, hg⟩
theorem own_other {W W' : World} {base g n cap : Nat} {xs : List Value} (h : W.ownsRow base 3 1 (.slice (some ⟨g, 0, none⟩) n cap) n xs) (e : W'.heap[g]? = W.heap[g]?) : W'.ownsRow base 3 1 (.slice (some ⟨g, 0, none⟩) n cap) n xs := by
  refine ⟨h.1, ?_⟩
  rcases h.2 with hn | ⟨g', c', cur, hv, hb, hg, rest⟩
  · exact Or.inl hn
  · have e2 := hv
    simp only [Value.slice.injEq, Option.some.injEq, Addr.mk.injEq] at e2
    obtain ⟨⟨rfl, _⟩, _⟩ := e2
    exact Or.inr ⟨g, c', cur, hv, hb, e.trans hg, rest⟩
theorem abd_lg {w : World} {b B : Nat} {G : List Int} (hB : w.heap.size ≤ B) : Abd B fun W => ∃ g cap, LG w b W g cap G :=
  ⟨fun W o ⟨g, cap, h⟩ => ⟨g, cap, (abd_below (Nat.le_refl _) hB).new W o h.bel, h.box.alloc o, by
    obtain ⟨cur, _, hg⟩ := h.blk
    exact own_other h.own (Below.heap_alloc _ _ _ (lt_of_block hg))⟩,
   fun W l o o' a b c ⟨g, cap, h⟩ => ⟨g, cap, (abd_below (Nat.le_refl _) hB).turn W l o o' a b c h.bel, (abd_blk B _ _ _).turn W l o o' a b c h.box, by
    obtain ⟨cur, _, hg⟩ := h.blk
    refine own_other h.own (World.putObj_heap_other ?_)
    intro e
    subst e
    rw [hg] at b
    cases b
    cases c⟩⟩
/-- One more level is gathered. -/
theorem lg_app {w W w3 : World} {b g cap : Nat} {G L : List Int} (h : LG w b W g cap G) (hb : Below W.heap.size W w3) {g2 : Nat} (o2 : w3.ownsRow W.heap.size 3 1 (.slice (some ⟨g2, 0, none⟩) L.length L.length) L.length (L.map (Value.int .i64))) (hl : G.length + L.length ≤ 2000) (hwb : w.heap.size ≤ b) (ty : TypeId) :
    ∃ g' cap' w4, (Builtin.append_ #[22, 22] ty #[.slice (some ⟨g, 0, none⟩) G.length cap, .slice (some ⟨g2, 0, none⟩) L.length L.length]).run Tryz.prog w3 = .ok (.slice (some ⟨g', 0, none⟩) (G.length + L.length) cap') w4 ∧
      w4.cell? ⟨b, 0, none⟩ = some (.slice (some ⟨g, 0, none⟩) G.length cap) ∧ w4.frozen? ⟨b, 0, none⟩ = false ∧ LG w b (w4.setCell ⟨b, 0, none⟩ (.slice (some ⟨g', 0, none⟩) (G.length + L.length) cap')) g' cap' (G ++ L) ∧
      ∀ (k : Nat) (o : Obj), o.isCells = false → W.heap[k]? = some o → (w4.setCell ⟨b, 0, none⟩ (.slice (some ⟨g', 0, none⟩) (G.length + L.length) cap')).heap[k]? = some o := by
  obtain ⟨cur, hg1, hg⟩ := h.blk
  have glt := lt_of_block hg
  obtain ⟨i0, hi, hz0, hz1, hz2⟩ := info_parts Tryz.info3
  have s0 := h.bel.size
  have s3 := hb.size
  have own3 : w3.ownsRow w.heap.size 3 1 (.slice (some ⟨g, 0, none⟩) G.length cap) G.length (G.map (Value.int .i64)) := own_other h.own (hb.block g glt)
  have box3 : Blk w3 b [.slice (some ⟨g, 0, none⟩) G.length cap] 22 := h.box.keep (Fr.of_below hb) h.box.lt (by simp)
  have hc : ∀ j u, (L.map (Value.int .i64))[j]? = some u → w3.cell? ((⟨g2, 0, none⟩ : Addr).add j) = some u := fun j u hj => by
    have := o2.cellAt j (by have := (List.getElem?_eq_some_iff.1 hj).1; simpa using this)
    rw [hj] at this
    have e : (⟨g2, 0, none⟩ : Addr).add j = ⟨g2, j, none⟩ := by unfold Addr.add; split <;> simp_all
    rw [e]
    exact this
  obtain ⟨v', w4, hrun, r1, r2, r3⟩ := run_append_own (P := Tryz.prog) w3 w.heap.size 22 ty 3 i0 (.int .i64 0) 1 8 Tryz.underlying22 hi hz0 hz1 hz2 rfl (by decide) _ G.length _ own3 ⟨g2, 0, none⟩ L.length L.length (L.map (Value.int .i64)) (by simp) hc (ints_one L) (by unfold maxLen; omega) (by omega) (by omega)
  have bne : b ≠ g := by
    intro e
    subst e
    have := (show W.heap[b]? = _ from h.box).symm.trans hg
    simp at this
  rcases r1.2 with ⟨e, _⟩ | ⟨g', cap', cur', rfl, hb', hg', rest⟩
  · exact absurd (r3.1 e).1 (by simp)
  have box4 : Blk w4 b [.slice (some ⟨g, 0, none⟩) G.length cap] 22 := (r2.block b box3.lt (by simp [Value.ownBlock]; exact bne)).trans box3
  have bne' : b ≠ g' := by
    intro e
    subst e
    have := (show w4.heap[b]? = _ from box4).symm.trans hg'
    simp at this
  refine ⟨g', cap', w4, hrun, box4.cell 0, box4.free 0, ⟨?_, ?_, ?_⟩, ?_⟩
  · exact ((h.bel.trans (hb.mono s0)).grown r2 (by omega) (fun k e => by simp [Value.ownBlock] at e; omega)).setCell (p := ⟨b, 0, none⟩) hwb _
  · rw [List.length_append]
    exact box4.set 0 _
  · rw [List.length_append, List.map_append]
    exact own_other r1 (Below.heap_setCell _ _ _ _ (Ne.symm bne'))
  · intro k o ho hk
    have klt := lt_of_block hk
    have kb : k ≠ b := by
      intro e
      subst e
      rw [show W.heap[k]? = _ from h.box] at hk
      cases hk
      cases ho
    have kg : k ≠ g := by
      intro e
      subst e
      rw [hg] at hk
      cases hk
      cases ho
    rw [Below.heap_setCell _ _ _ _ kb, r2.block k (by omega) (by simp [Value.ownBlock]; exact kg), hb.block k klt]
    exact hk
/-- An append of known outcome as one step of a region that draws its order, inside a fence. -/
theorem step_append_in {F : Fence} {n : Nat} {P : Program} {ops : Array Oper} {o : Oper} {a : Act} {w w' : World} {K : Act → World → Prop} {Q : Exit → Act → World → Prop} {E : Prop} {v u v' : Value}
    (hg : o.guard = none) (s x : Operand) (t : TypeId) (hop : o.op = Op.call { callee := Callee.builtin Builtin.append, args := #[s, x], argTypes := #[t, t] }) (hs : a.eval s = v) (hx : a.eval x = u)
    (hrun : (Builtin.append_ #[t, t] o.type #[v, u]).run P w = .ok v' w') (hK : K (a.put o.dst v') w') :
    if Region.wanted o (yielded ops a.tmps) = true then Oper.wpIn F n P o a w K Q else E := by
  rw [if_pos (by simp [Region.wanted, hg])]
  unfold Oper.wpIn
  refine ⟨?_, ?_⟩
  · simp [Oper.about, hop, resolve, Target.leads, Sem.run_pure]
  · rw [Oper.semAt_plain F _ _ (by rw [hop]; intro c hc'; cases hc')]
    simp [execOp, hop, resolve, invoke, builtin, hs, hx, hrun, Result.andThen]
    exact hK
set_option maxHeartbeats 2000000 in
theorem plist_any {s m : Nat} {X : Its} (w : World) (h : PQ w s m X) :
    Calls Tryz.prog 209 #[.pointer (some ⟨s, 0, none⟩)] w fun e w' => ∃ v, e = .returned v ∧ w'.ownsRow w.heap.size 3 1 v (cat X).length ((cat X).map (Value.int .i64)) ∧ Below w.heap.size w w' := by
  have HP : Hid (PQ w s m X) := h
  have CN : Hid (∀ _ : Unit, _) := fun _ => plen_any w h
  have hl : (X.length : Int) ≤ 1024 := by have := h.ok.le; have := h.m1; omega
  obtain ⟨Z, hZ, hmk⟩ : ∃ Z : Array Value, Hid (Z.size = X.length) ∧ ∀ w : World, (Instr.makeSlice 22 (.int .i64 0) (.int .i64 (X.length : Int))).run Tryz.prog w = .ok (.slice (some ⟨w.heap.size, 0, none⟩) 0 X.length) (w.alloc (.cells Z 3)) := by
    obtain ⟨i0, hi, hz0, hz1, hz2⟩ := info_parts Tryz.info3
    refine ⟨madeCells (Value.int .i64 0).cells (X.length * i0.size), by rw [size_madeCells, hz1, Nat.mul_one]; exact rfl, fun w => ?_⟩
    have := run_make (P := Tryz.prog) w 22 3 i0 (.int .i64 0) Tryz.underlying22 hi hz0 .i64 .i64 0 X.length (Int.le_refl _) (by omega) (by rw [hz2]; omega) (by omega)
    simpa using this
  have hmx : Tryz.prog.follows .mixedOrders = true := by kernel_rfl
  generalize hn : X.length = N at *
  have HN : Hid (X.length = N) := hn
  clear h hn
  refine (callsIn_wide (n := 4)).1 ?_
  refine callsIn_of_wp_marks Tryz.func209 rfl trivial ?_ rfl
  simp only [Tryz.ntmps209, List.size_toArray, List.length_cons, List.length_nil, Nat.reduceAdd, Nat.reduceSub, Array.replicate_succ, Array.replicate_zero, List.push_toArray, List.append_toArray, List.nil_append, List.cons_append]
  gi_wp2_with fail
  refine ⟨trivial, (callsIn_wide.2 (CN.out ())).mono ?_⟩
  rintro e w' ⟨rfl, rfl⟩
  gi_wp2
  obtain ⟨w, rfl⟩ : ∃ w, w = w' := ⟨_, rfl⟩
  have G0 : ∃ g cap, LG w (w.heap.size + 1) ((w.alloc (.cells Z 3)).alloc (.cells #[.slice (some ⟨w.heap.size, 0, none⟩) 0 N] 22)) g cap (gth X 0) := by
    refine ⟨w.heap.size, N, ((Below.refl _ w).alloc (Nat.le_refl _) _).alloc (by simp) _, ?_, ?_⟩
    · have := Blk.new (w.alloc (.cells Z 3)) [.slice (some ⟨w.heap.size, 0, none⟩) 0 N] 22
      rwa [World.size_alloc] at this
    · refine ⟨rfl, Or.inr ⟨w.heap.size, N, Z, rfl, Nat.le_refl _, ?_, Nat.zero_le _, by unfold maxLen; omega, by rw [hZ.out, Nat.mul_one], by simp [gth]⟩⟩
      exact (Below.heap_alloc _ _ _ (by simp)).trans (World.alloc_heap_new w _)
  refine range_bound (gf := 261) (fs := #[.pointer (some ⟨s, 0, none⟩)]) rfl (enters_of Tryz.func261 (by kernel_rfl) rfl) 8 (dx s) (fun _ => rfl)
    (fun k W => ∃ g cap, LG w (w.heap.size + 1) W g cap (gth X k)) (fun _ => False) (fun _ => abd_lg (by simp; omega)) (Abd.pure _ _) G0
    (fun k => { tmps := #[.pointer (some ⟨s, 0, none⟩), undef, .slice none 0 0, .pointer (some ⟨w.heap.size + 1, 0, none⟩), undef, pt s (7 - k), .pointer (some ⟨s, 0, none⟩), .bool false, .pointer (some ⟨s, 0, none⟩), .int .i64 (N : Int), .slice (some ⟨w.heap.size, 0, none⟩) 0 N, .pointer (some ⟨s, 0, none⟩), .func (.func 261) #[.pointer (some ⟨s, 0, none⟩)] #[], .int .i64 ((7 - k : Nat) : Int), pt s (7 - k), undef, undef, undef, undef, undef], defers := [] })
    (fun l J Jx W hJ h0 hY => down_it l J Jx W (fun k W hj j hj8 => by obtain ⟨g, cap, q⟩ := hJ k W hj; exact (HP.out.below q.bel).cell j hj8) h0 hY) ?assign ?body ?done ?stop
  case assign =>
    intro l k W K hk hK
    unfold dx
    gi_wp2
    exact hK
  case body =>
    intro l k W hk hsz hI
    obtain ⟨g, cap, hI⟩ := hI
    obtain ⟨f, r, q⟩ := (HP.out.below hI.bel).lv (7 - k) (by omega)
    have hle : (gth X k).length + (lv X (7 - k)).length ≤ 2000 := by
      have := gth_le HP.out.ok.rg (k := k + 1) (by omega)
      have := HN.out
      rw [show gth X (k + 1) = gth X k ++ lv X (7 - k) from rfl, List.length_append] at *
      omega
    have C : Hid (∀ _ : Unit, _) := fun _ => list_at W.drew (q.heap (w1 := W.drew) rfl)
    have AP : Hid (∀ (w3 : World) (g2 : Nat), Below W.heap.size W.drew w3 → w3.ownsRow W.heap.size 3 1 (.slice (some ⟨g2, 0, none⟩) (lv X (7 - k)).length (lv X (7 - k)).length) (lv X (7 - k)).length ((lv X (7 - k)).map (Value.int .i64)) → _) := fun w3 g2 hb o2 => lg_app hI (w3 := w3) ⟨hb.os, hb.tape, hb.output, hb.size, hb.block⟩ o2 hle (by omega) 22
    have c0 := hI.box.cell 0
    rw [World.size_alloc, World.size_alloc] at hsz ⊢
    have HW : Hid (w.heap.size + 1 + 1 + 1 < W.heap.size) := hsz.lt
    have HT : Hid (Tws (w.heap.size + 1 + 1) W) := hsz
    unfold pt
    rw [show gth X (k + 1) = gth X k ++ lv X (7 - k) from rfl]
    clear q hI hle hsz G0
    obtain ⟨G, hG⟩ : ∃ G, gth X k = G := ⟨_, rfl⟩
    obtain ⟨L, hL⟩ : ∃ L, lv X (7 - k) = L := ⟨_, rfl⟩
    rw [hG, hL] at AP
    rw [hL] at C
    rw [hG] at c0
    rw [hG, hL]
    clear hG hL
    generalize G.length = gl at *
    generalize L.length = ll at *
    gi_wp2
    refine wpIn_region_any (by assumption) ?_
    try (change wpAnyIn _ _ _ _ _ _ _ _ _ (World.drew _))
    refine wpAnyIn_ready (rs := [0, 1]) (by kernel_rfl) (by simp) (AllReadyIn.cons rfl (fun K hK => ?_) (AllReadyIn.cons rfl (fun K hK => ?_) AllReadyIn.nil))
    · go_simp
      refine hK _ _ ?_
      clear hK K
      refine wpAnyIn_ready (rs := [1]) (by kernel_rfl) (by simp) (AllReadyIn.cons rfl (fun K hK => ?_) AllReadyIn.nil)
      go_simp
      refine hK _ _ ?_
      clear hK K
      refine wpAnyIn_ready (rs := [2]) (by kernel_rfl) (by simp) (AllReadyIn.cons rfl (fun K hK => ?_) AllReadyIn.nil)
      go_simp
      refine ⟨trivial, ?_⟩
      refine (CallsIn.inRound l (callsIn_wide.2 (C.out ()))).mono ?_
      rintro e w3 ⟨v, g2, rfl, rfl, o3, b3⟩
      obtain ⟨g', cap', w4, hrun, hc4, hf4, L4, T4⟩ := AP.out w3 g2 b3 o3
      have c03 := (b3.cell (p := ⟨w.heap.size + 1, 0, none⟩) (by have := HW.out; show w.heap.size + 1 < W.heap.size; omega)).trans c0
      refine hK _ _ ?_
      clear hK K
      refine wpAnyIn_ready (rs := [3]) (by kernel_rfl) (by simp) (AllReadyIn.cons rfl (fun K hK => ?_) AllReadyIn.nil)
      refine step_append_in rfl (.tmp 15) (.tmp 17) 22 rfl (by simp [Act.eval]) (by simp [Act.eval]) hrun ?_
      refine hK _ _ ?_
      clear hK K
      refine wpAnyIn_ready (rs := [4]) (by kernel_rfl) (by simp) (AllReadyIn.cons rfl (fun K hK => ?_) AllReadyIn.nil)
      go_simp
      refine hK _ _ ?_
      clear hK K
      refine wpAnyIn_done (by kernel_rfl) ?_ _
      gi_wp2
      exact ⟨HT.out.keep T4, _, _, L4⟩
    · go_simp
      refine hK _ _ ?_
      clear hK K
      refine wpAnyIn_ready (rs := [0, 2]) (by kernel_rfl) (by simp) (AllReadyIn.cons rfl (fun K hK => ?_) (AllReadyIn.cons rfl (fun K hK => ?_) AllReadyIn.nil))
      · go_simp
        refine hK _ _ ?_
        clear hK K
        refine wpAnyIn_ready (rs := [2]) (by kernel_rfl) (by simp) (AllReadyIn.cons rfl (fun K hK => ?_) AllReadyIn.nil)
        go_simp
        refine ⟨trivial, ?_⟩
        refine (CallsIn.inRound l (callsIn_wide.2 (C.out ()))).mono ?_
        rintro e w3 ⟨v, g2, rfl, rfl, o3, b3⟩
        obtain ⟨g', cap', w4, hrun, hc4, hf4, L4, T4⟩ := AP.out w3 g2 b3 o3
        have c03 := (b3.cell (p := ⟨w.heap.size + 1, 0, none⟩) (by have := HW.out; show w.heap.size + 1 < W.heap.size; omega)).trans c0
        refine hK _ _ ?_
        clear hK K
        refine wpAnyIn_ready (rs := [3]) (by kernel_rfl) (by simp) (AllReadyIn.cons rfl (fun K hK => ?_) AllReadyIn.nil)
        refine step_append_in rfl (.tmp 15) (.tmp 17) 22 rfl (by simp [Act.eval]) (by simp [Act.eval]) hrun ?_
        refine hK _ _ ?_
        clear hK K
        refine wpAnyIn_ready (rs := [4]) (by kernel_rfl) (by simp) (AllReadyIn.cons rfl (fun K hK => ?_) AllReadyIn.nil)
        go_simp
        refine hK _ _ ?_
        clear hK K
        refine wpAnyIn_done (by kernel_rfl) ?_ _
        gi_wp2
        exact ⟨HT.out.keep T4, _, _, L4⟩
      · go_simp
        refine ⟨trivial, ?_⟩
        refine (CallsIn.inRound l (callsIn_wide.2 (C.out ()))).mono ?_
        rintro e w3 ⟨v, g2, rfl, rfl, o3, b3⟩
        obtain ⟨g', cap', w4, hrun, hc4, hf4, L4, T4⟩ := AP.out w3 g2 b3 o3
        have c03 := (b3.cell (p := ⟨w.heap.size + 1, 0, none⟩) (by have := HW.out; show w.heap.size + 1 < W.heap.size; omega)).trans c0
        refine hK _ _ ?_
        clear hK K
        refine wpAnyIn_ready (rs := [0]) (by kernel_rfl) (by simp) (AllReadyIn.cons rfl (fun K hK => ?_) AllReadyIn.nil)
        go_simp
        refine hK _ _ ?_
        clear hK K
        refine wpAnyIn_ready (rs := [3]) (by kernel_rfl) (by simp) (AllReadyIn.cons rfl (fun K hK => ?_) AllReadyIn.nil)
        refine step_append_in rfl (.tmp 15) (.tmp 17) 22 rfl (by simp [Act.eval]) (by simp [Act.eval]) hrun ?_
        refine hK _ _ ?_
        clear hK K
        refine wpAnyIn_ready (rs := [4]) (by kernel_rfl) (by simp) (AllReadyIn.cons rfl (fun K hK => ?_) AllReadyIn.nil)
        go_simp
        refine hK _ _ ?_
        clear hK K
        refine wpAnyIn_done (by kernel_rfl) ?_ _
        gi_wp2
        exact ⟨HT.out.keep T4, _, _, L4⟩
  case done =>
    rintro W ⟨g, cap, hI⟩ hK
    rw [World.size_alloc, World.size_alloc] at hK ⊢
    have c0 := hI.box.cell 0
    obtain ⟨g5, cap5, L5⟩ : ∃ g5 cap5, LG w (w.heap.size + 1) (W.putObj (w.heap.size + 1 + 1) (.deferred none)) g5 cap5 (gth X 8) := (abd_lg (B := w.heap.size + 1 + 1) (by omega)).turn W _ _ _ (Nat.le_refl _) hK rfl ⟨g, cap, hI⟩
    have E5 : g5 = g ∧ cap5 = cap := by
      have a := L5.box.cell 0
      have b := (blk_put hI.box hK (.deferred none)).cell 0
      rw [a] at b
      simp at b
      exact b
    obtain ⟨rfl, rfl⟩ := E5
    have O5 := L5.own
    have B5 := L5.bel
    rw [show gth X 8 = cat X from rfl] at O5 c0
    clear hI L5 G0
    gi_wp2
    refine ⟨by simp, .inl ⟨_, _, rfl, run_takeDeferred hK, ?_⟩⟩
    exact ⟨_, results_tmp rfl _ _ _, .slice (some ⟨g5, 0, none⟩) (cat X).length cap5, rfl, O5, B5⟩
  case stop =>
    intro W h _
    exact h.elim
end Go.Proofs.YtfipiifickdeiaaGreatDoor.Rqu
namespace Go.Proofs.YtfipiifickdeiaaGreatDoor.Rqu
open Fif
open Go.ChangeShapes Go.WideShapes Go.ChangeAt Go.RowKit
open Fm Qm
theorem PQ.heap {w w1 : World} {s m : Nat} {X : Its} (h : PQ w s m X) (e : w1.heap = w.heap) : PQ w1 s m X :=
  ⟨h.sb.heap e, fun k hk => by obtain ⟨f, r, q⟩ := h.lv k hk; exact ⟨f, r, q.heap e⟩, h.ok⟩
/-- One level has turned. -/
theorem PQ.put {w w' : World} {s m p : Nat} {X X' : Its} (h : PQ w s m X) (hp : p < 8) {f : Nat} {r L : List Int} (q : Q w' (s + 2 + 2 * p) (s + 1 + 2 * p) m f r L) (fr : Fr w.heap.size [s + 2 + 2 * p, s + 1 + 2 * p] w w') (ok : Ok m X') (e : ∀ j, Qm.lv X' j = if j = p then L else Qm.lv X j) : PQ w' s m X' := by
  have hi := h.hi
  refine ⟨h.sb.keep fr (by omega) (by simp; omega), fun k hk => ?_, ok⟩
  rw [e k]
  by_cases c : k = p
  · subst c
    rw [if_pos rfl]
    exact ⟨f, r, q⟩
  · rw [if_neg c]
    obtain ⟨f2, r2, q2⟩ := h.lv k hk
    exact ⟨f2, r2, q2.keep fr ⟨by omega, by omega⟩ ⟨by simp; omega, by simp; omega⟩⟩
end Go.Proofs.YtfipiifickdeiaaGreatDoor.Rqu
namespace Go.Proofs.YtfipiifickdeiaaGreatDoor.Rqu
open Fif
open Go.ChangeShapes Go.WideShapes Go.ChangeAt Go.RowKit
open Fm Qm
/-- The struct while its levels are made: the first k are there. -/
def pn (s k j : Nat) : Value := if j < k then pt s j else .pointer none
def pns (s k : Nat) : List Value := [pn s k 0, pn s k 1, pn s k 2, pn s k 3, pn s k 4, pn s k 5, pn s k 6, pn s k 7]
theorem pns_set (s k : Nat) (h : k < 8) : (pns s k).set k (pt s k) = pns s (k + 1) := by
  obtain rfl | rfl | rfl | rfl | rfl | rfl | rfl | rfl : k = 0 ∨ k = 1 ∨ k = 2 ∨ k = 3 ∨ k = 4 ∨ k = 5 ∨ k = 6 ∨ k = 7 := by omega
  all_goals rfl
theorem pns_get (s k : Nat) (h : k < 8) : (pns s k)[k]? = some (.pointer none) := by
  obtain rfl | rfl | rfl | rfl | rfl | rfl | rfl | rfl : k = 0 ∨ k = 1 ∨ k = 2 ∨ k = 3 ∨ k = 4 ∨ k = 5 ∨ k = 6 ∨ k = 7 := by omega
  all_goals rfl
structure PN (w wr : World) (m k : Nat) : Prop where
  bel : Below w.heap.size w wr
  size : wr.heap.size = w.heap.size + 1 + 2 * k
  sb : Blk wr w.heap.size (pns w.heap.size k) 216
  lv : ∀ j, j < k → Q wr (w.heap.size + 2 + 2 * j) (w.heap.size + 1 + 2 * j) m 0 (List.replicate m 0) []
theorem pn_step {w wr w1 : World} {m k : Nat} (h : PN w wr m k) (hk : k < 8) (q : Q w1 (wr.heap.size + 1) wr.heap.size m 0 (List.replicate m 0) []) (f : Fr wr.heap.size [] wr w1) (hs : w1.heap.size = wr.heap.size + 2) :
    PN w (w1.setCell ⟨w.heap.size, k, none⟩ (pt w.heap.size k)) m (k + 1) := by
  have hz := h.size
  have ne : ∀ b, w.heap.size < b → b ≠ (⟨w.heap.size, k, none⟩ : Addr).block := fun b hb => by simp; omega
  refine ⟨(h.bel.trans ((f.below (by simp)).mono (by omega))).setCell (p := ⟨w.heap.size, k, none⟩) (Nat.le_refl _) _, by simp [World.setCell]; omega, ?_, fun j hj => ?_⟩
  · rw [← pns_set _ _ hk]
    exact (h.sb.keep f (by omega) (by simp)).set k _
  · by_cases c : j = k
    · subst c
      rw [show wr.heap.size + 1 = w.heap.size + 2 + 2 * j by omega, show wr.heap.size = w.heap.size + 1 + 2 * j by omega] at q
      exact ⟨q.sb.other (ne _ (by omega)) _, q.sg.other (ne _ (by omega)) _, q.rg⟩
    · have q2 := (h.lv j (by omega)).keep f ⟨by omega, by omega⟩ ⟨by simp, by simp⟩
      exact ⟨q2.sb.other (ne _ (by omega)) _, q2.sg.other (ne _ (by omega)) _, q2.rg⟩
theorem pn_end {w wr : World} {m : Nat} (h : PN w wr m 8) : PQ wr w.heap.size m [] :=
  ⟨h.sb, fun k hk => ⟨_, _, h.lv k hk⟩, ok_nil m⟩
set_option maxHeartbeats 1000000 in
theorem pnew_any (m : Nat) (w : World) (h1 : (1 : Int) ≤ m) (h2 : (m : Int) ≤ 1024) :
    Calls Tryz.prog 48 #[.int .i64 (m : Int)] w fun e w' => e = .returned (.tuple #[.pointer (some ⟨w.heap.size, 0, none⟩), .int .i64 0]) ∧ PQ w' w.heap.size m [] ∧ Below w.heap.size w w' ∧ w'.heap.size = w.heap.size + 17 := by
  have C : Hid (∀ w, _) := fun w => new_at m w h1 h2
  go_enter Tryz.func48, Tryz.ntmps48
  go_wp2
  have P0 : PN w (w.alloc (.cells (pns w.heap.size 0).toArray 216)) m 0 := ⟨(Below.refl _ w).alloc (Nat.le_refl _) _, by simp, Blk.new w _ _, fun j hj => by omega⟩
  go_loopw [10] (fun i wr => ∃ k : Nat, (k : Int) ≤ 8 ∧ i = .int .i64 (k : Int) ∧ PN w wr m k) (fun i _ => 8 - (intOf i).toNat)
  case atStart => exact ⟨0, by omega, rfl, P0⟩
  case round =>
    obtain ⟨k, hk, rfl, P⟩ := hrel
    by_cases c : (k : Int) < 8
    · have C1 : Hid (∀ _ : Unit, _) := fun _ => C.out wr
      have ST : Hid (∀ w1 : World, _ → _ → _ → _) := fun w1 q f hs => pn_step (w1 := w1) P (by omega) q f hs
      have cb : Hid (∀ w1 : World, Fr wr.heap.size [] wr w1 → w1.cell? ⟨w.heap.size, k, none⟩ = some (.pointer none) ∧ w1.frozen? ⟨w.heap.size, k, none⟩ = false) := fun w1 f => by
        have b := P.sb.keep f P.sb.lt (by simp)
        exact ⟨by rw [b.cell, pns_get _ _ (by omega)], b.free k⟩
      have hz : wr.heap.size + 1 = w.heap.size + 2 + 2 * k := by have := P.size; omega
      unfold pt at ST
      clear P P0
      go_wp2_with fail
      refine (C1.out ()).mono ?_
      rintro e w1 ⟨rfl, q, f, hs⟩
      obtain ⟨c1, f1⟩ := cb.out w1 f
      have N2 := ST.out w1 q f hs
      rw [hz]
      clear q f hs
      go_wp2
      go_roundw
      case rel => exact ⟨k + 1, by omega, by go_num, N2⟩
      case measure => simp [intOf]; omega
    · obtain rfl : k = 8 := by omega
      have e := pn_end P
      have hb := P.bel
      have hs := P.size
      clear P P0
      go_wp2
      go_ret2
      exact ⟨rfl, e, hb, by omega⟩
end Go.Proofs.YtfipiifickdeiaaGreatDoor.Rqu
namespace Go.Proofs.YtfipiifickdeiaaGreatDoor.Rqu
open Fif
open Go.ChangeShapes Go.WideShapes Go.ChangeAt Go.RowKit
open Fm Qm
end Go.Proofs.YtfipiifickdeiaaGreatDoor.Rqu
namespace Go.Proofs.YtfipiifickdeiaaGreatDoor.Rqu
open Fif
open Fm Qm
end Go.Proofs.YtfipiifickdeiaaGreatDoor.Rqu
namespace Go.Proofs.YtfipiifickdeiaaGreatDoor.Rqu
open Fif
open Fm Qm
abbrev Ks := Nat → Its
def up (K : Ks) (c : Nat) (X : Its) : Ks := fun j => if j = c then X else K j
theorem up_same (K : Ks) (c : Nat) (X : Its) : up K c X c = X := if_pos rfl
theorem up_other {K : Ks} {c j : Nat} (X : Its) (h : j ≠ c) : up K c X j = K j := if_neg h
/-- The core that a thing is on. -/
def onc (n : Nat) (K : Ks) (id : Int) : Option Nat := (List.range n).find? fun c => decide (id ∈ ids (K c))
/-- Each queue is as it must be, and each thing on one core. -/
structure Al (n : Nat) (K : Ks) : Prop where
  ok : ∀ c, c < n → Ok 32 (K c)
  one : ∀ c d, c < n → d < n → ∀ id, id ∈ ids (K c) → id ∈ ids (K d) → c = d
  wf : ∀ c, c < n → ∀ id ∈ ids (K c), (Lit.int .i64 id).wf = true
theorem onc_none {n : Nat} {K : Ks} {id : Int} : onc n K id = none ↔ ∀ c, c < n → id ∉ ids (K c) := by
  unfold onc
  rw [List.find?_eq_none]
  simp
def whB (n : Nat) (K : Ks) (id : Int) : Bool := (onc n K id).isSome
/-- Is there such a core? -/
def isC (n : Nat) (c : Int) : Prop := 0 ≤ c ∧ c < n
instance (n : Nat) (c : Int) : Decidable (isC n c) := by unfold isC; exact inferInstance
end Go.Proofs.YtfipiifickdeiaaGreatDoor.Rqu
namespace Go.Proofs.YtfipiifickdeiaaGreatDoor.Rqu
open Fif
open Go.ChangeShapes Go.WideShapes Go.ChangeAt Go.RowKit
open Fm Qm
/-- The map at block b, of at most n entries, says of each thing which core it is on. -/
def MP (w : World) (b n : Nat) (f : Int → Option Nat) : Prop :=
  ∃ D : DataW Unit, w.ownsMap Tryz.prog 3 (plainElem Tryz.prog 3) b n D ∧ ∀ id, (Lit.int .i64 id).wf = true → Maps.has D (.int .i64 id) = (f id).isSome ∧ D.atKey (.int .i64 id) (.lit (.int .i64 0)) = .lit (.int .i64 (((f id).map fun c : Nat => (c : Int)).getD 0))
theorem MP.lt {w : World} {b n : Nat} {f : Int → Option Nat} (h : MP w b n f) : b < w.heap.size := by obtain ⟨D, o, _⟩ := h; exact o.lt
theorem MP.same {w w' : World} {b n : Nat} {f : Int → Option Nat} (h : MP w b n f) (e : w'.heap[b]? = w.heap[b]?) : MP w' b n f := by
  obtain ⟨D, ⟨es, clock, hb, rest⟩, k⟩ := h
  exact ⟨D, ⟨es, clock, e.trans hb, rest⟩, k⟩
theorem MP.keep {B : Nat} {S : List Nat} {w w' : World} {b n : Nat} {f : Int → Option Nat} (h : MP w b n f) (k : Fr B S w w') (hb : b < B) (hs : b ∉ S) : MP w' b n f := h.same (k.block b hb hs)
theorem MP.blk {w : World} {b n : Nat} {f : Int → Option Nat} (h : MP w b n f) {g : Nat} {cs : List Value} {t : TypeId} (k : Blk w g cs t) : b ≠ g := by
  intro e
  subst e
  obtain ⟨D, ⟨es, clock, hb, _⟩, _⟩ := h
  have := (show w.heap[b]? = _ from k).symm.trans hb
  cases this
/-- Where core c's queue lies; the pointers to all. -/
def qa (s c : Nat) : Nat := s + 3 + 17 * c
def qp (s c : Nat) : Value := .pointer (some ⟨s + 3 + 17 * c, 0, none⟩)
def rz (s n : Nat) : List Nat := List.range' s (3 + 17 * n)
theorem mem_rz (s n k : Nat) : k ∈ rz s n ↔ s ≤ k ∧ k < s + (3 + 17 * n) := by unfold rz; rw [List.mem_range'_1]
/-- The queues of n cores, the table of them at block s, the struct at s + 2. -/
structure RB (w : World) (s n : Nat) (K : Ks) : Prop where
  st : Blk w (s + 2) [.slice (some ⟨s, 0, none⟩) n n, .map (some (s + 1))] 127
  tb : Blk w s ((List.range n).map (qp s)) 128
  qs : ∀ c, c < n → PQ w (qa s c) 32 (K c)
  n1 : 1 ≤ n
  n2 : n ≤ 64
structure RR (w : World) (s n m : Nat) (K : Ks) : Prop where
  rb : RB w s n K
  mp : MP w (s + 1) m (onc n K)
  al : Al n K
theorem RB.hi {w : World} {s n : Nat} {K : Ks} (h : RB w s n K) : s + (3 + 17 * n) ≤ w.heap.size := by
  have := (h.qs (n - 1) (by have := h.n1; omega)).hi
  have := h.n1
  unfold qa at *
  omega
theorem RB.c0 {w : World} {s n : Nat} {K : Ks} (h : RB w s n K) : w.cell? ⟨s + 2, 0, none⟩ = some (.slice (some ⟨s, 0, none⟩) n n) := h.st.cell 0
theorem RB.c1 {w : World} {s n : Nat} {K : Ks} (h : RB w s n K) : w.cell? ⟨s + 2, 1, none⟩ = some (.map (some (s + 1))) := h.st.cell 1
theorem RB.cq {w : World} {s n : Nat} {K : Ks} (h : RB w s n K) {c : Nat} (hc : c < n) : w.cell? ⟨s, c, none⟩ = some (.pointer (some ⟨qa s c, 0, none⟩)) := by
  rw [h.tb.cell c, List.getElem?_map, List.getElem?_range hc]
  rfl
theorem RB.keep {B : Nat} {S : List Nat} {w w' : World} {s n : Nat} {K : Ks} (h : RB w s n K) (f : Fr B S w w') (hB : s + (3 + 17 * n) ≤ B) (hS : ∀ k, s ≤ k → k < s + (3 + 17 * n) → k ≠ s + 1 → k ∉ S) : RB w' s n K := by
  have := h.n1
  refine ⟨h.st.keep f (by omega) (hS _ (by omega) (by omega) (by omega)), h.tb.keep f (by omega) (hS _ (by omega) (by omega) (by omega)), fun c hc => ?_, h.n1, h.n2⟩
  exact (h.qs c hc).keep f (by unfold qa; omega) fun k h1 h2 => hS k (by unfold qa at h1; omega) (by unfold qa at h2; omega) (by unfold qa at h1; omega)
/-- One core's queue has turned. -/
theorem RB.put {w w' : World} {s n c : Nat} {K : Ks} {X : Its} (h : RB w s n K) (hc : c < n) (q : PQ w' (qa s c) 32 X) (f : Fr w.heap.size (zn (qa s c)) w w') : RB w' s n (up K c X) := by
  have hi := h.hi
  have nz : ∀ k, k < qa s c ∨ qa s c + 17 ≤ k → k ∉ zn (qa s c) := fun k hk e => by have := (mem_zn _ _).1 e; omega
  refine ⟨h.st.keep f (by have := h.st.lt; omega) (nz _ (by unfold qa; omega)), h.tb.keep f (by have := h.tb.lt; omega) (nz _ (by unfold qa; omega)), fun d hd => ?_, h.n1, h.n2⟩
  by_cases e : d = c
  · subst e
    rw [up_same]
    exact q
  · rw [up_other _ e]
    exact (h.qs d hd).keep f (h.qs d hd).hi fun k h1 h2 => nz k (by unfold qa at *; omega)
theorem RR.below {w w' : World} {s n m : Nat} {K : Ks} (h : RR w s n m K) (f : Below w.heap.size w w') : RR w' s n m K :=
  ⟨h.rb.keep (Fr.of_below f) h.rb.hi (fun _ _ _ _ => by simp), h.mp.keep (Fr.of_below f) h.mp.lt (by simp), h.al⟩
theorem RR.heap {w w1 : World} {s n m : Nat} {K : Ks} (h : RR w s n m K) (e : w1.heap = w.heap) : RR w1 s n m K :=
  ⟨⟨h.rb.st.heap e, h.rb.tb.heap e, fun c hc => (h.rb.qs c hc).heap e, h.rb.n1, h.rb.n2⟩, h.mp.same (by rw [e]), h.al⟩
theorem isc_yes {w : World} {s n : Nat} {K : Ks} (c : Nat) (hc : (c : Int) < n) (h : RB w s n K) :
    Calls Tryz.prog 171 #[.pointer (some ⟨s + 2, 0, none⟩), .int .i64 (c : Int)] w fun e w' => e = .returned (.bool true) ∧ w' = w := by
  have c0 := h.c0
  clear h
  go_enter Tryz.func171, Tryz.ntmps171
  go_wp2
  go_ret
  exact ⟨rfl, rfl⟩
theorem isc_no {w : World} {s n : Nat} {K : Ks} (c : Int) (hc : ¬ isC n c) (h : RB w s n K) :
    Calls Tryz.prog 171 #[.pointer (some ⟨s + 2, 0, none⟩), .int .i64 c] w fun e w' => e = .returned (.bool false) ∧ w' = w := by
  have c0 := h.c0
  clear h
  unfold isC at hc
  by_cases c1 : c < 0
  · clear hc
    go_enter Tryz.func171, Tryz.ntmps171
    go_wp2
    go_ret
    exact ⟨rfl, rfl⟩
  · have c2 : (n : Int) ≤ c := by omega
    have c3 : decide (c < (n : Int)) = false := decide_eq_false (by omega)
    clear hc
    go_enter Tryz.func171, Tryz.ntmps171
    go_wp2
    go_ret
    exact ⟨rfl, rfl⟩
/-- How many things a core has. -/
def loN (n : Nat) (K : Ks) (c : Int) : Int := if isC n c then ((K c.toNat).length : Int) else 0
/-- Its things, in order. -/
def liL (n : Nat) (K : Ks) (c : Int) : List Int := if isC n c then cat (K c.toNat) else []
set_option maxRecDepth 100000 in
set_option maxHeartbeats 1000000 in
theorem load_any {w : World} {s n m : Nat} {K : Ks} (c : Int) (h : RR w s n m K) :
    Calls Tryz.prog 108 #[.pointer (some ⟨s + 2, 0, none⟩), .int .i64 c] w fun e w' => e = .returned (.int .i64 (loN n K c)) ∧ w' = w := by
  by_cases hc : isC n c
  · rw [show loN n K c = ((K c.toNat).length : Int) from if_pos hc]
    obtain ⟨k, rfl⟩ : ∃ k : Nat, c = (k : Int) := ⟨c.toNat, by unfold isC at hc; omega⟩
    have hk : (k : Int) < n := hc.2
    rw [Int.toNat_natCast]
    have C : Hid (∀ _ : Unit, _) := fun _ => isc_yes k hk h.rb
    have D : Hid (∀ _ : Unit, _) := fun _ => plen_any w (h.rb.qs k (by omega))
    have c0 := h.rb.c0
    have cq := h.rb.cq (c := k) (by omega)
    generalize (K k).length = l at *
    clear h hc
    go_enter Tryz.func108, Tryz.ntmps108
    go_wp2_with fail
    refine (C.out ()).mono ?_
    rintro e w' ⟨rfl, rfl⟩
    go_wp2_with fail
    refine (D.out ()).mono ?_
    rintro e w' ⟨rfl, rfl⟩
    go_wp2
    go_ret
    exact ⟨rfl, rfl⟩
  · rw [show loN n K c = 0 from if_neg hc]
    have C : Hid (∀ _ : Unit, _) := fun _ => isc_no c hc h.rb
    clear h hc
    go_enter Tryz.func108, Tryz.ntmps108
    go_wp2_with fail
    refine (C.out ()).mono ?_
    rintro e w' ⟨rfl, rfl⟩
    go_wp2
    go_ret
    exact ⟨rfl, rfl⟩
end Go.Proofs.YtfipiifickdeiaaGreatDoor.Rqu
namespace Go.Proofs.YtfipiifickdeiaaGreatDoor.Rqu
open Fif
open Go.ChangeShapes Go.WideShapes Go.ChangeAt Go.RowKit
open Fm Qm
/-- What Put answers and leaves. -/
def puE (n : Nat) (K : Ks) (c p id : Int) : Int := if isC n c then (if whB n K id = true then 6 else psE 32 (K c.toNat) p id) else 3
def puK (n : Nat) (K : Ks) (c p id : Int) : Ks := if isC n c then (if whB n K id = true then K else up K c.toNat (psX 32 (K c.toNat) p id)) else K
/-- What Pick answers and leaves. -/
def pkN (n : Nat) (K : Ks) (c : Int) : Int := if isC n c then tpN (K c.toNat) else 0
def pkK (n : Nat) (K : Ks) (c : Int) : Ks := if isC n c then up K c.toNat (tnX (K c.toNat)) else K
end Go.Proofs.YtfipiifickdeiaaGreatDoor.Rqu
namespace Go.Proofs.YtfipiifickdeiaaGreatDoor.Rqu
open Fif
open Go.ChangeShapes Go.WideShapes Go.ChangeAt Go.RowKit
open Fm Qm
end Go.Proofs.YtfipiifickdeiaaGreatDoor.Rqu
namespace Go.Proofs.YtfipiifickdeiaaGreatDoor.Rqu
open Fif
open Go.ChangeShapes Go.WideShapes Go.ChangeAt Go.RowKit
open Fm Qm
theorem Tryz.infoPQ : (Tryz.prog.info? 128).map (fun i => (i.zero, i.size, i.bytes)) = some (some (.pointer none), 1, 8) := by kernel_rfl
/-- The table while queues are made: the first k are there. -/
def tbl (s n k : Nat) : List Value := (List.range n).map fun c => if c < k then qp s c else .pointer none
theorem tbl_get (s n k c : Nat) (h : c < n) : (tbl s n k)[c]? = some (if c < k then qp s c else .pointer none) := by
  unfold tbl
  rw [List.getElem?_map, List.getElem?_range h]
  rfl
theorem tbl_set (s n k : Nat) (_ : k < n) : (tbl s n k).set k (qp s k) = tbl s n (k + 1) := by
  apply List.ext_getElem?
  intro c
  by_cases hc : c < n
  · rw [tbl_get _ _ _ _ hc, List.getElem?_set]
    by_cases e : k = c
    · subst e
      rw [if_pos rfl, if_pos (by simpa [tbl] using hc), if_pos (by omega)]
    · rw [if_neg e, tbl_get _ _ _ _ hc]
      by_cases q : c < k
      · rw [if_pos q, if_pos (by omega)]
      · rw [if_neg q, if_neg (by omega)]
  · rw [List.getElem?_eq_none (by simp [tbl]; omega), List.getElem?_eq_none (by simp [tbl]; omega)]
theorem tbl_all (s n : Nat) : tbl s n n = (List.range n).map (qp s) := by
  unfold tbl
  apply List.map_congr_left
  intro c hc
  rw [if_pos (List.mem_range.1 hc)]
theorem made_ptr (s n : Nat) : madeCells #[Value.pointer none] n = (tbl s n 0).toArray := by
  apply Array.ext
  · simp [size_madeCells, tbl]
  · intro i h1 h2
    simp [madeCells, tbl, Nat.mod_one]
structure RN (w wr : World) (n k : Nat) : Prop where
  bel : Below w.heap.size w wr
  size : wr.heap.size = w.heap.size + 3 + 17 * k
  st : Blk wr (w.heap.size + 2) [.slice (some ⟨w.heap.size, 0, none⟩) n n, .map (some (w.heap.size + 1))] 127
  tb : Blk wr w.heap.size (tbl w.heap.size n k) 128
  mp : MP wr (w.heap.size + 1) 0 fun _ => none
  qs : ∀ c, c < k → PQ wr (qa w.heap.size c) 32 []
theorem rn_step {w wr w1 : World} {n k : Nat} (h : RN w wr n k) (hk : k < n) (q : PQ w1 wr.heap.size 32 []) (f : Below wr.heap.size wr w1) (hs : w1.heap.size = wr.heap.size + 17) :
    RN w (w1.setCell ⟨w.heap.size, k, none⟩ (qp w.heap.size k)) n (k + 1) := by
  have hz := h.size
  have nb : ∀ b, b ≠ w.heap.size → b ≠ (⟨w.heap.size, k, none⟩ : Addr).block := fun b hb => hb
  have fs : Fr w1.heap.size [w.heap.size] w1 (w1.setCell ⟨w.heap.size, k, none⟩ (qp w.heap.size k)) := (Fr.refl _ _ _).setCell (Or.inr (by simp)) _
  refine ⟨(h.bel.trans (f.mono (by omega))).setCell (p := ⟨w.heap.size, k, none⟩) (Nat.le_refl _) _, by simp [World.setCell]; omega, ?_, ?_, ?_, fun c hc => ?_⟩
  · exact (h.st.keep (Fr.of_below f) h.st.lt (by simp)).other (nb _ (by omega)) _
  · rw [← tbl_set _ _ _ hk]
    exact (h.tb.keep (Fr.of_below f) h.tb.lt (by simp)).set k _
  · have m1 := h.mp.keep (Fr.of_below f) h.mp.lt (by simp)
    exact m1.keep fs m1.lt (by simp)
  · by_cases e : c = k
    · subst e
      rw [show wr.heap.size = qa w.heap.size c by unfold qa; omega] at q
      exact q.keep fs q.hi fun j h1 h2 => by unfold qa at h1; simp; omega
    · have q2 := (h.qs c (by omega)).below f
      exact q2.keep fs q2.hi fun j h1 h2 => by unfold qa at h1; simp; omega
theorem onc_empty (n : Nat) : onc n (fun _ => []) = fun _ => none := by
  funext id
  exact onc_none.2 fun c _ => by simp [ids]
theorem rn_end {w wr : World} {n : Nat} (h : RN w wr n n) (h1 : 1 ≤ n) (h2 : n ≤ 64) : RR wr w.heap.size n 0 fun _ => [] :=
  ⟨⟨h.st, by rw [← tbl_all]; exact h.tb, h.qs, h1, h2⟩, by rw [onc_empty]; exact h.mp, ⟨fun _ _ => ok_nil 32, fun _ _ _ _ id hi => by simp [ids] at hi, fun _ _ id hi => by simp [ids] at hi⟩⟩
set_option maxRecDepth 100000 in
set_option maxHeartbeats 1000000 in
theorem rqnew_any (n : Nat) (w : World) (h1 : (1 : Int) ≤ n) (h2 : (n : Int) ≤ 64) :
    Calls Tryz.prog 20 #[.int .i64 (n : Int)] w fun e w' => e = .returned (.tuple #[.pointer (some ⟨w.heap.size + 2, 0, none⟩), .int .i64 0]) ∧ RR w' w.heap.size n 0 (fun _ => []) ∧ Below w.heap.size w w' := by
  have C : Hid (∀ w, _) := fun w => pnew_any 32 w (by decide) (by decide)
  have hmk := run_make_row' (P := Tryz.prog) 124 128 (.pointer none) 8 Tryz.underlying124 Tryz.infoPQ rfl .i64 .i64 n (by omega) (by omega)
  rw [made_ptr w.heap.size n] at hmk
  have hmm := @run_makeMap Tryz.prog
  obtain ⟨T0, hT⟩ : ∃ T0, tbl w.heap.size n 0 = T0 := ⟨_, rfl⟩
  have HT : Hid (tbl w.heap.size n 0 = T0) := hT
  rw [hT] at hmk
  clear hT
  go_enter Tryz.func20, Tryz.ntmps20
  go_wp2
  have P0 : RN w (((w.alloc (.cells T0.toArray 128)).alloc (.map #[] 0)).alloc (.cells #[.slice (some ⟨w.heap.size, 0, none⟩) n n, .map (some (w.heap.size + 1))] 127)) n 0 := by
    refine ⟨(((Below.refl _ w).alloc (Nat.le_refl _) _).alloc (by simp) _).alloc (by simp; omega) _, by simp, ?_, ?_, ?_, fun c hc => by omega⟩
    · have := Blk.new ((w.alloc (.cells T0.toArray 128)).alloc (.map #[] 0)) [.slice (some ⟨w.heap.size, 0, none⟩) n n, .map (some (w.heap.size + 1))] 127
      rwa [World.size_alloc, World.size_alloc] at this
    · rw [HT.out]
      exact ((Blk.new w _ _).alloc _).alloc _
    · have o := World.ownsMap_made (H := Unit) (w.alloc (.cells T0.toArray 128)) Tryz.prog 3 (plainElem Tryz.prog 3)
      rw [World.size_alloc] at o
      exact ⟨_, o.alloc _, fun id _ => ⟨rfl, rfl⟩⟩
  go_loopw [24] (fun i wr => ∃ k : Nat, (k : Int) ≤ n ∧ i = .int .i64 (k : Int) ∧ RN w wr n k) (fun i _ => n - (intOf i).toNat)
  case atStart => exact ⟨0, by omega, rfl, P0⟩
  case round =>
    obtain ⟨k, hk, rfl, P⟩ := hrel
    by_cases c : (k : Int) < n
    · have C1 : Hid (∀ _ : Unit, _) := fun _ => C.out wr
      have ST : Hid (∀ w1 : World, _ → _ → _ → _) := fun w1 q f hs => rn_step (w1 := w1) P (by omega) q f hs
      have cb : Hid (∀ w1 : World, Below wr.heap.size wr w1 → w1.cell? ⟨w.heap.size, k, none⟩ = some (.pointer none) ∧ w1.frozen? ⟨w.heap.size, k, none⟩ = false ∧ w1.cell? ⟨w.heap.size + 2, 0, none⟩ = some (.slice (some ⟨w.heap.size, 0, none⟩) n n)) := fun w1 f => by
        have b := P.tb.keep (Fr.of_below f) P.tb.lt (by simp)
        have b2 := P.st.keep (Fr.of_below f) P.st.lt (by simp)
        exact ⟨by rw [b.cell, tbl_get _ _ _ _ (by omega), if_neg (by omega)], b.free k, b2.cell 0⟩
      have hz : wr.heap.size = w.heap.size + 3 + 17 * k := P.size
      unfold qp at ST
      clear P P0
      go_wp2_with fail
      refine (C1.out ()).mono ?_
      rintro e w1 ⟨rfl, q, f, hs⟩
      obtain ⟨c1, f1, s1⟩ := cb.out w1 f
      have N2 := ST.out w1 q f hs
      rw [hz]
      clear q f hs
      go_wp2
      go_roundw
      case rel => exact ⟨k + 1, by omega, by go_num, N2⟩
      case measure => simp [intOf]; omega
    · obtain rfl : k = n := by omega
      have e := rn_end P (by omega) (by omega)
      have hb := P.bel
      clear P P0
      go_wp2
      go_ret2
      exact ⟨rfl, e, hb⟩
end Go.Proofs.YtfipiifickdeiaaGreatDoor.Rqu
namespace Go.Proofs.YtfipiifickdeiaaGreatDoor.Rqu
open Fif
open Go.ChangeShapes Go.WideShapes Go.ChangeAt Go.RowKit
open Fm Qm
/-- What Back and Take answer and leave. -/
def rbE (n : Nat) (K : Ks) (id : Int) : Int := if whB n K id = true then 0 else 4
def rbK (n : Nat) (K : Ks) (id : Int) : Ks := match onc n K id with | some c => up K c (bkX (K c) id) | none => K
def rtK (n : Nat) (K : Ks) (id : Int) : Ks := match onc n K id with | some c => up K c (del (K c) id) | none => K
end Go.Proofs.YtfipiifickdeiaaGreatDoor.Rqu
namespace Go.Proofs.YtfipiifickdeiaaGreatDoor.Rqu
open Fif
open Go.ChangeShapes Go.WideShapes Go.ChangeAt Go.RowKit
open Fm Qm
set_option maxRecDepth 100000 in
set_option maxHeartbeats 1000000 in
theorem rqlist_any {w : World} {s n m : Nat} {K : Ks} (c : Int) (h : RR w s n m K) :
    Calls Tryz.prog 147 #[.pointer (some ⟨s + 2, 0, none⟩), .int .i64 c] w fun e w' => ∃ v, e = .returned v ∧ w'.ownsRow w.heap.size 3 1 v (liL n K c).length ((liL n K c).map (Value.int .i64)) ∧ Below w.heap.size w w' := by
  by_cases hc : isC n c
  · rw [show liL n K c = cat (K c.toNat) from if_pos hc]
    obtain ⟨k, rfl⟩ : ∃ k : Nat, c = (k : Int) := ⟨c.toNat, by unfold isC at hc; omega⟩
    have hk : (k : Int) < n := hc.2
    rw [Int.toNat_natCast]
    have C : Hid (∀ _ : Unit, _) := fun _ => isc_yes k hk h.rb
    have D : Hid (∀ _ : Unit, _) := fun _ => plist_any w (h.rb.qs k (by omega))
    have c0 := h.rb.c0
    have cq := h.rb.cq (c := k) (by omega)
    clear h hc
    go_enter Tryz.func147, Tryz.ntmps147
    go_wp2_with fail
    refine (C.out ()).mono ?_
    rintro e w' ⟨rfl, rfl⟩
    go_wp2_with fail
    refine (D.out ()).mono ?_
    rintro e w2 ⟨v, rfl, o2, b2⟩
    go_wp2
    go_ret
    exact ⟨v, rfl, o2, b2⟩
  · rw [show liL n K c = [] from if_neg hc]
    have C : Hid (∀ _ : Unit, _) := fun _ => isc_no c hc h.rb
    clear h hc
    go_enter Tryz.func147, Tryz.ntmps147
    go_wp2_with fail
    refine (C.out ()).mono ?_
    rintro e w' ⟨rfl, rfl⟩
    go_wp2
    go_ret
    exact ⟨.slice none 0 0, rfl, World.ownsRow_nil _ _ _ _, Below.refl _ _⟩
end Go.Proofs.YtfipiifickdeiaaGreatDoor.Rqu
