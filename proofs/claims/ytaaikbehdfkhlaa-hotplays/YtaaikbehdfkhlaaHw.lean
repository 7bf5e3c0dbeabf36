/- Lists in memory that a table of slices tells of: each is nil or a part of a block with room behind it, none within another's room; what append, cuts and copies do to them. -/
import Derived.Test.YtaaikbehdfkhlaaRows
import Derived.Test.YtaaikbehdfkhlaaFg
import Derived.Test.YtaaikbehdfkhlaaFj
import Derived.ArgAppend
import Derived.WalkKit
import Derived.ProofKit
namespace Go.Proofs.Ytaaikbehdfkhlaa
open Go.ChangeShapes Go.WideShapes Go.ChangeAt Go.RowKit

/-- A list as it lies: nil, or a part of a block, with room behind it. -/
def Lv (w : World) (v : Value) (xs : List Int) : Prop :=
  (v = .slice none 0 0 ∧ xs = []) ∨ ∃ (g off cap : Nat) (cur : List Value), v = .slice (some ⟨g, off, none⟩) xs.length cap ∧ xs.length ≤ cap ∧ Blk w g cur 3 ∧ off + cap ≤ cur.length ∧ ∀ j, j < xs.length → cur[off + j]? = some (.int .i64 (xs.getD j 0))

/-- Its block. -/
def vb (v : Value) : List Nat := match v with
  | .slice (some a) _ _ => [a.block]
  | _ => []

/-- None within the other's room. -/
def Ap (v u : Value) : Prop := ∀ (g off n cap g2 off2 n2 cap2 : Nat), v = .slice (some ⟨g, off, none⟩) n cap → u = .slice (some ⟨g2, off2, none⟩) n2 cap2 → g ≠ g2 ∨ off + cap ≤ off2 ∨ off2 + cap2 ≤ off

theorem Ap.symm {v u : Value} (h : Ap v u) : Ap u v := fun g off n cap g2 off2 n2 cap2 e1 e2 => by
  rcases h g2 off2 n2 cap2 g off n cap e2 e1 with h | h | h
  · exact Or.inl fun e => h e.symm
  · exact Or.inr (Or.inr h)
  · exact Or.inr (Or.inl h)
theorem ap_nil (u : Value) (n cap : Nat) : Ap (.slice none n cap) u := fun _ _ _ _ _ _ _ _ e => by simp at e

theorem Lv.row {w : World} {v : Value} {xs : List Int} (h : Lv w v xs) : Row w v xs := by
  rcases h with ⟨rfl, rfl⟩ | ⟨g, off, cap, cur, rfl, _, hb, _, hc⟩
  · exact Or.inl ⟨rfl, none, 0, rfl⟩
  · exact Or.inr ⟨g, off, cap, rfl, hb.lt, fun i hi => by rw [hb.cell]; exact hc i hi⟩
theorem Lv.shape {w : World} {v : Value} {xs : List Int} (h : Lv w v xs) : ∃ a cap, v = .slice a xs.length cap := h.row.shape
theorem Lv.keep {B : Nat} {S : List Nat} {w w' : World} {v : Value} {xs : List Int} (h : Lv w v xs) (f : Fr B S w w') (hB : w.heap.size ≤ B) (hS : ∀ g ∈ vb v, g ∉ S) : Lv w' v xs := by
  rcases h with h | ⟨g, off, cap, cur, rfl, h1, hb, h2⟩
  · exact Or.inl h
  · exact Or.inr ⟨g, off, cap, cur, rfl, h1, hb.keep f (Nat.lt_of_lt_of_le hb.lt hB) (hS g (by simp [vb])), h2⟩
theorem Lv.heap {w w1 : World} {v : Value} {xs : List Int} (h : Lv w v xs) (e : w1.heap = w.heap) : Lv w1 v xs := by
  rcases h with h | ⟨g, off, cap, cur, rfl, h1, hb, h2⟩
  · exact Or.inl h
  · exact Or.inr ⟨g, off, cap, cur, rfl, h1, hb.heap e, h2⟩
theorem Lv.not {w : World} {v : Value} {xs : List Int} (h : Lv w v xs) {k : Nat} {cs : List Value} {t : TypeId} (b : Blk w k cs t) (ht : t ≠ 3) : k ∉ vb v := by
  rcases h with ⟨rfl, _⟩ | ⟨g, off, cap, cur, rfl, _, hb, _⟩
  · simp [vb]
  · simp only [vb, List.mem_singleton]
    exact b.ne hb ht
theorem Lv.lt {w : World} {v : Value} {xs : List Int} (h : Lv w v xs) : ∀ g ∈ vb v, g < w.heap.size := by
  rcases h with ⟨rfl, _⟩ | ⟨g, off, cap, cur, rfl, _, hb, _⟩
  · simp [vb]
  · simpa [vb] using hb.lt
theorem lv_own {w : World} {base : Nat} {v : Value} {xs : List Int} (h : w.ownsRow base 3 1 v xs.length (xs.map (Value.int .i64))) : Lv w v xs ∧ ∀ g ∈ vb v, base ≤ g := by
  rcases h.2 with ⟨rfl, e⟩ | ⟨g, cap, cur, rfl, hg, hh, hn, hc, hz, ht⟩
  · exact ⟨Or.inl ⟨rfl, List.eq_nil_of_length_eq_zero e⟩, by simp [vb]⟩
  · refine ⟨Or.inr ⟨g, 0, cap, cur.toList, rfl, hn, by unfold Blk; rw [Array.toArray_toList]; exact hh, by rw [Array.length_toList, hz]; omega, fun j hj => ?_⟩, by simpa [vb] using hg⟩
    have := congrArg (fun l => l[j]?) ht
    simp only [Nat.mul_one] at this
    rw [List.getElem?_take, if_pos hj] at this
    rw [Nat.zero_add, this, getD_map_int xs j hj]

/-- Writes within the room of a list alone. -/
structure Wr (w w' : World) (g off cap : Nat) (cur cur' : List Value) : Prop where
  was : Blk w g cur 3
  now : Blk w' g cur' 3
  len : cur'.length = cur.length
  out : ∀ k, k < off ∨ off + cap ≤ k → cur'[k]? = cur[k]?
  fr : Fr w.heap.size [g] w w'

theorem Wr.other {w w' : World} {g off cap n : Nat} {cur cur' : List Value} (h : Wr w w' g off cap cur cur') {u : Value} {ys : List Int} (k : Lv w u ys) (a : Ap (.slice (some ⟨g, off, none⟩) n cap) u) : Lv w' u ys := by
  rcases k with k | ⟨g2, off2, cap2, cur2, rfl, h1, hb, h2, h3⟩
  · exact Or.inl k
  · by_cases e : g2 = g
    · subst e
      have ec : cur2 = cur := by
        have := (show w.heap[g2]? = _ from hb).symm.trans h.was
        simpa using this
      subst ec
      refine Or.inr ⟨g2, off2, cap2, cur', rfl, h1, h.now, by rw [h.len]; exact h2, fun j hj => ?_⟩
      rw [h.out _ ?_]
      · exact h3 j hj
      · rcases a g2 off n cap g2 off2 _ cap2 rfl rfl with q | q | q
        · exact absurd rfl q
        · exact Or.inr (by omega)
        · exact Or.inl (by omega)
    · exact Or.inr ⟨g2, off2, cap2, cur2, rfl, h1, hb.keep h.fr hb.lt (by simpa using e), h2, h3⟩

/-- What append of one number does. -/
def App (w : World) (v : Value) (xs : List Int) (y : Int) (v' : Value) (w' : World) : Prop :=
  (∃ (g off cap : Nat), v = .slice (some ⟨g, off, none⟩) xs.length cap ∧ xs.length < cap ∧ v' = .slice (some ⟨g, off, none⟩) (xs.length + 1) cap ∧ w' = w.setCell ⟨g, off + xs.length, none⟩ (.int .i64 y))
  ∨ (w'.ownsRow w.heap.size 3 1 v' (xs.length + 1) ((xs ++ [y]).map (Value.int .i64)) ∧ w.grownBy w' none)

theorem run_app (w : World) (ty : TypeId) {v : Value} {xs : List Int} (y : Int) (h : Lv w v xs) (hl : xs.length ≤ 1000) (ad : Addr) (c : Nat) (hc : w.cell? ad = some (.int .i64 y)) :
    ∃ v' w', (Builtin.append_ #[45, 45] ty #[v, .slice (some ad) 1 c]).run Try.prog w = .ok v' w' ∧ App w v xs y v' w' := by
  obtain ⟨i0, hi, hz0, hz1, hz2⟩ := info_parts Try.info3
  have hn : ∀ j u, ([.int .i64 y] : List Value)[j]? = some u → w.cell? (ad.add j) = some u := fun j u hj => by
    match j, hj with
    | 0, hj => simp at hj; subst hj; simpa [Addr.add] using hc
  have h1 : ∀ u ∈ ([.int .i64 y] : List Value), u.oneCell' = true := fun u hu => by simp at hu; subst hu; rfl
  rcases h with ⟨rfl, rfl⟩ | ⟨g, off, cap, cur, rfl, hcap, hb, hfit, hcell⟩
  · obtain ⟨v', w', hrun, r1, r2, _⟩ := run_append_own (P := Try.prog) w w.heap.size 45 ty 3 i0 (.int .i64 0) 1 8 Try.underlying45 hi hz0 hz1 hz2 rfl (by decide) (.slice none 0 0) 0 [] (World.ownsRow_nil w _ 3 1) ad 1 c [.int .i64 y] rfl hn h1 (by unfold maxLen; omega) (by omega) (Nat.le_refl _)
    exact ⟨v', w', hrun, Or.inr ⟨by simpa using r1, r2⟩⟩
  · by_cases room : xs.length + 1 ≤ cap
    · have e := run_append_room_cells (P := Try.prog) w 45 ty 3 i0 Try.underlying45 hi g off xs.length cap ad 1 c [.int .i64 y] (by rw [hz1]; rfl) hn h1 room
        (fun j hj => by
          rw [hz1, hb.cell]
          simp at hj
          subst hj
          rw [List.getElem?_eq_getElem (by omega)]
          rfl)
        (fun j _ => hb.free _)
      refine ⟨_, _, e, Or.inl ⟨g, off, cap, rfl, by omega, rfl, ?_⟩⟩
      rw [hz1, Nat.mul_one]
      rfl
    · obtain ⟨v', w', hrun, r1, r2⟩ := run_append_arg_grows (P := Try.prog) w 45 ty 3 i0 (.int .i64 0) 1 8 Try.underlying45 hi hz0 hz1 hz2 rfl (by decide) ⟨g, off, none⟩ xs.length cap (xs.map (Value.int .i64)) (by simp)
        (fun j u hj => by
          have hj2 : j < xs.length := by
            have := (List.getElem?_eq_some_iff.1 hj).1
            simpa using this
          rw [Addr.add_lit, hb.cell, hcell j hj2, ← getD_map_int xs j hj2]
          exact hj)
        ad 1 c [.int .i64 y] rfl hn (by omega) (by unfold maxLen; omega) (by omega)
      exact ⟨v', w', hrun, Or.inr ⟨by simpa using r1, r2⟩⟩

theorem setCell_at {w : World} {g : Nat} {cur : List Value} {t : TypeId} (_h : Blk w g cur t) (i : Nat) (u : Value) : Fr w.heap.size [g] w (w.setCell ⟨g, i, none⟩ u) := (Fr.refl _ _ _).setCell (Or.inr (by simp)) u

theorem app_wr {w : World} {xs : List Int} {y : Int} {g off cap : Nat} {cur : List Value} (hb : Blk w g cur 3) (hl : xs.length < cap) :
    Wr w (w.setCell ⟨g, off + xs.length, none⟩ (.int .i64 y)) g off cap cur (cur.set (off + xs.length) (.int .i64 y)) := by
  refine ⟨hb, hb.set _ _, by simp, fun k hk => ?_, setCell_at hb _ _⟩
  rw [List.getElem?_set_ne (by omega)]

/-- The list itself, and all others, behind an append. -/
theorem app_self {w w' : World} {v v' : Value} {xs : List Int} {y : Int} (h : Lv w v xs) (a : App w v xs y v' w') : Lv w' v' (xs ++ [y]) := by
  rcases a with ⟨g, off, cap, rfl, hl, rfl, rfl⟩ | ⟨own, _⟩
  · rcases h with ⟨e, _⟩ | ⟨g2, off2, cap2, cur, e, h1, hb, h2, h3⟩
    · simp at e
    · simp only [Value.slice.injEq, Option.some.injEq, Addr.mk.injEq] at e
      obtain ⟨⟨rfl, rfl, _⟩, _, rfl⟩ := e
      refine Or.inr ⟨g, off, cap, _, by simp, by simp; omega, hb.set _ _, by simpa using h2, fun j hj => ?_⟩
      simp at hj
      by_cases e : j = xs.length
      · subst e
        rw [List.getElem?_set_self (by omega)]
        simp
      · rw [List.getElem?_set_ne (by omega), h3 j (by omega)]
        rw [List.getD_eq_getElem?_getD, List.getD_eq_getElem?_getD, List.getElem?_append_left (by omega)]
  · exact (lv_own (xs := xs ++ [y]) (by simpa using own)).1
theorem app_other {w w' : World} {v v' u : Value} {xs ys : List Int} {y : Int} (h : Lv w v xs) (a : App w v xs y v' w') (k : Lv w u ys) (p : Ap v u) : Lv w' u ys ∧ Ap v' u := by
  rcases a with ⟨g, off, cap, rfl, hl, rfl, rfl⟩ | ⟨own, gr⟩
  · rcases h with ⟨e, _⟩ | ⟨g2, off2, cap2, cur, e, h1, hb, h2, h3⟩
    · simp at e
    · simp only [Value.slice.injEq, Option.some.injEq, Addr.mk.injEq] at e
      obtain ⟨⟨rfl, rfl, _⟩, _, rfl⟩ := e
      refine ⟨(app_wr hb hl).other k p, fun g3 off3 n3 cap3 g4 off4 n4 cap4 e1 e2 => ?_⟩
      simp only [Value.slice.injEq, Option.some.injEq, Addr.mk.injEq] at e1
      obtain ⟨⟨rfl, rfl, _⟩, _, rfl⟩ := e1
      exact p _ _ _ _ _ _ _ _ rfl e2
  · have f : Fr w.heap.size [] w w' := (Fr.refl _ _ _).grown gr (Nat.le_refl _) (by simp)
    refine ⟨k.keep f (Nat.le_refl _) (by simp), fun g3 off3 n3 cap3 g4 off4 n4 cap4 e1 e2 => Or.inl ?_⟩
    have l1 := (lv_own (xs := xs ++ [y]) (by simpa using own)).2 g3 (by rw [e1]; simp [vb])
    have l2 := k.lt g4 (by rw [e2]; simp [vb])
    omega
theorem app_fr {w w' : World} {v v' : Value} {xs : List Int} {y : Int} (a : App w v xs y v' w') : Fr w.heap.size (vb v) w w' ∧ ∀ g ∈ vb v', g ∈ vb v ∨ w.heap.size ≤ g := by
  rcases a with ⟨g, off, cap, rfl, hl, rfl, rfl⟩ | ⟨own, gr⟩
  · exact ⟨(Fr.refl _ _ _).setCell (Or.inr (by simp [vb])) _, fun g hg => Or.inl hg⟩
  · refine ⟨((Fr.refl w.heap.size [] w).grown gr (Nat.le_refl _) (by simp)).mono (Nat.le_refl _) (by simp), fun g hg => Or.inr ?_⟩
    exact (lv_own (xs := xs ++ [y]) (by simpa using own)).2 g hg

theorem app_shape {w w' : World} {v v' : Value} {xs : List Int} {y : Int} (a : App w v xs y v' w') : ∃ (p : Option Addr) (cap : Nat), v' = .slice p (xs.length + 1) cap := by
  rcases a with ⟨g, off, cap, rfl, hl, rfl, rfl⟩ | ⟨own, gr⟩
  · exact ⟨_, cap, rfl⟩
  · exact own_shape own

/-- append of one number as one step of a region that draws its order. -/
theorem step_app {ops : Array Oper} {o : Oper} {a : Act} {w : World} {K : Act → World → Prop} {Q : Exit → Act → World → Prop} {E : Prop}
    (hg : o.guard = none) (s x : Operand) (hop : o.op = Op.call { callee := Callee.builtin Builtin.append, args := #[s, x], argTypes := #[45, 45] })
    {v : Value} {xs : List Int} (y : Int) (hs : a.eval s = v) (h : Lv w v xs) (hl : xs.length ≤ 1000) (ad : Addr) (c : Nat) (hx : a.eval x = .slice (some ad) 1 c) (hc : w.cell? ad = some (.int .i64 y))
    (hK : ∀ v' w', App w v xs y v' w' → K (a.put o.dst v') w') :
    if Region.wanted o (yielded ops a.tmps) = true then Oper.wp Try.prog o a w K Q else E := by
  have hw : Region.wanted o (yielded ops a.tmps) = true := by simp [Region.wanted, hg]
  rw [if_pos hw]
  obtain ⟨v', w', hrun, ha⟩ := run_app w o.type y h hl ad c hc
  unfold Oper.wp
  simp [execOp, hop, resolve, invoke, builtin, hs, hx, hrun, Result.andThen]
  exact hK v' w' ha

/- Tables of lists. -/
def nv : Value := .slice none 0 0

structure Ls (w : World) (V : List Value) (K : List (List Int)) : Prop where
  len : V.length = K.length
  lv : ∀ i, i < K.length → Lv w (V.getD i nv) (K.getD i [])
  apart : ∀ i j, i < K.length → j < K.length → i ≠ j → Ap (V.getD i nv) (V.getD j nv)

theorem getD_set' {α : Type} (V : List α) (c i : Nat) (v d : α) (hc : c < V.length) : (V.set c v).getD i d = if i = c then v else V.getD i d := by
  rw [List.getD_eq_getElem?_getD, List.getElem?_set]
  by_cases e : c = i
  · subst e
    simp [hc]
  · rw [if_neg e, if_neg (fun g => e g.symm), List.getD_eq_getElem?_getD]

theorem Ls.turn {w w' : World} {V : List Value} {K : List (List Int)} (h : Ls w V K) {c : Nat} (hc : c < K.length) {v' : Value} {l' : List Int} (self : Lv w' v' l')
    (other : ∀ (u : Value) (ys : List Int), Lv w u ys → Ap (V.getD c nv) u → Lv w' u ys ∧ Ap v' u) : Ls w' (V.set c v') (K.set c l') := by
  have hl := h.len
  refine ⟨by simp [hl], fun i hi => ?_, fun i j hi hj hn => ?_⟩
  · simp at hi
    rw [getD_set' V c i v' nv (by omega), getD_set' K c i l' [] hc]
    by_cases e : i = c
    · rw [if_pos e, if_pos e]
      exact self
    · rw [if_neg e, if_neg e]
      exact (other _ _ (h.lv i hi) (h.apart c i hc hi (fun q => e q.symm))).1
  · simp at hi hj
    rw [getD_set' V c i v' nv (by omega), getD_set' V c j v' nv (by omega)]
    by_cases e : i = c
    · subst e
      rw [if_pos rfl, if_neg (fun q => hn q.symm)]
      exact (other _ _ (h.lv j hj) (h.apart i j hc hj hn)).2
    · rw [if_neg e]
      by_cases e2 : j = c
      · subst e2
        rw [if_pos rfl]
        exact ((other _ _ (h.lv i hi) (h.apart j i hc hi (fun q => e q.symm))).2).symm
      · rw [if_neg e2]
        exact h.apart i j hi hj hn
theorem Ls.keep {B : Nat} {S : List Nat} {w w' : World} {V : List Value} {K : List (List Int)} (h : Ls w V K) (f : Fr B S w w') (hB : w.heap.size ≤ B) (hS : ∀ i, i < K.length → ∀ g ∈ vb (V.getD i nv), g ∉ S) : Ls w' V K :=
  ⟨h.len, fun i hi => (h.lv i hi).keep f hB (hS i hi), h.apart⟩
theorem Ls.heap {w w1 : World} {V : List Value} {K : List (List Int)} (h : Ls w V K) (e : w1.heap = w.heap) : Ls w1 V K := ⟨h.len, fun i hi => (h.lv i hi).heap e, h.apart⟩
theorem Ls.append {w w' : World} {V : List Value} {K : List (List Int)} (h : Ls w V K) {c : Nat} (hc : c < K.length) {v' : Value} {y : Int} (a : App w (V.getD c nv) (K.getD c []) y v' w') : Ls w' (V.set c v') (K.set c (K.getD c [] ++ [y])) :=
  h.turn hc (app_self (h.lv c hc) a) fun _ _ k p => app_other (h.lv c hc) a k p

/-- A cut out of a list's room. -/
theorem Ls.cut {w : World} {V : List Value} {K : List (List Int)} (h : Ls w V K) {c : Nat} (hc : c < K.length) {g off cap n : Nat} (e : V.getD c nv = .slice (some ⟨g, off, none⟩) n cap) {off' n' cap' : Nat} {l' : List Int}
    (h1 : off ≤ off') (h2 : off' + cap' ≤ off + cap) (self : Lv w (.slice (some ⟨g, off', none⟩) n' cap') l') : Ls w (V.set c (.slice (some ⟨g, off', none⟩) n' cap')) (K.set c l') :=
  h.turn hc self fun u ys k p => ⟨k, fun g3 off3 n3 cap3 g4 off4 n4 cap4 e1 e2 => by
    simp only [Value.slice.injEq, Option.some.injEq, Addr.mk.injEq] at e1
    obtain ⟨⟨rfl, rfl, _⟩, _, rfl⟩ := e1
    rcases p _ _ _ _ _ _ _ _ e e2 with q | q | q
    · exact Or.inl q
    · exact Or.inr (Or.inl (by omega))
    · exact Or.inr (Or.inr (by omega))⟩
/-- A list that lies in memory of its own. -/
theorem Ls.fresh {w w' : World} {V : List Value} {K : List (List Int)} (h : Ls w V K) {c : Nat} (hc : c < K.length) {v' : Value} {l' : List Int} (f : Fr w.heap.size [] w w') (self : Lv w' v' l') (new : ∀ g ∈ vb v', w.heap.size ≤ g) : Ls w' (V.set c v') (K.set c l') :=
  h.turn hc self fun u ys k p => ⟨k.keep f (Nat.le_refl _) (by simp), fun g3 off3 n3 cap3 g4 off4 n4 cap4 e1 e2 => Or.inl (by
    have l1 := new g3 (by rw [e1]; simp [vb])
    have l2 := k.lt g4 (by rw [e2]; simp [vb])
    omega)⟩

/-- The object: a pool, and the table of lists. -/
structure St (tS : TypeId) (w : World) (b pb lb n : Nat) (V : List Value) (K : List (List Int)) : Prop where
  sb : Blk w b [.pointer (some ⟨pb, 0, none⟩), .slice (some ⟨lb, 0, none⟩) n n] tS
  sl : Blk w lb V 45
  ls : Ls w V K
  kn : K.length = n
  n1 : 1 ≤ n
  n2 : n ≤ 64

/-- The blocks of the lists. -/
def bl (V : List Value) : List Nat := V.flatMap vb
theorem bl_get {V : List Value} {i : Nat} {g : Nat} (h : g ∈ vb (V.getD i nv)) : g ∈ bl V := by
  rw [List.getD_eq_getElem?_getD] at h
  cases e : V[i]? with
  | none => rw [e] at h; simp [nv, vb] at h
  | some v =>
    rw [e] at h
    exact List.mem_flatMap.2 ⟨v, List.mem_of_getElem? e, h⟩
theorem bl_mem {V : List Value} {g : Nat} (h : g ∈ bl V) : ∃ i, i < V.length ∧ g ∈ vb (V.getD i nv) := by
  obtain ⟨v, hv, hg⟩ := List.mem_flatMap.1 h
  obtain ⟨i, hi, e⟩ := List.mem_iff_getElem.1 hv
  refine ⟨i, hi, ?_⟩
  rw [List.getD_eq_getElem?_getD, List.getElem?_eq_getElem hi, Option.getD_some, e]
  exact hg
theorem bl_set {V : List Value} {c : Nat} {v : Value} {S : List Nat} (hS : ∀ g ∈ vb v, g ∈ S) {g : Nat} (h : g ∈ bl (V.set c v)) : g ∈ bl V ∨ g ∈ S := by
  obtain ⟨u, hu, hg⟩ := List.mem_flatMap.1 h
  rcases List.mem_or_eq_of_mem_set hu with q | q
  · exact Or.inl (List.mem_flatMap.2 ⟨u, q, hg⟩)
  · subst q
    exact Or.inr (hS g hg)

theorem St.c0 {tS : TypeId} {w : World} {b pb lb n : Nat} {V : List Value} {K : List (List Int)} (h : St tS w b pb lb n V K) : w.cell? ⟨b, 0, none⟩ = some (.pointer (some ⟨pb, 0, none⟩)) := h.sb.cell 0
theorem St.c1 {tS : TypeId} {w : World} {b pb lb n : Nat} {V : List Value} {K : List (List Int)} (h : St tS w b pb lb n V K) : w.cell? ⟨b, 1, none⟩ = some (.slice (some ⟨lb, 0, none⟩) n n) := h.sb.cell 1
theorem St.vl {tS : TypeId} {w : World} {b pb lb n : Nat} {V : List Value} {K : List (List Int)} (h : St tS w b pb lb n V K) : V.length = n := h.ls.len.trans h.kn
theorem St.cv {tS : TypeId} {w : World} {b pb lb n : Nat} {V : List Value} {K : List (List Int)} (h : St tS w b pb lb n V K) {i : Nat} (hi : i < n) : w.cell? ⟨lb, i, none⟩ = some (V.getD i nv) := by
  rw [h.sl.cell, List.getD_eq_getElem?_getD, List.getElem?_eq_getElem (by rw [h.vl]; exact hi)]
  rfl
theorem St.lv {tS : TypeId} {w : World} {b pb lb n : Nat} {V : List Value} {K : List (List Int)} (h : St tS w b pb lb n V K) {i : Nat} (hi : i < n) : Lv w (V.getD i nv) (K.getD i []) := h.ls.lv i (by rw [h.kn]; exact hi)
theorem St.heap {tS : TypeId} {w w1 : World} {b pb lb n : Nat} {V : List Value} {K : List (List Int)} (h : St tS w b pb lb n V K) (e : w1.heap = w.heap) : St tS w1 b pb lb n V K := ⟨h.sb.heap e, h.sl.heap e, h.ls.heap e, h.kn, h.n1, h.n2⟩
theorem St.keep {tS : TypeId} {B : Nat} {S : List Nat} {w w' : World} {b pb lb n : Nat} {V : List Value} {K : List (List Int)} (h : St tS w b pb lb n V K) (f : Fr B S w w') (hB : w.heap.size ≤ B) (h1 : b ∉ S) (h2 : lb ∉ S) (h3 : ∀ g ∈ bl V, g ∉ S) : St tS w' b pb lb n V K :=
  ⟨h.sb.keep f (Nat.lt_of_lt_of_le h.sb.lt hB) h1, h.sl.keep f (Nat.lt_of_lt_of_le h.sl.lt hB) h2, h.ls.keep f hB fun _ _ g hg => h3 g (bl_get hg), h.kn, h.n1, h.n2⟩
/-- A block of another type is none of the lists'. -/
theorem St.not {tS : TypeId} {w : World} {b pb lb n : Nat} {V : List Value} {K : List (List Int)} (h : St tS w b pb lb n V K) {k : Nat} {cs : List Value} {t : TypeId} (q : Blk w k cs t) (ht : t ≠ 3) : k ∉ bl V := fun hm => by
  obtain ⟨i, hi, hg⟩ := bl_mem hm
  exact (h.lv (by rw [← h.vl]; exact hi)).not q ht hg
theorem St.bl_lt {tS : TypeId} {w : World} {b pb lb n : Nat} {V : List Value} {K : List (List Int)} (h : St tS w b pb lb n V K) {g : Nat} (hg : g ∈ bl V) : g < w.heap.size := by
  obtain ⟨i, hi, hm⟩ := bl_mem hg
  exact (h.lv (by rw [← h.vl]; exact hi)).lt g hm

/-- Behind the store of a list's new cut. -/
theorem St.store {tS : TypeId} {w w1 : World} {b pb lb n : Nat} {V : List Value} {K : List (List Int)} (h : St tS w b pb lb n V K) (ht : tS ≠ 3) (ht2 : tS ≠ 45) {S : List Nat} (f : Fr w.heap.size S w w1) (hS : ∀ g ∈ S, g ∈ bl V) {c : Nat} {v' : Value} {l' : List Int}
    (ls : Ls w1 (V.set c v') (K.set c l')) : St tS (w1.setCell ⟨lb, c, none⟩ v') b pb lb n (V.set c v') (K.set c l') := by
  have nb : b ∉ S := fun e => h.not h.sb ht (hS b e)
  have nl : lb ∉ S := fun e => h.not h.sl (by decide) (hS lb e)
  have s1 := h.sb.keep f h.sb.lt nb
  have s2 := h.sl.keep f h.sl.lt nl
  refine ⟨s1.other (s1.ne s2 ht2) _, s2.set c v', ?_, by simp [h.kn], h.n1, h.n2⟩
  refine ls.keep ((Fr.refl w1.heap.size [lb] w1).setCell (Or.inr (by simp)) v') (Nat.le_refl _) fun i hi g hg => ?_
  have := (ls.lv i hi).not s2 (by decide)
  simp
  intro e
  subst e
  exact this hg
theorem St.store_fr {w w1 : World} {S T : List Nat} (f : Fr w.heap.size S w w1) (hS : ∀ g ∈ S, g ∈ T) (lb c : Nat) (v : Value) : Fr w.heap.size (lb :: T) w (w1.setCell ⟨lb, c, none⟩ v) :=
  (f.mono (Nat.le_refl _) (fun k _ hk hs => hk (List.mem_cons_of_mem _ (hS k hs)))).setCell (Or.inr (by simp)) v
end Go.Proofs.Ytaaikbehdfkhlaa
