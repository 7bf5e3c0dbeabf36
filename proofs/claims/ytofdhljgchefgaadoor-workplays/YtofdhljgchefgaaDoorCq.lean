/- A queue of at most 32 whose ring lies right ahead of it; many of them, apart from each other. -/
import Derived.Test.YtofdhljgchefgaaDoorRows
import Derived.Test.YtofdhljgchefgaaDoorCc
import Derived.Test.YtofdhljgchefgaaDoorCs
import Derived.Test.YtofdhljgchefgaaDoorCm
import Derived.WalkKit
import Derived.ProofKit
namespace Go.Proofs.YtofdhljgchefgaaDoor
open Go.ChangeShapes Go.WideShapes Go.ChangeAt Go.RowKit
open Fm Sl Cm

/-- The queue at block a + 1, its ring at a. -/
def QB (w : World) (a : Nat) (L : List Int) : Prop := ∃ f r, Q w (a + 1) a 32 f r L
theorem QB.lt {w : World} {a : Nat} {L : List Int} (h : QB w a L) : a + 1 < w.heap.size := by
  obtain ⟨f, r, q⟩ := h
  exact q.sb.lt
theorem QB.keep {B : Nat} {S : List Nat} {w w' : World} {a : Nat} {L : List Int} (h : QB w a L) (k : Fr B S w w') (hb : a + 1 < B) (h1 : a ∉ S) (h2 : a + 1 ∉ S) : QB w' a L := by
  obtain ⟨f, r, q⟩ := h
  exact ⟨f, r, q.keep k ⟨hb, by omega⟩ ⟨h2, h1⟩⟩
theorem QB.heap {w w1 : World} {a : Nat} {L : List Int} (h : QB w a L) (e : w1.heap = w.heap) : QB w1 a L := by
  obtain ⟨f, r, q⟩ := h
  exact ⟨f, r, q.heap e⟩

theorem qpush_any {w : World} {a : Nat} {L : List Int} (n : Int) (h : QB w a L) :
    Calls Tryd.prog 51 #[.pointer (some ⟨a + 1, 0, none⟩), .int .i64 n] w fun e w' => e = .returned (.int .i64 (pE 32 L n)) ∧ QB w' a (pL 32 L n) ∧ Fr w.heap.size [a + 1, a] w w' := by
  obtain ⟨f, r, q⟩ := h
  refine (push_any n w q).mono ?_
  rintro e w' ⟨rfl, ⟨r', q'⟩, k⟩
  exact ⟨rfl, ⟨_, _, q'⟩, k⟩
theorem qpop_any {w : World} {a : Nat} {L : List Int} (h : QB w a L) :
    Calls Tryd.prog 53 #[.pointer (some ⟨a + 1, 0, none⟩)] w fun e w' => e = .returned (.tuple #[.int .i64 (L.headD 0), .int .i64 (fE L)]) ∧ QB w' a L.tail ∧ Fr w.heap.size [a + 1, a] w w' := by
  obtain ⟨f, r, q⟩ := h
  refine (pop_any w q).mono ?_
  rintro e w' ⟨rfl, ⟨r', q'⟩, k⟩
  exact ⟨rfl, ⟨_, _, q'⟩, k⟩
theorem qdrop_any {w : World} {a : Nat} {L : List Int} (n : Int) (h : QB w a L) (hn : L.Nodup) :
    Calls Tryd.prog 55 #[.pointer (some ⟨a + 1, 0, none⟩), .int .i64 n] w fun e w' => e = .returned (.int .i64 (dE L n)) ∧ QB w' a (wo L n) ∧ Fr w.heap.size [a + 1, a] w w' := by
  obtain ⟨f, r, q⟩ := h
  refine (drop_any n w q hn).mono ?_
  rintro e w' ⟨rfl, ⟨r', q'⟩, k⟩
  exact ⟨rfl, ⟨_, _, q'⟩, k⟩
theorem qlen_any {w : World} {a : Nat} {L : List Int} (h : QB w a L) :
    Calls Tryd.prog 49 #[.pointer (some ⟨a + 1, 0, none⟩)] w fun e w' => e = .returned (.int .i64 (L.length : Int)) ∧ w' = w := by
  obtain ⟨f, r, q⟩ := h
  exact len_any w q
theorem qlist_any {w : World} {a : Nat} {L : List Int} (h : QB w a L) :
    Calls Tryd.prog 46 #[.pointer (some ⟨a + 1, 0, none⟩)] w fun e w' => ∃ v, e = .returned v ∧ w'.ownsRow w.heap.size 3 1 v L.length (L.map (Value.int .i64)) ∧ Below w.heap.size w w' := by
  obtain ⟨f, r, q⟩ := h
  exact list_any w q
theorem qnew_any (w : World) :
    Calls Tryd.prog 39 #[.int .i64 32] w fun e w' => e = .returned (.tuple #[.pointer (some ⟨w.heap.size + 1, 0, none⟩), .int .i64 0]) ∧ QB w' w.heap.size [] ∧ Fr w.heap.size [] w w' ∧ w'.heap.size = w.heap.size + 2 := by
  refine (new_at 32 w (by decide) (by decide)).mono ?_
  rintro e w' ⟨rfl, q, f, z⟩
  exact ⟨rfl, ⟨_, _, q⟩, f, z⟩

/-- The queues of p lists; a: where each one's ring lies. -/
def QS (w : World) (a : Nat → Nat) (p : Nat) (K : Ks) : Prop := ∀ c, c < p → QB w (a c) (ks K c)
theorem QS.keep {B : Nat} {S : List Nat} {w w' : World} {a : Nat → Nat} {p : Nat} {K : Ks} (h : QS w a p K) (k : Fr B S w w') (hB : w.heap.size ≤ B) (hS : ∀ c, c < p → a c ∉ S ∧ a c + 1 ∉ S) : QS w' a p K := fun c hc =>
  (h c hc).keep k (Nat.lt_of_lt_of_le (h c hc).lt hB) (hS c hc).1 (hS c hc).2
theorem QS.heap {w w1 : World} {a : Nat → Nat} {p : Nat} {K : Ks} (h : QS w a p K) (e : w1.heap = w.heap) : QS w1 a p K := fun c hc => (h c hc).heap e
/-- One queue has turned. -/
theorem QS.put {w w' : World} {a : Nat → Nat} {p : Nat} {K : Ks} (h : QS w a p K) {c : Nat} (hc : c < K.length) (sep : ∀ d, d < p → d ≠ c → a d + 1 < a c ∨ a c + 1 < a d) {X : List Int} (q : QB w' (a c) X) (f : Fr w.heap.size [a c + 1, a c] w w') : QS w' a p (K.set c X) := fun d hd => by
  rw [ks_set _ _ _ _ hc]
  by_cases e : d = c
  · subst e
    rw [if_pos rfl]
    exact q
  · rw [if_neg e]
    have s := sep d hd e
    exact (h d hd).keep f (h d hd).lt (by simp; omega) (by simp; omega)

/-- The table of pointers to queues. -/
def qtab (a : Nat → Nat) (n : Nat) : List Value := (List.range n).map fun c => .pointer (some ⟨a c + 1, 0, none⟩)
theorem qtab_get (a : Nat → Nat) (n c : Nat) (h : c < n) : (qtab a n)[c]? = some (.pointer (some ⟨a c + 1, 0, none⟩)) := by
  unfold qtab
  rw [List.getElem?_map, List.getElem?_range h]
  rfl
/-- The table while the first k queues are there. -/
def qtak (a : Nat → Nat) (n k : Nat) : List Value := (List.range n).map fun c => if c < k then .pointer (some ⟨a c + 1, 0, none⟩) else .pointer none
theorem qtak_get (a : Nat → Nat) (n k c : Nat) (h : c < n) : (qtak a n k)[c]? = some (if c < k then .pointer (some ⟨a c + 1, 0, none⟩) else .pointer none) := by
  unfold qtak
  rw [List.getElem?_map, List.getElem?_range h]
  rfl
theorem qtak_set (a : Nat → Nat) (n k : Nat) : (qtak a n k).set k (.pointer (some ⟨a k + 1, 0, none⟩)) = qtak a n (k + 1) := by
  apply List.ext_getElem?
  intro c
  by_cases hc : c < n
  · rw [qtak_get _ _ _ _ hc, List.getElem?_set]
    by_cases e : k = c
    · subst e
      rw [if_pos rfl, if_pos (by simpa [qtak] using hc), if_pos (by omega)]
    · rw [if_neg e, qtak_get _ _ _ _ hc]
      by_cases q : c < k
      · rw [if_pos q, if_pos (by omega)]
      · rw [if_neg q, if_neg (by omega)]
  · rw [List.getElem?_eq_none (by simp [qtak]; omega), List.getElem?_eq_none (by simp [qtak]; omega)]
theorem qtak_all (a : Nat → Nat) (n : Nat) : qtak a n n = qtab a n := by
  unfold qtak qtab
  apply List.map_congr_left
  intro c hc
  rw [if_pos (List.mem_range.1 hc)]
theorem made_qtak (a : Nat → Nat) (n : Nat) : madeCells #[Value.pointer none] n = (qtak a n 0).toArray := by
  apply Array.ext
  · simp [size_madeCells, qtak]
  · intro i h1 h2
    simp [madeCells, qtak, Nat.mod_one]
theorem Tryd.infoPQ : (Tryd.prog.info? 60).map (fun i => (i.zero, i.size, i.bytes)) = some (some (.pointer none), 1, 8) := by kernel_rfl

/-- A number is given out: what the table says now. -/
theorem oc_push {K K' : Ks} {id : Int} {c : Nat} (e : ∀ j, onc K' j = if j = id then some c else onc K j) (h1 : 1 ≤ id) (j : Nat) : oc K' j = if j = id.toNat then true else oc K j := by
  unfold oc
  rw [e]
  by_cases q : j = id.toNat
  · rw [if_pos q, if_pos (by omega)]
    rfl
  · rw [if_neg q, if_neg (by omega)]
theorem oc_gone {K K' : Ks} {id : Int} (e : ∀ j, onc K' j = if j = id then none else onc K j) (h1 : 1 ≤ id) (j : Nat) : oc K' j = if j = id.toNat then false else oc K j := by
  unfold oc
  rw [e]
  by_cases q : j = id.toNat
  · rw [if_pos q, if_pos (by omega)]
    rfl
  · rw [if_neg q, if_neg (by omega)]
theorem ff_same {O : Nat → Bool} {K : Ks} (o : ∀ i, 1 ≤ i → i ≤ 32 → O i = oc K i) : ff 32 O = nx K := by
  cases e : nx K with
  | some i =>
    obtain ⟨h1, h2⟩ := nx_some e
    refine ff_some 32 O i h1 (by rw [o _ (by omega) (by omega)]; exact oc_false.2 h2) fun j hj => ?_
    rw [o _ (by omega) (by omega)]
    unfold nx ff at e
    rw [List.find?_range_eq_some] at e
    simpa using e.2.2 j hj
  | none =>
    refine ff_none 32 O fun j hj => ?_
    rw [o _ (by omega) (by omega)]
    unfold nx ff at e
    rw [List.find?_eq_none] at e
    simpa using e j (List.mem_range.2 hj)
end Go.Proofs.YtofdhljgchefgaaDoor
