/- Works that are queued and taken, and the list of those that are left: plain facts, and both in memory, apart from each other. -/
import Derived.Test.YtofdhljgchefgaaDoorGc
import Derived.WalkKit
import Derived.ProofKit
namespace Go.Proofs.YtofdhljgchefgaaDoor
open Go.ChangeShapes Go.WideShapes Go.ChangeAt Go.RowKit
open Fm Sl Cm

/-- How many there are in all lists. -/
def tot (K : Ks) : Nat := (K.map List.length).sum
theorem tot_set : ∀ (K : Ks) (c : Nat) (X : List Int), c < K.length → tot (K.set c X) + (ks K c).length = tot K + X.length
  | [], c, X, h => by simp at h
  | a :: t, 0, X, _ => by
    simp [tot, ks]
    omega
  | a :: t, c + 1, X, h => by
    have ih := tot_set t c X (by simpa using h)
    have e : ks (a :: t) (c + 1) = ks t c := by simp [ks]
    rw [e]
    simp only [tot, List.set_cons_succ, List.map_cons, List.sum_cons] at ih ⊢
    omega

/-- L tells of all that are queued. -/
structure LI (K : Ks) (L : List Int) : Prop where
  nd : L.Nodup
  mem : ∀ id, id ∈ L ↔ onc K id ≠ none
  len : tot K = L.length
theorem LI.rg {K : Ks} {L : List Int} (h : LI K L) (a : Al K) : ∀ id ∈ L, 1 ≤ id ∧ id ≤ 32 := fun id hi => by
  have := (h.mem id).1 hi
  cases e : onc K id with
  | none => exact absurd e this
  | some c => exact a.rg c id (onc_spec e)
theorem LI.le {K : Ks} {L : List Int} (h : LI K L) (a : Al K) : L.length ≤ 32 := few 32 L h.nd (h.rg a)
theorem li_nil (n : Nat) : LI (List.replicate n []) [] := by
  refine ⟨List.Pairwise.nil, fun id => by rw [onc_nil]; simp, ?_⟩
  simp [tot]
theorem li_push {K : Ks} {L : List Int} (a : Al K) (h : LI K L) {k : Nat} (hk : k < K.length) {id : Int} (hn : onc K id = none) (h1 : 1 ≤ id) (h2 : id ≤ 32) : LI (K.set k (ks K k ++ [id])) (L ++ [id]) := by
  obtain ⟨_, e⟩ := al_push a hk hn h1 h2
  have no : id ∉ L := fun z => (h.mem id).1 z hn
  refine ⟨?_, fun j => ?_, ?_⟩
  · rw [List.nodup_append]
    refine ⟨h.nd, List.nodup_cons.2 ⟨by simp, List.Pairwise.nil⟩, fun x hx y hy => ?_⟩
    simp at hy
    subst hy
    exact fun e => no (e ▸ hx)
  · rw [e, List.mem_append, h.mem]
    by_cases q : j = id
    · simp [q]
    · simp [q]
  · have := tot_set K k (ks K k ++ [id]) hk
    rw [List.length_append, List.length_singleton] at this
    rw [List.length_append, List.length_singleton, ← h.len]
    omega
theorem li_pop {K : Ks} {L : List Int} (a : Al K) (h : LI K L) {p : Nat} (hp : ks K p ≠ []) : LI (K.set p (ks K p).tail) (wo L ((ks K p).headD 0)) ∧ (wo L ((ks K p).headD 0)).length + 1 = L.length ∧ onc (K.set p (ks K p).tail) ((ks K p).headD 0) = none := by
  obtain ⟨_, e⟩ := al_pop a hp
  have hm : (ks K p).headD 0 ∈ L := (h.mem _).2 (by rw [(onc_iff a).2 (hd_mem hp)]; simp)
  have hl : (wo L ((ks K p).headD 0)).length + 1 = L.length := by
    have e : wo L ((ks K p).headD 0) = L.erase ((ks K p).headD 0) := (List.Nodup.erase_eq_filter h.nd _).symm
    rw [e, List.length_erase_of_mem hm]
    have := List.length_pos_of_mem hm
    omega
  refine ⟨⟨nodup_wo _ _ h.nd, fun j => ?_, ?_⟩, hl, by rw [e, if_pos rfl]⟩
  · rw [mem_wo, e, h.mem]
    by_cases q : j = (ks K p).headD 0
    · rw [if_pos q]
      exact ⟨fun z => absurd q z.2, fun z => absurd rfl z⟩
    · rw [if_neg q]
      exact ⟨fun z => z.1, fun z => ⟨z, q⟩⟩
  · have := tot_set K p (ks K p).tail (ks_lt (hd_mem hp))
    have h2 := List.length_pos_iff.2 hp
    rw [List.length_tail] at this
    have := h.len
    omega

theorem li_queue {K : Ks} {L : List Int} (c : Int) (a : Al K) (kn : K.length = 3 + 1) (h : LI K L) : (quE 3 K c = 0 ∧ LI (quK 3 K c) (L ++ [quN 3 K c])) ∨ (quE 3 K c ≠ 0 ∧ quK 3 K c = K) := by
  unfold quE quK quN
  cases e : pc 3 c with
  | none => exact Or.inr ⟨by simp, rfl⟩
  | some k =>
    have kl := pc_lt e
    cases x : nx K with
    | none => exact Or.inr ⟨by simp [tE], rfl⟩
    | some i =>
      obtain ⟨h1, h2⟩ := nx_some x
      exact Or.inl ⟨by simp [tE], li_push a h (by omega) h2 (by omega) (by omega)⟩
theorem li_take {K : Ks} {L : List Int} (c : Int) (a : Al K) (h : LI K L) : (taE 3 K c = 0 ∧ LI (taK 3 K c) (wo L (taN 3 K c)) ∧ (wo L (taN 3 K c)).length + 1 = L.length ∧ haB (taK 3 K c) (taN 3 K c) = false ∧ 1 ≤ taN 3 K c ∧ taN 3 K c ≤ 32) ∨ (taE 3 K c ≠ 0 ∧ taK 3 K c = K) := by
  unfold taE taK taN
  cases e : isc 3 c with
  | false => exact Or.inr ⟨by simp, by simp⟩
  | true =>
    rw [if_pos rfl, if_pos rfl, if_pos rfl]
    by_cases q : ks K (taP 3 K c) = []
    · exact Or.inr ⟨by rw [show fE (ks K (taP 3 K c)) = 12 from if_pos q]; decide, set_same K _ _ (by rw [q]; rfl)⟩
    · obtain ⟨l1, l2, l3⟩ := li_pop a h q
      have := a.rg _ _ (hd_mem q)
      exact Or.inl ⟨if_neg q, l1, l2, by unfold haB; rw [l3]; rfl, this.1, this.2⟩
theorem li_load {K : Ks} (kn : K.length = 3 + 1) : (wlL 3 K 0).length + (wlL 3 K 1).length + (wlL 3 K 2).length + (wlL 3 K (-1)).length = tot K := by
  match K, kn with
  | [A, B, C, D], _ =>
    show A.length + B.length + C.length + D.length = tot [A, B, C, D]
    simp [tot]
    omega

theorem gwo_snoc (xs : List Int) (x n : Int) : wo (xs ++ [x]) n = if x = n then wo xs n else wo xs n ++ [x] := by
  unfold wo
  rw [List.filter_append]
  by_cases h : x = n <;> simp [h]

/-- The lists of works, and a list of numbers beside them. -/
structure GM (w wr : World) (s : Nat) (K : Ks) (v : Value) (L : List Int) : Prop where
  x : GX wr s 3 K
  own : wr.ownsRow (s + 13) 3 1 v L.length (L.map (Value.int .i64))
  bel : Below s w wr

theorem GM.hi {w wr : World} {s : Nat} {K : Ks} {v : Value} {L : List Int} (h : GM w wr s K v L) : s + 13 ≤ wr.heap.size := h.x.hi
theorem GM.act {w wr w1 : World} {s : Nat} {K K' : Ks} {v : Value} {L : List Int} (h : GM w wr s K v L) (q : GX w1 s 3 K') (f : Fr wr.heap.size (gz s 3) wr w1) : GM w w1 s K' v L :=
  ⟨q, owns_keep h.own f (Nat.le_refl _) fun k hk => by have := ((mem_gz s 3 k).1 hk).2; omega, (gz_below h.bel f (by have := h.hi; omega) (Nat.le_refl _)).1⟩
theorem GM.keep {w wr w1 : World} {s : Nat} {K : Ks} {v : Value} {L : List Int} (h : GM w wr s K v L) (f : Below wr.heap.size wr w1) : GM w w1 s K v L :=
  ⟨h.x.below f, owns_keep h.own (Fr.of_below f) (Nat.le_refl _) (by simp), h.bel.trans (f.mono (by have := h.hi; omega))⟩
theorem GM.app {w wr w1 : World} {s : Nat} {K : Ks} {v v' : Value} {L : List Int} {x : Int} {o : Obj} (h : GM w wr s K v L)
    (hown' : w1.ownsRow (s + 13) 3 1 v' (L.length + 1) (L.map (Value.int .i64) ++ [.int .i64 x])) (hgrow : (wr.alloc o).grownBy w1 v.ownBlock) : GM w w1 s K v' (L ++ [x]) := by
  have hi := h.hi
  have b : Below (s + 13) wr w1 := ((Below.refl _ _).alloc hi o).grown hgrow (by simp; omega) (fun j hj => (h.own.lt j hj).1)
  have gx := h.x
  obtain ⟨W, O, gb, al, oo⟩ := gx
  refine ⟨?_, by simpa using hown', h.bel.trans (b.mono (by omega))⟩
  have f : Fr wr.heap.size (v.ownBlock.toList) wr w1 := ((Fr.refl wr.heap.size _ wr).alloc (Nat.le_refl _) o).grown hgrow (by simp) (fun j hj => Or.inr (by rw [hj]; simp))
  refine h.x.keep f (Nat.le_refl _) fun k _ hk hm => ?_
  cases e : v.ownBlock with
  | none => rw [e] at hm; simp at hm
  | some j =>
    rw [e] at hm
    simp at hm
    have := (h.own.lt j e).1
    omega
/-- The list is another one now, gathered beside. -/
theorem GM.take {w wr w1 : World} {s : Nat} {K : Ks} {v v' : Value} {L L' : List Int} (h : GM w wr s K v L) (g : Gt wr w1 v' L') : GM w w1 s K v' L' :=
  ⟨h.x.below g.bel, own_base g.own h.hi, h.bel.trans (g.bel.mono (by have := h.hi; omega))⟩
theorem GM.read {w wr w1 : World} {s : Nat} {K : Ks} {a : Option Addr} {n cap : Nat} {L : List Int} (h : GM w wr s K (.slice a n cap) L) (hn : L.length = n) (f : Below wr.heap.size wr w1) {k : Nat} (hk : (k : Int) < n) :
    ∃ b, a = some ⟨b, 0, none⟩ ∧ w1.cell? ⟨b, k, none⟩ = some (.int .i64 (L.getD k 0)) := by
  have := (h.keep f).own
  rw [hn] at this
  exact own_cell this hk
end Go.Proofs.YtofdhljgchefgaaDoor
