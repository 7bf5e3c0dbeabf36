/- Things on cores: which core each is on, and what is left when one comes, goes, or moves. No program in it. -/
import Derived.Test.YtpmjojemcpgpiaaDoorXm
namespace Go.Proofs.YtpmjojemcpgpiaaDoor
open Fm Qm

abbrev Ks := Nat → Its
def up (K : Ks) (c : Nat) (X : Its) : Ks := fun j => if j = c then X else K j
theorem up_same (K : Ks) (c : Nat) (X : Its) : up K c X c = X := if_pos rfl
theorem up_other {K : Ks} {c j : Nat} (X : Its) (h : j ≠ c) : up K c X j = K j := if_neg h

/-- The core that a thing is on. -/
def onc (n : Nat) (K : Ks) (id : Int) : Option Nat := (List.range n).find? fun c => decide (id ∈ ids (K c))

/-- Each queue is as it must be, and each thing on one core. -/
structure Al (n : Nat) (K : Ks) : Prop where
  ok : ∀ c, c < n → Ok 32 (K c)
  one : ∀ c d, c < n → d < n → ∀ id, id ∈ ids (K c) → id ∈ ids (K d) → c = d
  wf : ∀ c, c < n → ∀ id ∈ ids (K c), (Lit.int .i64 id).wf = true

theorem onc_spec {n : Nat} {K : Ks} {id : Int} {c : Nat} (h : onc n K id = some c) : c < n ∧ id ∈ ids (K c) := by
  have h1 := List.find?_some h
  have h2 := List.mem_of_find?_eq_some h
  simp at h1 h2
  exact ⟨h2, h1⟩
theorem onc_none {n : Nat} {K : Ks} {id : Int} : onc n K id = none ↔ ∀ c, c < n → id ∉ ids (K c) := by
  unfold onc
  rw [List.find?_eq_none]
  simp
theorem onc_some {n : Nat} {K : Ks} (h : Al n K) {c : Nat} (hc : c < n) {id : Int} (hi : id ∈ ids (K c)) : onc n K id = some c := by
  cases e : onc n K id with
  | none => exact absurd hi (onc_none.1 e c hc)
  | some d =>
    obtain ⟨h1, h2⟩ := onc_spec e
    rw [h.one d c h1 hc id h2 hi]
theorem onc_ext {n : Nat} {K K' : Ks} {id : Int} (h : ∀ c, c < n → (id ∈ ids (K' c) ↔ id ∈ ids (K c))) : onc n K' id = onc n K id := by
  unfold onc
  have : ∀ l : List Nat, (∀ c ∈ l, c < n) → l.find? (fun c => decide (id ∈ ids (K' c))) = l.find? (fun c => decide (id ∈ ids (K c))) := by
    intro l
    induction l with
    | nil => intro _; rfl
    | cons a r ih =>
      intro hl
      rw [List.find?_cons, List.find?_cons, ih fun c hc => hl c (List.mem_cons_of_mem _ hc)]
      have := h a (hl a (by simp))
      by_cases c : id ∈ ids (K a)
      · rw [decide_eq_true c, decide_eq_true (this.2 c)]
      · rw [decide_eq_false c, decide_eq_false (fun q => c (this.1 q))]
  exact this _ (by simp)

def whN (n : Nat) (K : Ks) (id : Int) : Int := ((onc n K id).map fun c : Nat => (c : Int)).getD 0
def whB (n : Nat) (K : Ks) (id : Int) : Bool := (onc n K id).isSome

/-- Is there such a core? -/
def isC (n : Nat) (c : Int) : Prop := 0 ≤ c ∧ c < n
instance (n : Nat) (c : Int) : Decidable (isC n c) := by unfold isC; exact inferInstance

/-- The same things on a core in another order. -/
theorem al_same {n : Nat} {K : Ks} (h : Al n K) {c : Nat} {X : Its} (hc : c < n) (ok : Ok 32 X) (e : ∀ id, id ∈ ids X ↔ id ∈ ids (K c)) : Al n (up K c X) ∧ onc n (up K c X) = onc n K := by
  have m : ∀ d id, id ∈ ids (up K c X d) ↔ id ∈ ids (K d) := fun d id => by
    by_cases q : d = c
    · subst q; rw [up_same]; exact e id
    · rw [up_other X q]
  refine ⟨⟨fun d hd => ?_, fun d d' hd hd' id h1 h2 => h.one d d' hd hd' id ((m d id).1 h1) ((m d' id).1 h2), fun d hd id hi => h.wf d hd id ((m d id).1 hi)⟩, funext fun id => onc_ext fun d _ => m d id⟩
  by_cases q : d = c
  · subst q; rw [up_same]; exact ok
  · rw [up_other X q]; exact h.ok d hd

def setO (f : Int → Option Nat) (id : Int) (o : Option Nat) : Int → Option Nat := fun j => if j = id then o else f j

theorem ids_bk {m : Nat} {X : Its} (_ : Ok m X) (n : Int) (id : Int) : id ∈ ids (bkX X n) ↔ id ∈ ids X := by
  unfold bkX
  split
  · rename_i c
    rw [ids_push, ids_del, List.mem_append]
    constructor
    · rintro (q | q)
      · exact (List.mem_filter.1 q).1
      · simp at q; subst q; exact c
    · intro q
      by_cases e : id = n
      · exact Or.inr (by simp [e])
      · exact Or.inl (List.mem_filter.2 ⟨q, by simpa using e⟩)
  · exact Iff.rfl
theorem ids_tn {m : Nat} {X : Its} (h : Ok m X) (id : Int) : id ∈ ids (tnX X) ↔ id ∈ ids X := by
  unfold tnX
  split
  · exact Iff.rfl
  · exact ids_bk h _ id

/-- One more on a core. -/
theorem al_push {n : Nat} {K : Ks} (h : Al n K) {c : Nat} (hc : c < n) {p id : Int} (hw : (Lit.int .i64 id).wf = true) (hn : onc n K id = none) (ok : Ok 32 (K c ++ [(p, id)])) :
    Al n (up K c (K c ++ [(p, id)])) ∧ onc n (up K c (K c ++ [(p, id)])) = setO (onc n K) id (some c) := by
  have m : ∀ d j, j ∈ ids (up K c (K c ++ [(p, id)]) d) ↔ j ∈ ids (K d) ∨ (d = c ∧ j = id) := fun d j => by
    by_cases q : d = c
    · subst q; rw [up_same, ids_push]; simp
    · rw [up_other _ q]; simp [q]
  have a : Al n (up K c (K c ++ [(p, id)])) := by
    refine ⟨fun d hd => ?_, fun d d' hd hd' j h1 h2 => ?_, fun d hd j hj => ?_⟩
    · by_cases q : d = c
      · subst q; rw [up_same]; exact ok
      · rw [up_other _ q]; exact h.ok d hd
    · rcases (m d j).1 h1 with g1 | ⟨e1, g1⟩ <;> rcases (m d' j).1 h2 with g2 | ⟨e2, g2⟩
      · exact h.one d d' hd hd' j g1 g2
      · subst g2; exact absurd g1 (onc_none.1 hn d hd)
      · subst g1; exact absurd g2 (onc_none.1 hn d' hd')
      · rw [e1, e2]
    · rcases (m d j).1 hj with g | ⟨_, g⟩
      · exact h.wf d hd j g
      · subst g; exact hw
  refine ⟨a, funext fun j => ?_⟩
  unfold setO
  by_cases e : j = id
  · rw [if_pos e]
    exact onc_some a hc ((m c j).2 (Or.inr ⟨rfl, e⟩))
  · rw [if_neg e]
    exact onc_ext fun d _ => by rw [m d j]; simp [e]

/-- One fewer on its core. -/
theorem al_del {n : Nat} {K : Ks} (h : Al n K) {c : Nat} (hc : c < n) {id : Int} (hi : id ∈ ids (K c)) :
    Al n (up K c (del (K c) id)) ∧ onc n (up K c (del (K c) id)) = setO (onc n K) id none := by
  have m : ∀ d, d < n → ∀ j, j ∈ ids (up K c (del (K c) id) d) ↔ j ∈ ids (K d) ∧ j ≠ id := fun d hd j => by
    by_cases q : d = c
    · subst q
      rw [up_same, ids_del]
      unfold wo
      rw [List.mem_filter]
      simp
    · rw [up_other _ q]
      constructor
      · intro g
        refine ⟨g, fun e => ?_⟩
        subst e
        exact q (h.one d c hd hc j g hi)
      · exact fun g => g.1
  have a : Al n (up K c (del (K c) id)) := by
    refine ⟨fun d hd => ?_, fun d d' hd hd' j h1 h2 => h.one d d' hd hd' j ((m d hd j).1 h1).1 ((m d' hd' j).1 h2).1, fun d hd j hj => h.wf d hd j ((m d hd j).1 hj).1⟩
    by_cases q : d = c
    · subst q; rw [up_same]; exact ok_del (h.ok d hd) id
    · rw [up_other _ q]; exact h.ok d hd
  refine ⟨a, funext fun j => ?_⟩
  unfold setO
  by_cases e : j = id
  · rw [if_pos e]
    exact onc_none.2 fun d hd g => ((m d hd j).1 g).2 e
  · rw [if_neg e]
    exact onc_ext fun d hd => by rw [m d hd j]; simp [e]

/-- From one core to another one: what is pushed there first is dropped here. -/
theorem al_move {n : Nat} {K : Ks} (h : Al n K) {c d : Nat} (hc : c < n) (hd : d < n) (hne : c ≠ d) {p id : Int} (hi : id ∈ ids (K c)) (ok : Ok 32 (K d ++ [(p, id)])) :
    Al n (up (up K d (K d ++ [(p, id)])) c (del (K c) id)) ∧ onc n (up (up K d (K d ++ [(p, id)])) c (del (K c) id)) = setO (onc n K) id (some d) := by
  have m : ∀ e, e < n → ∀ j, j ∈ ids (up (up K d (K d ++ [(p, id)])) c (del (K c) id) e) ↔ (j ∈ ids (K e) ∧ j ≠ id) ∨ (e = d ∧ j = id) := fun e he j => by
    by_cases q : e = c
    · subst q
      rw [up_same, ids_del]
      unfold wo
      rw [List.mem_filter]
      simp [hne]
    · rw [up_other _ q]
      by_cases q2 : e = d
      · subst q2
        rw [up_same, ids_push, List.mem_append]
        constructor
        · rintro (g | g)
          · exact Or.inl ⟨g, fun e2 => by subst e2; exact q (h.one e c he hc j g hi)⟩
          · exact Or.inr ⟨rfl, by simpa using g⟩
        · rintro (⟨g, _⟩ | ⟨_, g⟩)
          · exact Or.inl g
          · exact Or.inr (by simp [g])
      · rw [up_other _ q2]
        constructor
        · intro g
          exact Or.inl ⟨g, fun e2 => by subst e2; exact q (h.one e c he hc j g hi)⟩
        · rintro (⟨g, _⟩ | ⟨g, _⟩)
          · exact g
          · exact absurd g q2
  have a : Al n (up (up K d (K d ++ [(p, id)])) c (del (K c) id)) := by
    refine ⟨fun e he => ?_, fun e e' he he' j h1 h2 => ?_, fun e he j hj => ?_⟩
    · by_cases q : e = c
      · subst q; rw [up_same]; exact ok_del (h.ok e he) id
      · rw [up_other _ q]
        by_cases q2 : e = d
        · subst q2; rw [up_same]; exact ok
        · rw [up_other _ q2]; exact h.ok e he
    · rcases (m e he j).1 h1 with ⟨g1, f1⟩ | ⟨e1, g1⟩ <;> rcases (m e' he' j).1 h2 with ⟨g2, f2⟩ | ⟨e2, g2⟩
      · exact h.one e e' he he' j g1 g2
      · exact absurd g2 f1
      · exact absurd g1 f2
      · rw [e1, e2]
    · rcases (m e he j).1 hj with ⟨g, _⟩ | ⟨_, g⟩
      · exact h.wf e he j g
      · subst g; exact h.wf c hc j hi
  refine ⟨a, funext fun j => ?_⟩
  unfold setO
  by_cases e : j = id
  · rw [if_pos e]
    exact onc_some a hd ((m d hd j).2 (Or.inr ⟨rfl, e⟩))
  · rw [if_neg e]
    exact onc_ext fun x hx => by rw [m x hx j]; simp [e]
end Go.Proofs.YtpmjojemcpgpiaaDoor
