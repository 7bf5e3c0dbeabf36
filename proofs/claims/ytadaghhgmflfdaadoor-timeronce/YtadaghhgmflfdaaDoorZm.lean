/- Timers on cores: which core each is on, and what is left when one comes, goes, or moves; what the calls answer. No program in it. -/
import Derived.Test.YtadaghhgmflfdaaDoorWo
import Derived.Test.YtadaghhgmflfdaaDoorSl
namespace Go.Proofs.YtadaghhgmflfdaaDoor.Zm
open Wm Sl

abbrev Ks := Nat → List It
def up (K : Ks) (c : Nat) (X : List It) : Ks := fun j => if j = c then X else K j
theorem up_same (K : Ks) (c : Nat) (X : List It) : up K c X c = X := if_pos rfl
theorem up_other {K : Ks} {c j : Nat} (X : List It) (h : j ≠ c) : up K c X j = K j := if_neg h

def has (L : List It) (id : Int) : Bool := (wn L id).isSome
theorem has_mem {L : List It} {id : Int} (h : has L id = true) : ∃ d, (d, id) ∈ L := by
  unfold has at h
  cases e : wn L id with
  | none => rw [e] at h; cases h
  | some d => exact ⟨d, wn_mem e⟩
theorem has_of {L : List It} {x : It} (hx : x ∈ L) : has L x.2 = true := by
  unfold has
  cases e : wn L x.2 with
  | none => exact absurd rfl (wn_none.1 e x hx)
  | some d => rfl
theorem has_no {L : List It} {id : Int} (h : has L id = false) : ∀ y ∈ L, y.2 ≠ id := by
  intro y hy e
  have := has_of hy
  rw [e, h] at this
  cases this
theorem has_ins {L : List It} (u : Uni L) {x : It} (hx : has L x.2 = false) (i : Int) : has (ins x L) i = if i = x.2 then true else has L i := by
  unfold has
  rw [wn_ins u (has_no hx)]
  split <;> rfl
theorem has_rid {L : List It} (u : Uni L) (j i : Int) : has (rid j L) i = if i = j then false else has L i := by
  unfold has
  rw [wn_rid u]
  split <;> rfl

/-- The core that a timer is on. -/
def onc (n : Nat) (K : Ks) (id : Int) : Option Nat := (List.range n).find? fun c => has (K c) id

/-- Each list is as it must be, each timer on one core. -/
structure Al (n : Nat) (K : Ks) : Prop where
  uni : ∀ c, c < n → Uni (K c)
  srt : ∀ c, c < n → Srt (K c)
  one : ∀ c d, c < n → d < n → ∀ id, has (K c) id = true → has (K d) id = true → c = d
  rg : ∀ c, c < n → ∀ id, has (K c) id = true → 1 ≤ id ∧ id ≤ 48

theorem onc_spec {n : Nat} {K : Ks} {id : Int} {c : Nat} (h : onc n K id = some c) : c < n ∧ has (K c) id = true := by
  have h1 := List.find?_some h
  have h2 := List.mem_of_find?_eq_some h
  simp at h1 h2
  exact ⟨h2, h1⟩
theorem onc_none {n : Nat} {K : Ks} {id : Int} : onc n K id = none ↔ ∀ c, c < n → has (K c) id = false := by
  unfold onc
  rw [List.find?_eq_none]
  simp
theorem onc_iff {n : Nat} {K : Ks} (h : Al n K) {id : Int} {c : Nat} : onc n K id = some c ↔ c < n ∧ has (K c) id = true := by
  refine ⟨onc_spec, fun ⟨hc, hi⟩ => ?_⟩
  cases e : onc n K id with
  | none => rw [onc_none.1 e c hc] at hi; cases hi
  | some d =>
    obtain ⟨h1, h2⟩ := onc_spec e
    rw [h.one d c h1 hc id h2 hi]

theorem al_nil (n : Nat) : Al n fun _ => [] :=
  ⟨fun _ _ => List.Pairwise.nil, fun _ _ => List.Pairwise.nil, fun _ _ _ _ id h => by simp [has, wn] at h, fun _ _ id h => by simp [has, wn] at h⟩
theorem onc_nil (n : Nat) (id : Int) : onc n (fun _ => []) id = none := onc_none.2 fun c _ => by simp [has, wn]

/-- One comes. -/
theorem al_ins {n : Nat} {K : Ks} (h : Al n K) {c : Nat} (hc : c < n) {id : Int} (d : Int) (hn : onc n K id = none) (h1 : 1 ≤ id) (h2 : id ≤ 48) :
    Al n (up K c (ins (d, id) (K c))) ∧ ∀ j, onc n (up K c (ins (d, id) (K c))) j = if j = id then some c else onc n K j := by
  have no := onc_none.1 hn
  have m : ∀ e j, e < n → has (up K c (ins (d, id) (K c)) e) j = if e = c ∧ j = id then true else has (K e) j := fun e j he => by
    by_cases q : e = c
    · subst q
      rw [up_same, has_ins (h.uni e he) (no e he)]
      by_cases r : j = id
      · rw [if_pos r, if_pos ⟨rfl, r⟩]
      · rw [if_neg r, if_neg (fun z => r z.2)]
    · rw [up_other _ q, if_neg (fun z => q z.1)]
  have A : Al n (up K c (ins (d, id) (K c))) := by
    refine ⟨fun e he => ?_, fun e he => ?_, fun e f he hf j g1 g2 => ?_, fun e he j g => ?_⟩
    · by_cases q : e = c
      · subst q
        rw [up_same]
        exact uni_ins (h.uni e he) (has_no (no e he))
      · rw [up_other _ q]; exact h.uni e he
    · by_cases q : e = c
      · subst q
        rw [up_same]
        exact srt_ins (h.srt e he) _
      · rw [up_other _ q]; exact h.srt e he
    · rw [m e j he] at g1
      rw [m f j hf] at g2
      by_cases r : j = id
      · subst r
        have k1 : e = c := by
          by_cases q : e = c
          · exact q
          · rw [if_neg (fun z => q z.1), no e he] at g1; cases g1
        have k2 : f = c := by
          by_cases q : f = c
          · exact q
          · rw [if_neg (fun z => q z.1), no f hf] at g2; cases g2
        omega
      · rw [if_neg (fun z => r z.2)] at g1 g2
        exact h.one e f he hf j g1 g2
    · rw [m e j he] at g
      by_cases r : j = id
      · omega
      · rw [if_neg (fun z => r z.2)] at g
        exact h.rg e he j g
  refine ⟨A, fun j => Option.ext fun e => ?_⟩
  rw [onc_iff A]
  by_cases r : j = id
  · subst r
    rw [if_pos rfl]
    constructor
    · rintro ⟨he, g⟩
      rw [m e j he] at g
      by_cases q : e = c
      · rw [q]
      · rw [if_neg (fun z => q z.1), no e he] at g; cases g
    · intro g
      cases g
      exact ⟨hc, by rw [m c j hc, if_pos ⟨rfl, rfl⟩]⟩
  · rw [if_neg r, onc_iff h]
    constructor
    · rintro ⟨he, g⟩
      rw [m e j he, if_neg (fun z => r z.2)] at g
      exact ⟨he, g⟩
    · rintro ⟨he, g⟩
      exact ⟨he, by rw [m e j he, if_neg (fun z => r z.2)]; exact g⟩

/-- One goes. -/
theorem al_rid {n : Nat} {K : Ks} (h : Al n K) {c : Nat} (_ : c < n) {id : Int} (hi : onc n K id = some c) :
    Al n (up K c (rid id (K c))) ∧ ∀ j, onc n (up K c (rid id (K c))) j = if j = id then none else onc n K j := by
  have hi2 := (onc_iff h).1 hi
  have m : ∀ e j, e < n → has (up K c (rid id (K c)) e) j = if j = id then false else has (K e) j := fun e j he => by
    by_cases q : e = c
    · subst q
      rw [up_same, has_rid (h.uni e he)]
    · rw [up_other _ q]
      by_cases r : j = id
      · rw [if_pos r, r]
        cases g : has (K e) id with
        | false => rfl
        | true => exact absurd (h.one e c he hi2.1 id g hi2.2) q
      · rw [if_neg r]
  have A : Al n (up K c (rid id (K c))) := by
    refine ⟨fun e he => ?_, fun e he => ?_, fun e f he hf j g1 g2 => ?_, fun e he j g => ?_⟩
    · by_cases q : e = c
      · subst q
        rw [up_same]
        exact uni_rid (h.uni e he) _
      · rw [up_other _ q]; exact h.uni e he
    · by_cases q : e = c
      · subst q
        rw [up_same]
        exact srt_rid (h.srt e he) _
      · rw [up_other _ q]; exact h.srt e he
    · rw [m e j he] at g1
      rw [m f j hf] at g2
      by_cases r : j = id
      · rw [if_pos r] at g1; cases g1
      · rw [if_neg r] at g1 g2
        exact h.one e f he hf j g1 g2
    · rw [m e j he] at g
      by_cases r : j = id
      · rw [if_pos r] at g; cases g
      · rw [if_neg r] at g
        exact h.rg e he j g
  refine ⟨A, fun j => Option.ext fun e => ?_⟩
  rw [onc_iff A]
  by_cases r : j = id
  · rw [if_pos r]
    constructor
    · rintro ⟨he, g⟩
      rw [m e j he, if_pos r] at g
      cases g
    · intro g; cases g
  · rw [if_neg r, onc_iff h]
    constructor
    · rintro ⟨he, g⟩
      rw [m e j he, if_neg r] at g
      exact ⟨he, g⟩
    · rintro ⟨he, g⟩
      exact ⟨he, by rw [m e j he, if_neg r]; exact g⟩

/-- At most so many, whose numbers go so far. -/
theorem few : ∀ (m : Nat) (L : List It), Srt L → Uni L → (∀ x ∈ L, 1 ≤ x.2 ∧ x.2 ≤ (m : Int)) → L.length ≤ m
  | 0, L, _, _, h => by
    cases L with
    | nil => exact Nat.le_refl _
    | cons x r => have := h x (by simp); omega
  | m + 1, L, s, u, h => by
    have ih := few m (rid ((m : Int) + 1) L) (srt_rid s _) (uni_rid u _) fun x hx => by
      obtain ⟨h1, h2⟩ := mem_rid.1 hx
      have := h x h1
      omega
    cases e : has L ((m : Int) + 1) with
    | true =>
      obtain ⟨d, hd⟩ := has_mem e
      have := rid_len s u hd
      simp only at this
      omega
    | false =>
      rw [rid_none (has_no e)] at ih
      omega
theorem Al.len {n : Nat} {K : Ks} (h : Al n K) {c : Nat} (hc : c < n) : (K c).length ≤ 48 :=
  few 48 (K c) (h.srt c hc) (h.uni c hc) fun x hx => h.rg c hc x.2 (has_of hx)

/-- As the program's map has it, and its table of numbers. -/
def cq (n : Nat) (K : Ks) (id : Int) : Option Int := (onc n K id).map fun c : Nat => (c : Int)
def oc (n : Nat) (K : Ks) (i : Nat) : Bool := (onc n K (i : Int)).isSome
def cnt (O : Nat → Bool) : Nat := (List.range 48).countP fun i => O (i + 1)
theorem cnt_le (O : Nat → Bool) : cnt O ≤ 48 := by
  have := List.countP_le_length (p := fun i => O (i + 1)) (l := List.range 48)
  rw [List.length_range] at this
  exact this
theorem cp (p q : Nat → Bool) (k : Nat) (h : ∀ j, j ≠ k → p j = q j) (hp : p k = true) (hq : q k = false) : ∀ N, (List.range N).countP p = (List.range N).countP q + if k < N then 1 else 0
  | 0 => rfl
  | N + 1 => by
    have ih := cp p q k h hp hq N
    rw [List.range_succ, List.countP_append, List.countP_append, ih, List.countP_singleton, List.countP_singleton]
    by_cases e : N = k
    · subst e
      rw [hp, hq]
      simp
    · rw [h N e]
      generalize (if q N = true then 1 else 0) = z
      by_cases g : k < N
      · have g2 : k < N + 1 := by omega
        simp only [if_pos g, if_pos g2]; omega
      · have g2 : ¬ k < N + 1 := by omega
        simp only [if_neg g, if_neg g2]; omega
theorem cnt_in {O P : Nat → Bool} {k : Nat} (h1 : 1 ≤ k) (h2 : k ≤ 48) (h : ∀ j, j ≠ k → P j = O j) (hp : P k = true) (hq : O k = false) : cnt P = cnt O + 1 := by
  have := cp (fun i => P (i + 1)) (fun i => O (i + 1)) (k - 1) (fun j hj => h (j + 1) (by omega)) (by show P (k - 1 + 1) = true; rw [show k - 1 + 1 = k by omega]; exact hp) (by show O (k - 1 + 1) = false; rw [show k - 1 + 1 = k by omega]; exact hq) 48
  rw [if_pos (by omega)] at this
  exact this
theorem cnt_ext {O P : Nat → Bool} (h : ∀ j, O j = P j) : cnt O = cnt P := by rw [show O = P from funext h]

theorem cq_none {n : Nat} {K : Ks} {id : Int} : cq n K id = none ↔ onc n K id = none := by
  unfold cq
  rw [Option.map_eq_none_iff]
theorem ff_ext {O P : Nat → Bool} (m : Nat) (h : ∀ i, 1 ≤ i → i ≤ m → O i = P i) : ff m O = ff m P := by
  unfold ff
  have : ∀ l : List Nat, (∀ c ∈ l, c < m) → l.find? (fun i => !O (i + 1)) = l.find? (fun i => !P (i + 1)) := by
    intro l
    induction l with
    | nil => intro _; rfl
    | cons a r ih =>
      intro hl
      have := hl a (by simp)
      rw [List.find?_cons, List.find?_cons, ih fun c hc => hl c (List.mem_cons_of_mem _ hc), h (a + 1) (by omega) (by omega)]
  exact this _ (by simp)
theorem ff_spec {O : Nat → Bool} {m i : Nat} (h : ff m O = some i) : i < m ∧ O (i + 1) = false := by
  have h1 := List.find?_some h
  have h2 := List.mem_of_find?_eq_some h
  simp at h1 h2
  exact ⟨h2, h1⟩

/-- Is there such a core? -/
def isC (n : Nat) (c : Int) : Prop := 0 ≤ c ∧ c < n
instance (n : Nat) (c : Int) : Decidable (isC n c) := by unfold isC; exact inferInstance

/-- What Arm answers and leaves, if there is the core, and the tick is one. -/
def arK (n : Nat) (K : Ks) (c : Nat) (d : Int) : Ks := match ff 48 (oc n K) with | some i => up K c (ins (d, ((i + 1 : Nat) : Int)) (K c)) | none => K
def caK (n : Nat) (K : Ks) (id : Int) : Ks := match onc n K id with | some c => up K c (rid id (K c)) | none => K
def caE (n : Nat) (K : Ks) (id : Int) : Int := if (onc n K id).isSome = true then 0 else 4
def fiN (now : Int) (L : List It) : Int := match duL now L with | [] => 0 | x :: _ => x.2
def fiE (now : Int) (L : List It) : Int := match duL now L with | [] => 12 | _ :: _ => 0
def fiK (now : Int) (K : Ks) (c : Nat) : Ks := match duL now (K c) with | [] => K | x :: _ => up K c (rid x.2 (K c))
end Go.Proofs.YtadaghhgmflfdaaDoor.Zm
