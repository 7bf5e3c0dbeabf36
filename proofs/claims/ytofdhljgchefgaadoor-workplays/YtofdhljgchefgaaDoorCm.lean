/- Numbers from 1 to 32 in lists, each in one list at most: which list each is in, and what is left when one comes, goes or moves; what the calls of works and of calls answer. No program in it. -/
import Derived.Test.YtofdhljgchefgaaDoorFm
import Derived.Test.YtofdhljgchefgaaDoorSl
namespace Go.Proofs.YtofdhljgchefgaaDoor.Cm
open Fm Sl

abbrev Ks := List (List Int)
def ks (K : Ks) (c : Nat) : List Int := K.getD c []
theorem ks_set (K : Ks) (c i : Nat) (X : List Int) (hc : c < K.length) : ks (K.set c X) i = if i = c then X else ks K i := by
  unfold ks
  rw [List.getD_eq_getElem?_getD, List.getElem?_set]
  by_cases e : c = i
  · subst e
    simp [hc]
  · rw [if_neg e, if_neg (fun g => e g.symm), List.getD_eq_getElem?_getD]
theorem ks_lt {K : Ks} {c : Nat} {id : Int} (h : id ∈ ks K c) : c < K.length := by
  rcases Nat.lt_or_ge c K.length with q | q
  · exact q
  · unfold ks at h
    rw [List.getD_eq_getElem?_getD, List.getElem?_eq_none q] at h
    simp at h
theorem ks_nil (n c : Nat) : ks (List.replicate n []) c = [] := by
  unfold ks
  rw [List.getD_eq_getElem?_getD, List.getElem?_replicate]
  split <;> rfl
theorem set_same (K : Ks) (c : Nat) (X : List Int) (h : ks K c = X) : K.set c X = K := by
  apply List.ext_getElem?
  intro i
  rw [List.getElem?_set]
  by_cases e : c = i
  · subst e
    unfold ks at h
    rw [List.getD_eq_getElem?_getD] at h
    rw [if_pos rfl]
    split
    · rename_i q
      rw [List.getElem?_eq_getElem q] at h ⊢
      simp at h
      rw [h]
    · rename_i q
      rw [List.getElem?_eq_none (by omega)]
  · rw [if_neg e]

/-- The list that a number is in. -/
def onc (K : Ks) (id : Int) : Option Nat := (List.range K.length).find? fun c => decide (id ∈ ks K c)
def oc (K : Ks) (i : Nat) : Bool := (onc K (i : Int)).isSome

/-- Each number is in one list at most, and once. -/
structure Al (K : Ks) : Prop where
  nd : ∀ c, (ks K c).Nodup
  one : ∀ c d id, id ∈ ks K c → id ∈ ks K d → c = d
  rg : ∀ c, ∀ id ∈ ks K c, 1 ≤ id ∧ id ≤ 32

theorem onc_spec {K : Ks} {id : Int} {c : Nat} (h : onc K id = some c) : id ∈ ks K c := by
  have := List.find?_some h
  simpa using this
theorem onc_none {K : Ks} {id : Int} : onc K id = none ↔ ∀ c, id ∉ ks K c := by
  unfold onc
  rw [List.find?_eq_none]
  constructor
  · intro h c hc
    have := h c (List.mem_range.2 (ks_lt hc))
    simp [hc] at this
  · intro h c _
    simp [h c]
theorem onc_iff {K : Ks} (h : Al K) {id : Int} {c : Nat} : onc K id = some c ↔ id ∈ ks K c := by
  refine ⟨onc_spec, fun hi => ?_⟩
  cases e : onc K id with
  | none => exact absurd hi (onc_none.1 e c)
  | some d => rw [h.one d c id (onc_spec e) hi]
theorem oc_false {K : Ks} {i : Nat} : oc K i = false ↔ onc K (i : Int) = none := by
  unfold oc
  cases onc K (i : Int) <;> simp
/-- The first list that has it, as one looks for it. -/
theorem onc_at {K : Ks} {id : Int} {c : Nat} (hc : id ∈ ks K c) (hb : ∀ d, d < c → id ∉ ks K d) : onc K id = some c := by
  unfold onc
  rw [List.find?_range_eq_some]
  refine ⟨by simpa using hc, List.mem_range.2 (ks_lt hc), fun j hj => ?_⟩
  simp [hb j hj]

theorem al_nil (n : Nat) : Al (List.replicate n []) := by
  refine ⟨fun c => ?_, fun c d id h => ?_, fun c id h => ?_⟩
  · rw [ks_nil]; exact List.Pairwise.nil
  · rw [ks_nil] at h; simp at h
  · rw [ks_nil] at h; simp at h
theorem onc_nil (n : Nat) (id : Int) : onc (List.replicate n []) id = none := onc_none.2 fun c => by rw [ks_nil]; simp
theorem oc_nil (n : Nat) : oc (List.replicate n []) = fun _ => false := funext fun i => by rw [oc_false]; exact onc_nil n _

/-- One comes. -/
theorem al_push {K : Ks} (h : Al K) {c : Nat} (hc : c < K.length) {id : Int} (hn : onc K id = none) (h1 : 1 ≤ id) (h2 : id ≤ 32) :
    Al (K.set c (ks K c ++ [id])) ∧ ∀ j, onc (K.set c (ks K c ++ [id])) j = if j = id then some c else onc K j := by
  have no := onc_none.1 hn
  have m : ∀ e j, j ∈ ks (K.set c (ks K c ++ [id])) e ↔ j ∈ ks K e ∨ (e = c ∧ j = id) := fun e j => by
    rw [ks_set _ _ _ _ hc]
    by_cases q : e = c
    · subst q
      simp
    · simp [q]
  have A : Al (K.set c (ks K c ++ [id])) := by
    refine ⟨fun e => ?_, fun e f j g1 g2 => ?_, fun e j g => ?_⟩
    · rw [ks_set _ _ _ _ hc]
      split
      · rw [List.nodup_append]
        refine ⟨h.nd c, List.nodup_cons.2 ⟨by simp, List.Pairwise.nil⟩, fun a ha b hb => ?_⟩
        simp at hb
        subst hb
        exact fun e => no c (e ▸ ha)
      · exact h.nd e
    · rcases (m e j).1 g1 with g1 | ⟨r1, r2⟩ <;> rcases (m f j).1 g2 with g2 | ⟨s1, s2⟩
      · exact h.one e f j g1 g2
      · exact absurd (s2 ▸ g1) (no e)
      · exact absurd (r2 ▸ g2) (no f)
      · omega
    · rcases (m e j).1 g with g | ⟨_, r⟩
      · exact h.rg e j g
      · omega
  refine ⟨A, fun j => Option.ext fun e => ?_⟩
  rw [onc_iff A, m]
  by_cases r : j = id
  · subst r
    simp [no e]
    exact ⟨fun z => z.symm, fun z => z.symm⟩
  · rw [if_neg r, onc_iff h]
    simp [r]

theorem mem_wo (L : List Int) (n j : Int) : j ∈ wo L n ↔ j ∈ L ∧ j ≠ n := by
  unfold wo
  rw [List.mem_filter]
  simp

/-- One goes. -/
theorem al_del {K : Ks} (h : Al K) {c : Nat} {id : Int} (hi : id ∈ ks K c) :
    Al (K.set c (wo (ks K c) id)) ∧ ∀ j, onc (K.set c (wo (ks K c) id)) j = if j = id then none else onc K j := by
  have hc := ks_lt hi
  have m : ∀ e j, j ∈ ks (K.set c (wo (ks K c) id)) e ↔ j ∈ ks K e ∧ j ≠ id := fun e j => by
    rw [ks_set _ _ _ _ hc]
    by_cases q : e = c
    · subst q
      rw [if_pos rfl, mem_wo]
    · rw [if_neg q]
      refine ⟨fun g => ⟨g, fun r => q ?_⟩, fun g => g.1⟩
      subst r
      exact h.one e c j g hi
  have A : Al (K.set c (wo (ks K c) id)) := by
    refine ⟨fun e => ?_, fun e f j g1 g2 => ?_, fun e j g => ?_⟩
    · rw [ks_set _ _ _ _ hc]
      split
      · exact nodup_wo _ _ (h.nd c)
      · exact h.nd e
    · exact h.one e f j ((m e j).1 g1).1 ((m f j).1 g2).1
    · exact h.rg e j ((m e j).1 g).1
  refine ⟨A, fun j => Option.ext fun e => ?_⟩
  rw [onc_iff A, m]
  by_cases r : j = id
  · rw [if_pos r]
    simp [r]
  · rw [if_neg r, onc_iff h]
    simp [r]

theorem wo_hd {L : List Int} (h : L.Nodup) (hp : L ≠ []) : wo L (L.headD 0) = L.tail := by
  cases L with
  | nil => exact absurd rfl hp
  | cons a t => exact wo_head t a h
theorem hd_mem {L : List Int} (hp : L ≠ []) : L.headD 0 ∈ L := by
  cases L with
  | nil => exact absurd rfl hp
  | cons a t => simp
/-- The first one goes. -/
theorem al_pop {K : Ks} (h : Al K) {c : Nat} (hp : ks K c ≠ []) :
    Al (K.set c (ks K c).tail) ∧ ∀ j, onc (K.set c (ks K c).tail) j = if j = (ks K c).headD 0 then none else onc K j := by
  have := al_del h (hd_mem hp)
  rwa [wo_hd (h.nd c) hp] at this

/-- The first one of a list behind all of another one. -/
def mv (K : Ks) (a b : Nat) : Ks := if ks K a = [] then K else (K.set a (ks K a).tail).set b (ks K b ++ [(ks K a).headD 0])
theorem mv_len (K : Ks) (a b : Nat) : (mv K a b).length = K.length := by
  unfold mv
  split <;> simp
theorem al_move {K : Ks} (h : Al K) {a b : Nat} (hb : b < K.length) (hn : a ≠ b) (hp : ks K a ≠ []) :
    Al ((K.set a (ks K a).tail).set b (ks K b ++ [(ks K a).headD 0])) ∧ ∀ j, onc ((K.set a (ks K a).tail).set b (ks K b ++ [(ks K a).headD 0])) j = if j = (ks K a).headD 0 then some b else onc K j := by
  obtain ⟨A1, e1⟩ := al_pop h hp
  have hr := h.rg a _ (hd_mem hp)
  have ha := ks_lt (hd_mem hp)
  have eb : ks (K.set a (ks K a).tail) b = ks K b := by rw [ks_set _ _ _ _ ha, if_neg (fun q => hn q.symm)]
  obtain ⟨A2, e2⟩ := al_push A1 (c := b) (by simpa using hb) (id := (ks K a).headD 0) (by rw [e1, if_pos rfl]) hr.1 hr.2
  rw [eb] at A2 e2
  refine ⟨A2, fun j => ?_⟩
  rw [e2, e1]
  split <;> rfl

/-- No more than there are numbers. -/
theorem few : ∀ (m : Nat) (L : List Int), L.Nodup → (∀ x ∈ L, 1 ≤ x ∧ x ≤ (m : Int)) → L.length ≤ m
  | 0, L, _, h => by
    cases L with
    | nil => simp
    | cons a t => have := h a (by simp); omega
  | m + 1, L, hn, h => by
    have ih := few m (wo L ((m : Int) + 1)) (nodup_wo _ _ hn) fun x hx => by
      obtain ⟨h1, h2⟩ := (mem_wo _ _ _).1 hx
      have := h x h1
      omega
    by_cases q : ((m : Int) + 1) ∈ L
    · have e : wo L ((m : Int) + 1) = L.erase ((m : Int) + 1) := (List.Nodup.erase_eq_filter hn _).symm
      rw [e, List.length_erase_of_mem q] at ih
      omega
    · rw [wo_miss _ _ q] at ih
      omega
theorem Al.len {K : Ks} (h : Al K) (c : Nat) : (ks K c).length ≤ 32 := few 32 _ (h.nd c) (h.rg c)
theorem Al.room {K : Ks} (h : Al K) {id : Int} (hn : onc K id = none) (h1 : 1 ≤ id) (h2 : id ≤ 32) {c : Nat} (hc : c < K.length) : (ks K c).length < 32 := by
  have := (al_push h hc hn h1 h2).1.len c
  rw [ks_set _ _ _ _ hc, if_pos rfl] at this
  simp at this
  omega
theorem push_ok {L : List Int} {id : Int} (hn : id ∉ L) (hl : L.length < 32) : pE 32 L id = 0 ∧ pL 32 L id = L ++ [id] := by
  unfold pE pL
  rw [if_neg hn, if_neg hn, if_neg (by omega), if_neg (by omega)]
  exact ⟨rfl, rfl⟩

/-- How many there are. -/
def cnt (O : Nat → Bool) : Nat := (List.range 32).countP fun i => O (i + 1)
theorem cnt_le (O : Nat → Bool) : cnt O ≤ 32 := by
  have := List.countP_le_length (p := fun i => O (i + 1)) (l := List.range 32)
  rwa [List.length_range] at this
theorem cnt_go {O P : Nat → Bool} {k : Nat} (h : ∀ j, j ≠ k → P j = O j) (hp : P k = true) (hq : O k = false) : ∀ m, (List.range m).countP (fun i => P (i + 1)) = (List.range m).countP (fun i => O (i + 1)) + if 1 ≤ k ∧ k ≤ m then 1 else 0
  | 0 => by
    rw [if_neg (by omega)]
    rfl
  | m + 1 => by
    rw [List.range_succ, List.countP_append, List.countP_append, cnt_go h hp hq m]
    by_cases e : m + 1 = k
    · subst e
      rw [if_neg (by omega), if_pos (by omega)]
      simp [hp, hq]
    · rw [show List.countP (fun i => P (i + 1)) [m] = List.countP (fun i => O (i + 1)) [m] by simp [List.countP_singleton, h _ e]]
      by_cases q : 1 ≤ k ∧ k ≤ m
      · rw [if_pos q, if_pos (by omega)]
        omega
      · rw [if_neg q, if_neg (by omega)]
        omega
theorem cnt_in {O P : Nat → Bool} {k : Nat} (h1 : 1 ≤ k) (h2 : k ≤ 32) (h : ∀ j, j ≠ k → P j = O j) (hp : P k = true) (hq : O k = false) : cnt P = cnt O + 1 := by
  have := cnt_go h hp hq 32
  rw [if_pos ⟨h1, h2⟩] at this
  exact this

/- The answers. -/
def isc (n : Nat) (c : Int) : Bool := decide (0 ≤ c ∧ c < n)
theorem isc_true {n : Nat} {c : Int} (h : isc n c = true) : 0 ≤ c ∧ c < n := of_decide_eq_true h
theorem isc_nat {n : Nat} {c : Int} (h : isc n c = true) : ∃ k : Nat, c = (k : Int) ∧ k < n ∧ (k : Int) < n := by
  have := isc_true h
  exact ⟨c.toNat, by omega, by omega, by omega⟩
theorem isc_false {n : Nat} {c : Int} (h : isc n c = false) : c < 0 ∨ (0 ≤ c ∧ (n : Int) ≤ c) := by
  have := of_decide_eq_false h
  omega
/-- The next number. -/
def nx (K : Ks) : Option Nat := ff 32 (oc K)
def psh (K : Ks) (k : Nat) : Option Nat → Ks
  | some i => K.set k (ks K k ++ [((i + 1 : Nat) : Int)])
  | none => K
theorem psh_len (K : Ks) (k : Nat) (o : Option Nat) : (psh K k o).length = K.length := by
  cases o <;> simp [psh]
theorem nx_some {K : Ks} {i : Nat} (h : nx K = some i) : i < 32 ∧ onc K ((i + 1 : Nat) : Int) = none := by
  have h1 := List.find?_some h
  have h2 := List.mem_of_find?_eq_some h
  simp only [Bool.not_eq_true'] at h1
  exact ⟨List.mem_range.1 h2, oc_false.1 h1⟩
theorem nx_is {K : Ks} {i : Nat} (hi : i < 32) (h : onc K ((i + 1 : Nat) : Int) = none) (g : ∀ j, j < i → onc K ((j + 1 : Nat) : Int) ≠ none) : nx K = some i :=
  ff_some 32 _ i hi (oc_false.2 h) fun j hj => by
    cases e : oc K (j + 1) with
    | true => rfl
    | false => exact absurd (oc_false.1 e) (g j hj)
theorem nx_none {K : Ks} (g : ∀ j, j < 32 → onc K ((j + 1 : Nat) : Int) ≠ none) : nx K = none :=
  ff_none 32 _ fun j hj => by
    cases e : oc K (j + 1) with
    | true => rfl
    | false => exact absurd (oc_false.1 e) (g j hj)
theorem al_psh {K : Ks} (h : Al K) {k : Nat} (hk : k < K.length) : Al (psh K k (nx K)) := by
  cases e : nx K with
  | none => exact h
  | some i =>
    obtain ⟨h1, h2⟩ := nx_some e
    exact (al_push h hk h2 (by omega) (by omega)).1
theorem al_tail {K : Ks} (h : Al K) (c : Nat) : Al (K.set c (ks K c).tail) := by
  by_cases e : ks K c = []
  · rw [set_same K c _ (by rw [e]; rfl)]
    exact h
  · exact (al_pop h e).1
theorem al_mv {K : Ks} (h : Al K) {a b : Nat} (hb : b < K.length) (hn : a ≠ b) : Al (mv K a b) := by
  unfold mv
  split
  · exact h
  · rename_i e
    exact (al_move h hb hn e).1

/- Of calls. -/
def seN (K : Ks) (c : Int) : Int := if isc K.length c = true then tN (nx K) else 0
def seE (K : Ks) (c : Int) : Int := if isc K.length c = true then tE (nx K) else 3
def seK (K : Ks) (c : Int) : Ks := if isc K.length c = true then psh K c.toNat (nx K) else K
def ckN (K : Ks) (c : Int) : Int := if isc K.length c = true then (ks K c.toNat).headD 0 else 0
def ckE (K : Ks) (c : Int) : Int := if isc K.length c = true then fE (ks K c.toNat) else 3
def ckK (K : Ks) (c : Int) : Ks := if isc K.length c = true then K.set c.toNat (ks K c.toNat).tail else K
def moN (K : Ks) (a b : Int) : Int := if isc K.length a = true ∧ isc K.length b = true ∧ a ≠ b then (ks K a.toNat).headD 0 else 0
def moE (K : Ks) (a b : Int) : Int := if isc K.length a = true ∧ isc K.length b = true then if a = b then 2 else fE (ks K a.toNat) else 3
def moK (K : Ks) (a b : Int) : Ks := if isc K.length a = true ∧ isc K.length b = true ∧ a ≠ b then mv K a.toNat b.toNat else K
def clL (K : Ks) (c : Int) : List Int := if isc K.length c = true then ks K c.toNat else []
def haB (K : Ks) (id : Int) : Bool := (onc K id).isSome

theorem al_seK {K : Ks} (h : Al K) (c : Int) : Al (seK K c) ∧ (seK K c).length = K.length := by
  unfold seK
  cases e : isc K.length c with
  | false => exact ⟨h, rfl⟩
  | true =>
    have := isc_true e
    exact ⟨al_psh h (by omega), psh_len _ _ _⟩
theorem al_ckK {K : Ks} (h : Al K) (c : Int) : Al (ckK K c) ∧ (ckK K c).length = K.length := by
  unfold ckK
  cases e : isc K.length c with
  | false => exact ⟨h, rfl⟩
  | true => exact ⟨al_tail h _, by simp⟩
theorem al_moK {K : Ks} (h : Al K) (a b : Int) : Al (moK K a b) ∧ (moK K a b).length = K.length := by
  unfold moK
  split
  · rename_i e
    have h1 := isc_true e.1
    have h2 := isc_true e.2.1
    exact ⟨al_mv h (by omega) (by omega), mv_len _ _ _⟩
  · exact ⟨h, rfl⟩
theorem hs_is {K : Ks} (h : Al K) {O : Nat → Bool} (o : ∀ i, 1 ≤ i → i ≤ 32 → O i = oc K i) (id : Int) : hs 32 O id = haB K id := by
  unfold hs haB
  by_cases q : 1 ≤ id ∧ id ≤ 32
  · have t : ((id.toNat : Nat) : Int) = id := by omega
    rw [o id.toNat (by omega) (by omega)]
    unfold oc
    rw [t]
    simp [q]
  · cases e : onc K id with
    | none => simp [q]
    | some c =>
      have := h.rg c id (onc_spec e)
      exact absurd this q

/- Of works: the last list is no core's. -/
def pc (n : Nat) (c : Int) : Option Nat := if c = -1 then some n else if isc n c = true then some c.toNat else none
theorem pc_lt {n : Nat} {c : Int} {k : Nat} (h : pc n c = some k) : k ≤ n := by
  unfold pc at h
  split at h
  · cases h; omega
  · split at h
    · rename_i e
      have := isc_true e
      cases h
      omega
    · cases h
def quN (n : Nat) (K : Ks) (c : Int) : Int := if (pc n c).isSome = true then tN (nx K) else 0
def quE (n : Nat) (K : Ks) (c : Int) : Int := if (pc n c).isSome = true then tE (nx K) else 3
def quK (n : Nat) (K : Ks) (c : Int) : Ks := match pc n c with
  | some k => psh K k (nx K)
  | none => K
def taP (n : Nat) (K : Ks) (c : Int) : Nat := if ks K c.toNat = [] then n else c.toNat
def taN (n : Nat) (K : Ks) (c : Int) : Int := if isc n c = true then (ks K (taP n K c)).headD 0 else 0
def taE (n : Nat) (K : Ks) (c : Int) : Int := if isc n c = true then fE (ks K (taP n K c)) else 3
def taK (n : Nat) (K : Ks) (c : Int) : Ks := if isc n c = true then K.set (taP n K c) (ks K (taP n K c)).tail else K
def unN (n : Nat) (K : Ks) (c : Int) : Int := if isc n c = true then (ks K c.toNat).headD 0 else 0
def unE (n : Nat) (K : Ks) (c : Int) : Int := if isc n c = true then fE (ks K c.toNat) else 3
def unK (n : Nat) (K : Ks) (c : Int) : Ks := if isc n c = true then mv K c.toNat n else K
def drE (K : Ks) (id : Int) : Int := if (onc K id).isSome = true then 0 else 4
def drK (K : Ks) (id : Int) : Ks := match onc K id with
  | some c => K.set c (wo (ks K c) id)
  | none => K
/-- A list's own number. -/
def nm (n k : Nat) : Int := if k = n then -1 else (k : Int)
def wq (n : Nat) (K : Ks) (id : Int) : Option Int := (onc K id).map (nm n)
def whN (n : Nat) (K : Ks) (id : Int) : Int := (wq n K id).getD 0
def wlL (n : Nat) (K : Ks) (c : Int) : List Int := match pc n c with
  | some k => ks K k
  | none => []

theorem wq_some {n : Nat} {K : Ks} {id : Int} : (wq n K id).isSome = (onc K id).isSome := by
  unfold wq
  cases onc K id <;> rfl
theorem pc_nm {n k : Nat} (hk : k ≤ n) : pc n (nm n k) = some k := by
  unfold pc nm
  by_cases e : k = n
  · rw [if_pos e, if_pos rfl, e]
  · rw [if_neg e, if_neg (by omega), if_pos (show isc n (k : Int) = true from decide_eq_true (by omega)), Int.toNat_natCast]
theorem nm_pc {n k : Nat} {c : Int} (h : pc n c = some k) : nm n k = c := by
  unfold pc at h
  unfold nm
  split at h
  · rename_i e
    cases h
    rw [if_pos rfl, e]
  · split at h
    · rename_i _ e
      have := isc_true e
      cases h
      rw [if_neg (by omega)]
      omega
    · cases h
theorem al_quK {n : Nat} {K : Ks} (h : Al K) (hl : K.length = n + 1) (c : Int) : Al (quK n K c) ∧ (quK n K c).length = n + 1 := by
  unfold quK
  cases e : pc n c with
  | none => exact ⟨h, hl⟩
  | some k =>
    have := pc_lt e
    exact ⟨al_psh h (by omega), by rw [psh_len, hl]⟩
theorem al_taK {n : Nat} {K : Ks} (h : Al K) (hl : K.length = n + 1) (c : Int) : Al (taK n K c) ∧ (taK n K c).length = n + 1 := by
  unfold taK
  split
  · exact ⟨al_tail h _, by simp [hl]⟩
  · exact ⟨h, hl⟩
theorem al_unK {n : Nat} {K : Ks} (h : Al K) (hl : K.length = n + 1) (c : Int) : Al (unK n K c) ∧ (unK n K c).length = n + 1 := by
  unfold unK
  split
  · rename_i e
    have := isc_true e
    exact ⟨al_mv h (by omega) (by omega), by rw [mv_len, hl]⟩
  · exact ⟨h, hl⟩
theorem al_drK {n : Nat} {K : Ks} (h : Al K) (hl : K.length = n + 1) (id : Int) : Al (drK K id) ∧ (drK K id).length = n + 1 := by
  unfold drK
  cases e : onc K id with
  | none => exact ⟨h, hl⟩
  | some c => exact ⟨(al_del h (onc_spec e)).1, by simp [hl]⟩
end Go.Proofs.YtofdhljgchefgaaDoor.Cm
