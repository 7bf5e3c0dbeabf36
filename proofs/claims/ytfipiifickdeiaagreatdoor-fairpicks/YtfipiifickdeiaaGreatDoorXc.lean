/- The texts Cm Cs Cq Wf Ga Gb Gc Ja Jb of one layer, laid together. -/
import Derived.Test.YtfipiifickdeiaaGreatDoorRows
import Derived.Test.YtfipiifickdeiaaGreatDoorXs
import Derived.Test.YtfipiifickdeiaaGreatDoorXf
import Derived.WalkKit
import Derived.ProofKit
import Derived.OpenShut
import Derived.BigQuiet
import Derived.Deep.OwnRows
import Derived.Laws.Bits64b
import Derived.Laws.BitsAllLaws
import Derived.Maps.OwnSet
namespace Go.Proofs.YtfipiifickdeiaaGreatDoor.Cm
open Fif
open Fm Sl
abbrev Ks := List (List Int)
def ks (K : Ks) (c : Nat) : List Int := K.getD c []
theorem ks_set (K : Ks) (c i : Nat) (X : List Int) (hc : c < K.length) : ks (K.set c X) i = if i = c then X else ks K i := by
  unfold ks
  rw [List.getD_eq_getElem?_getD, List.getElem?_set]
  by_cases e : c = i
  · subst e
    simp [hc]
  · rw [if_neg e, if_neg (fun g => e g.symm), List.getD_eq_getElem?_getD]
theorem ks_lt {K : Ks} {c : Nat} {id : Int} (h : id ∈ ks K c) : c < K.length := by
  rcases Nat.lt_or_ge c K.length with q | q
  · exact q
  · unfold ks at h
    rw [List.getD_eq_getElem?_getD, List.getElem?_eq_none q] at h
    simp at h
theorem ks_nil (n c : Nat) : ks (List.replicate n []) c = [] := by
  unfold ks
  rw [List.getD_eq_getElem?_getD, List.getElem?_replicate]
  split <;> rfl
theorem set_same (K : Ks) (c : Nat) (X : List Int) (h : ks K c = X) : K.set c X = K := by
  apply List.ext_getElem?
  intro i
  rw [List.getElem?_set]
  by_cases e : c = i
  · subst e
    unfold ks at h
    rw [List.getD_eq_getElem?_getD] at h
    rw [if_pos rfl]
    split
    · rename_i q
      rw [List.getElem?_eq_getElem q] at h ⊢
      simp at h
      rw [h]
    · rename_i q
      rw [List.getElem?_eq_none (by omega)]
  · rw [if_neg e]
/-- The list that a number is in. -/
def onc (K : Ks) (id : Int) : Option Nat := (List.range K.length).find? fun c => decide (id ∈ ks K c)
def oc (K : Ks) (i : Nat) : Bool := (onc K (i : Int)).isSome
/-- Each number is in one list at most, and once. -/
structure Al (K : Ks) : Prop where
  nd : ∀ c, (ks K c).Nodup
  one : ∀ c d id, id ∈ ks K c → id ∈ ks K d → c = d
  rg : ∀ c, ∀ id ∈ ks K c, 1 ≤ id ∧ id ≤ 32
theorem onc_spec {K : Ks} {id : Int} {c : Nat} (h : onc K id = some c) : id ∈ ks K c := by
  have := List.find?_some h
  simpa using this
theorem onc_none {K : Ks} {id : Int} : onc K id = none ↔ ∀ c, id ∉ ks K c := by
  unfold onc
  rw [List.find?_eq_none]
  constructor
  · intro h c hc
    have := h c (List.mem_range.2 (ks_lt hc))
    simp [hc] at this
  · intro h c _
    simp [h c]
theorem onc_iff {K : Ks} (h : Al K) {id : Int} {c : Nat} : onc K id = some c ↔ id ∈ ks K c := by
  refine ⟨onc_spec, fun hi => ?_⟩
  cases e : onc K id with
  | none => exact absurd hi (onc_none.1 e c)
  | some d => rw [h.one d c id (onc_spec e) hi]
theorem oc_false {K : Ks} {i : Nat} : oc K i = false ↔ onc K (i : Int) = none := by
  unfold oc
  cases onc K (i : Int) <;> simp
theorem al_nil (n : Nat) : Al (List.replicate n []) := by
  refine ⟨fun c => ?_, fun c d id h => ?_, fun c id h => ?_⟩
  · rw [ks_nil]; exact List.Pairwise.nil
  · rw [ks_nil] at h; simp at h
  · rw [ks_nil] at h; simp at h
theorem onc_nil (n : Nat) (id : Int) : onc (List.replicate n []) id = none := onc_none.2 fun c => by rw [ks_nil]; simp
theorem oc_nil (n : Nat) : oc (List.replicate n []) = fun _ => false := funext fun i => by rw [oc_false]; exact onc_nil n _
/-- One comes. -/
theorem al_push {K : Ks} (h : Al K) {c : Nat} (hc : c < K.length) {id : Int} (hn : onc K id = none) (h1 : 1 ≤ id) (h2 : id ≤ 32) :
    Al (K.set c (ks K c ++ [id])) ∧ ∀ j, onc (K.set c (ks K c ++ [id])) j = if j = id then some c else onc K j := by
  have no := onc_none.1 hn
  have m : ∀ e j, j ∈ ks (K.set c (ks K c ++ [id])) e ↔ j ∈ ks K e ∨ (e = c ∧ j = id) := fun e j => by
    rw [ks_set _ _ _ _ hc]
    by_cases q : e = c
    · subst q
      simp
    · simp [q]
  have A : Al (K.set c (ks K c ++ [id])) := by
    refine ⟨fun e => ?_, fun e f j g1 g2 => ?_, fun e j g => ?_⟩
    · rw [ks_set _ _ _ _ hc]
      split
      · rw [List.nodup_append]
        refine ⟨h.nd c, List.nodup_cons.2 ⟨by simp, List.Pairwise.nil⟩, fun a ha b hb => ?_⟩
        simp at hb
        subst hb
        exact fun e => no c (e ▸ ha)
      · exact h.nd e
    · rcases (m e j).1 g1 with g1 | ⟨r1, r2⟩ <;> rcases (m f j).1 g2 with g2 | ⟨s1, s2⟩
      · exact h.one e f j g1 g2
      · exact absurd (s2 ▸ g1) (no e)
      · exact absurd (r2 ▸ g2) (no f)
      · omega
    · rcases (m e j).1 g with g | ⟨_, r⟩
      · exact h.rg e j g
      · omega
  refine ⟨A, fun j => Option.ext fun e => ?_⟩
  rw [onc_iff A, m]
  by_cases r : j = id
  · subst r
    simp [no e]
    exact ⟨fun z => z.symm, fun z => z.symm⟩
  · rw [if_neg r, onc_iff h]
    simp [r]
theorem mem_wo (L : List Int) (n j : Int) : j ∈ wo L n ↔ j ∈ L ∧ j ≠ n := by
  unfold wo
  rw [List.mem_filter]
  simp
/-- One goes. -/
theorem al_del {K : Ks} (h : Al K) {c : Nat} {id : Int} (hi : id ∈ ks K c) :
    Al (K.set c (wo (ks K c) id)) ∧ ∀ j, onc (K.set c (wo (ks K c) id)) j = if j = id then none else onc K j := by
  have hc := ks_lt hi
  have m : ∀ e j, j ∈ ks (K.set c (wo (ks K c) id)) e ↔ j ∈ ks K e ∧ j ≠ id := fun e j => by
    rw [ks_set _ _ _ _ hc]
    by_cases q : e = c
    · subst q
      rw [if_pos rfl, mem_wo]
    · rw [if_neg q]
      refine ⟨fun g => ⟨g, fun r => q ?_⟩, fun g => g.1⟩
      subst r
      exact h.one e c j g hi
  have A : Al (K.set c (wo (ks K c) id)) := by
    refine ⟨fun e => ?_, fun e f j g1 g2 => ?_, fun e j g => ?_⟩
    · rw [ks_set _ _ _ _ hc]
      split
      · exact nodup_wo _ _ (h.nd c)
      · exact h.nd e
    · exact h.one e f j ((m e j).1 g1).1 ((m f j).1 g2).1
    · exact h.rg e j ((m e j).1 g).1
  refine ⟨A, fun j => Option.ext fun e => ?_⟩
  rw [onc_iff A, m]
  by_cases r : j = id
  · rw [if_pos r]
    simp [r]
  · rw [if_neg r, onc_iff h]
    simp [r]
theorem wo_hd {L : List Int} (h : L.Nodup) (hp : L ≠ []) : wo L (L.headD 0) = L.tail := by
  cases L with
  | nil => exact absurd rfl hp
  | cons a t => exact wo_head t a h
theorem hd_mem {L : List Int} (hp : L ≠ []) : L.headD 0 ∈ L := by
  cases L with
  | nil => exact absurd rfl hp
  | cons a t => simp
/-- The first one goes. -/
theorem al_pop {K : Ks} (h : Al K) {c : Nat} (hp : ks K c ≠ []) :
    Al (K.set c (ks K c).tail) ∧ ∀ j, onc (K.set c (ks K c).tail) j = if j = (ks K c).headD 0 then none else onc K j := by
  have := al_del h (hd_mem hp)
  rwa [wo_hd (h.nd c) hp] at this
/-- The first one of a list behind all of another one. -/
def mv (K : Ks) (a b : Nat) : Ks := if ks K a = [] then K else (K.set a (ks K a).tail).set b (ks K b ++ [(ks K a).headD 0])
/-- No more than there are numbers. -/
theorem few : ∀ (m : Nat) (L : List Int), L.Nodup → (∀ x ∈ L, 1 ≤ x ∧ x ≤ (m : Int)) → L.length ≤ m
  | 0, L, _, h => by
    cases L with
    | nil => simp
    | cons a t => have := h a (by simp); omega
  | m + 1, L, hn, h => by
    have ih := few m (wo L ((m : Int) + 1)) (nodup_wo _ _ hn) fun x hx => by
      obtain ⟨h1, h2⟩ := (mem_wo _ _ _).1 hx
      have := h x h1
      omega
    by_cases q : ((m : Int) + 1) ∈ L
    · have e : wo L ((m : Int) + 1) = L.erase ((m : Int) + 1) := (List.Nodup.erase_eq_filter hn _).symm
      rw [e, List.length_erase_of_mem q] at ih
      omega
    · rw [wo_miss _ _ q] at ih
      omega
theorem Al.len {K : Ks} (h : Al K) (c : Nat) : (ks K c).length ≤ 32 := few 32 _ (h.nd c) (h.rg c)
theorem Al.room {K : Ks} (h : Al K) {id : Int} (hn : onc K id = none) (h1 : 1 ≤ id) (h2 : id ≤ 32) {c : Nat} (hc : c < K.length) : (ks K c).length < 32 := by
  have := (al_push h hc hn h1 h2).1.len c
  rw [ks_set _ _ _ _ hc, if_pos rfl] at this
  simp at this
  omega
theorem push_ok {L : List Int} {id : Int} (hn : id ∉ L) (hl : L.length < 32) : pE 32 L id = 0 ∧ pL 32 L id = L ++ [id] := by
  unfold pE pL
  rw [if_neg hn, if_neg hn, if_neg (by omega), if_neg (by omega)]
  exact ⟨rfl, rfl⟩
/-- How many there are. -/
def cnt (O : Nat → Bool) : Nat := (List.range 32).countP fun i => O (i + 1)
theorem cnt_le (O : Nat → Bool) : cnt O ≤ 32 := by
  have := List.countP_le_length (p := fun i => O (i + 1)) (l := List.range 32)
  rwa [List.length_range] at this
theorem cnt_go {O P : Nat → Bool} {k : Nat} (h : ∀ j, j ≠ k → P j = O j) (hp : P k = true) (hq : O k = false) : ∀ m, (List.range m).countP (fun i => P (i + 1)) = (List.range m).countP (fun i => O (i + 1)) + if 1 ≤ k ∧ k ≤ m then 1 else 0
  | 0 => by
    rw [if_neg (by omega)]
    rfl
  | m + 1 => by
    rw [List.range_succ, List.countP_append, List.countP_append, cnt_go h hp hq m]
    by_cases e : m + 1 = k
    · subst e
      rw [if_neg (by omega), if_pos (by omega)]
      simp [hp, hq]
    · rw [show List.countP (fun i => P (i + 1)) [m] = List.countP (fun i => O (i + 1)) [m] by simp [List.countP_singleton, h _ e]]
      by_cases q : 1 ≤ k ∧ k ≤ m
      · rw [if_pos q, if_pos (by omega)]
        omega
      · rw [if_neg q, if_neg (by omega)]
        omega
theorem cnt_in {O P : Nat → Bool} {k : Nat} (h1 : 1 ≤ k) (h2 : k ≤ 32) (h : ∀ j, j ≠ k → P j = O j) (hp : P k = true) (hq : O k = false) : cnt P = cnt O + 1 := by
  have := cnt_go h hp hq 32
  rw [if_pos ⟨h1, h2⟩] at this
  exact this
/- The answers. -/
def isc (n : Nat) (c : Int) : Bool := decide (0 ≤ c ∧ c < n)
theorem isc_true {n : Nat} {c : Int} (h : isc n c = true) : 0 ≤ c ∧ c < n := of_decide_eq_true h
theorem isc_nat {n : Nat} {c : Int} (h : isc n c = true) : ∃ k : Nat, c = (k : Int) ∧ k < n ∧ (k : Int) < n := by
  have := isc_true h
  exact ⟨c.toNat, by omega, by omega, by omega⟩
theorem isc_false {n : Nat} {c : Int} (h : isc n c = false) : c < 0 ∨ (0 ≤ c ∧ (n : Int) ≤ c) := by
  have := of_decide_eq_false h
  omega
/-- The next number. -/
def nx (K : Ks) : Option Nat := ff 32 (oc K)
def psh (K : Ks) (k : Nat) : Option Nat → Ks
  | some i => K.set k (ks K k ++ [((i + 1 : Nat) : Int)])
  | none => K
theorem nx_some {K : Ks} {i : Nat} (h : nx K = some i) : i < 32 ∧ onc K ((i + 1 : Nat) : Int) = none := by
  have h1 := List.find?_some h
  have h2 := List.mem_of_find?_eq_some h
  simp only [Bool.not_eq_true'] at h1
  exact ⟨List.mem_range.1 h2, oc_false.1 h1⟩
/- Of calls. -/
def seN (K : Ks) (c : Int) : Int := if isc K.length c = true then tN (nx K) else 0
def seE (K : Ks) (c : Int) : Int := if isc K.length c = true then tE (nx K) else 3
def seK (K : Ks) (c : Int) : Ks := if isc K.length c = true then psh K c.toNat (nx K) else K
def ckN (K : Ks) (c : Int) : Int := if isc K.length c = true then (ks K c.toNat).headD 0 else 0
def ckK (K : Ks) (c : Int) : Ks := if isc K.length c = true then K.set c.toNat (ks K c.toNat).tail else K
def moE (K : Ks) (a b : Int) : Int := if isc K.length a = true ∧ isc K.length b = true then if a = b then 2 else fE (ks K a.toNat) else 3
def moK (K : Ks) (a b : Int) : Ks := if isc K.length a = true ∧ isc K.length b = true ∧ a ≠ b then mv K a.toNat b.toNat else K
def clL (K : Ks) (c : Int) : List Int := if isc K.length c = true then ks K c.toNat else []
def haB (K : Ks) (id : Int) : Bool := (onc K id).isSome
theorem hs_is {K : Ks} (h : Al K) {O : Nat → Bool} (o : ∀ i, 1 ≤ i → i ≤ 32 → O i = oc K i) (id : Int) : hs 32 O id = haB K id := by
  unfold hs haB
  by_cases q : 1 ≤ id ∧ id ≤ 32
  · have t : ((id.toNat : Nat) : Int) = id := by omega
    rw [o id.toNat (by omega) (by omega)]
    unfold oc
    rw [t]
    simp [q]
  · cases e : onc K id with
    | none => simp [q]
    | some c =>
      have := h.rg c id (onc_spec e)
      exact absurd this q
/- Of works: the last list is no core's. -/
def pc (n : Nat) (c : Int) : Option Nat := if c = -1 then some n else if isc n c = true then some c.toNat else none
theorem pc_lt {n : Nat} {c : Int} {k : Nat} (h : pc n c = some k) : k ≤ n := by
  unfold pc at h
  split at h
  · cases h; omega
  · split at h
    · rename_i e
      have := isc_true e
      cases h
      omega
    · cases h
def quN (n : Nat) (K : Ks) (c : Int) : Int := if (pc n c).isSome = true then tN (nx K) else 0
def quE (n : Nat) (K : Ks) (c : Int) : Int := if (pc n c).isSome = true then tE (nx K) else 3
def quK (n : Nat) (K : Ks) (c : Int) : Ks := match pc n c with
  | some k => psh K k (nx K)
  | none => K
def taP (n : Nat) (K : Ks) (c : Int) : Nat := if ks K c.toNat = [] then n else c.toNat
def taN (n : Nat) (K : Ks) (c : Int) : Int := if isc n c = true then (ks K (taP n K c)).headD 0 else 0
def taE (n : Nat) (K : Ks) (c : Int) : Int := if isc n c = true then fE (ks K (taP n K c)) else 3
def taK (n : Nat) (K : Ks) (c : Int) : Ks := if isc n c = true then K.set (taP n K c) (ks K (taP n K c)).tail else K
def unE (n : Nat) (K : Ks) (c : Int) : Int := if isc n c = true then fE (ks K c.toNat) else 3
def unK (n : Nat) (K : Ks) (c : Int) : Ks := if isc n c = true then mv K c.toNat n else K
def drK (K : Ks) (id : Int) : Ks := match onc K id with
  | some c => K.set c (wo (ks K c) id)
  | none => K
/-- A list's own number. -/
def nm (n k : Nat) : Int := if k = n then -1 else (k : Int)
def wq (n : Nat) (K : Ks) (id : Int) : Option Int := (onc K id).map (nm n)
def wlL (n : Nat) (K : Ks) (c : Int) : List Int := match pc n c with
  | some k => ks K k
  | none => []
theorem wq_some {n : Nat} {K : Ks} {id : Int} : (wq n K id).isSome = (onc K id).isSome := by
  unfold wq
  cases onc K id <;> rfl
theorem nm_pc {n k : Nat} {c : Int} (h : pc n c = some k) : nm n k = c := by
  unfold pc at h
  unfold nm
  split at h
  · rename_i e
    cases h
    rw [if_pos rfl, e]
  · split at h
    · rename_i _ e
      have := isc_true e
      cases h
      rw [if_neg (by omega)]
      omega
    · cases h
end Go.Proofs.YtfipiifickdeiaaGreatDoor.Cm
namespace Go.Proofs.YtfipiifickdeiaaGreatDoor.Wrk
open Fif
open Go.ChangeShapes Go.WideShapes Go.ChangeAt Go.RowKit
open Mm Sl
theorem Tryz.infoW : (Tryz.prog.info? 23).map (fun i => (i.zero, i.size, i.bytes)) = some (some (.int .u64 0), 1, 8) := by kernel_rfl
def wv (x : Nat) : Value := .int .u64 (x : Int)
theorem made_word (n : Nat) : madeCells #[Value.int .u64 0] n = ((List.replicate n 0).map wv).toArray := by
  apply Array.ext
  · simp [size_madeCells]
  · intro i h1 h2
    simp [madeCells, Nat.mod_one, wv]
theorem getD_map_wv (xs : List Nat) (i : Nat) (h : i < xs.length) : (xs.map wv)[i]? = some (.int .u64 ((xs.getD i 0 : Nat) : Int)) := by
  rw [List.getElem?_map, List.getElem?_eq_getElem h, List.getD_eq_getElem?_getD, List.getElem?_eq_getElem h]
  rfl
/-- The table at block b, its words at block g. -/
structure T (w : World) (b g m : Nat) (W : List Nat) (O : Nat → Bool) : Prop where
  sb : Blk w b [.slice (some ⟨g, 0, none⟩) W.length W.length, .int .i64 (m : Int)] 213
  sg : Blk w g (W.map wv) 23
  wd : Wd m W O
theorem T.c0 {w : World} {b g m : Nat} {W : List Nat} {O : Nat → Bool} (h : T w b g m W O) : w.cell? ⟨b, 0, none⟩ = some (.slice (some ⟨g, 0, none⟩) W.length W.length) := h.sb.cell 0
theorem T.c1 {w : World} {b g m : Nat} {W : List Nat} {O : Nat → Bool} (h : T w b g m W O) : w.cell? ⟨b, 1, none⟩ = some (.int .i64 (m : Int)) := h.sb.cell 1
theorem T.ne {w : World} {b g m : Nat} {W : List Nat} {O : Nat → Bool} (h : T w b g m W O) : b ≠ g := h.sb.ne h.sg (by decide)
theorem T.heap {w w1 : World} {b g m : Nat} {W : List Nat} {O : Nat → Bool} (h : T w b g m W O) (e : w1.heap = w.heap) : T w1 b g m W O := ⟨h.sb.heap e, h.sg.heap e, h.wd⟩
theorem T.keep {B : Nat} {S : List Nat} {w w' : World} {b g m : Nat} {W : List Nat} {O : Nat → Bool} (h : T w b g m W O) (k : Fr B S w w') (hb : b < B ∧ g < B) (hs : b ∉ S ∧ g ∉ S) : T w' b g m W O :=
  ⟨h.sb.keep k hb.1 hs.1, h.sg.keep k hb.2 hs.2, h.wd⟩
theorem T.word {w : World} {b g m : Nat} {W : List Nat} {O : Nat → Bool} (h : T w b g m W O) {j : Nat} (hj : j < W.length) : w.cell? ⟨g, j, none⟩ = some (.int .u64 ((W.getD j 0 : Nat) : Int)) := by
  rw [h.sg.cell, getD_map_wv W j hj]
theorem T.len {w : World} {b g m : Nat} {W : List Nat} {O : Nat → Bool} (h : T w b g m W O) : (W.length : Int) ≤ 16 := by have := h.wd.len; have := h.wd.m2; omega
/-- Behind a store into a word. -/
theorem t_store {w : World} {b g m : Nat} {W : List Nat} {O O' : Nat → Bool} (h : T w b g m W O) (j x : Nat) (k : Wd m (W.set j x) O') :
    T (w.setCell ⟨g, j, none⟩ (.int .u64 (x : Int))) b g m (W.set j x) O' := by
  refine ⟨?_, ?_, k⟩
  · have := h.sb.other (p := ⟨g, j, none⟩) h.ne (.int .u64 (x : Int))
    simpa using this
  · have := h.sg.set j (.int .u64 (x : Int))
    rw [show Value.int .u64 (x : Int) = wv x from rfl] at this ⊢
    rwa [← List.map_set] at this
set_option maxHeartbeats 400000 in
theorem snew_any (m : Nat) (w : World) (h1 : (1 : Int) ≤ m) (h2 : (m : Int) ≤ 1024) :
    Calls Tryz.prog 47 #[.int .i64 (m : Int)] w fun e w' => e = .returned (.tuple #[.pointer (some ⟨w.heap.size + 1, 0, none⟩), .int .i64 0]) ∧ (∃ W, T w' (w.heap.size + 1) w.heap.size m W fun _ => false) ∧ Fr w.heap.size [] w w' ∧ w'.heap.size = w.heap.size + 2 := by
  obtain ⟨n, hn⟩ : ∃ n, (m + 63) / 64 = n := ⟨_, rfl⟩
  have G := wd_new m (by omega) (by omega)
  rw [hn] at G
  have hq : ((m : Int) + 64 - 1).tdiv 64 = (n : Int) := by rw [Int.tdiv_eq_ediv_of_nonneg (by omega)]; omega
  have hmk := run_make_row' (P := Tryz.prog) 211 23 (.int .u64 0) 8 Tryz.underlying211 Tryz.infoW rfl .i64 .i64 n (by omega) (by omega)
  have F : Hid (∀ o1 o2, Fr w.heap.size [] w ((w.alloc o1).alloc o2)) := fun o1 o2 => ((Fr.refl _ _ _).alloc (Nat.le_refl _) o1).alloc (by simp) o2
  have HG : Hid (Wd m (List.replicate n 0) fun _ => false) := G
  clear G
  go_enter Tryz.func47, Tryz.ntmps47
  go_wp2
  go_ret2
  refine ⟨rfl, ⟨List.replicate n 0, ?_, ?_, HG.out⟩, F.out _ _, by simp⟩
  · have := Blk.new (w.alloc (Obj.cells (madeCells #[Value.int IntKind.u64 0] n) 23)) [.slice (some ⟨w.heap.size, 0, none⟩) n n, .int .i64 (m : Int)] 213
    simpa using this
  · rw [made_word]
    exact (Blk.new w _ 23).alloc _
theorem number_any (j i : Nat) (w : World) (hj : (j : Int) ≤ 16) (hi : (i : Int) ≤ 64) :
    Calls Tryz.prog 250 #[.int .i64 (j : Int), .int .i64 (i : Int)] w fun e w' => e = .returned (.int .i64 ((64 * j + i + 1 : Nat) : Int)) ∧ w' = w := by
  rw [show ((64 * j + i + 1 : Nat) : Int) = (j : Int) * 64 + i + 1 by omega]
  go_enter Tryz.func250, Tryz.ntmps250
  go_wp2
  go_ret
  exact ⟨rfl, rfl⟩
theorem ret_place {a b c d : Int} (h : a = b) (g : c = d) : Ending.returned (.tuple #[.int .i64 a, .int .u64 c]) = .returned (.tuple #[.int .i64 b, .int .u64 d]) := by rw [h, g]
theorem pow_word (k : Nat) (h : k < 64) : IntKind.u64.wrap ((2 : Int) ^ k) = ((2 ^ k : Nat) : Int) := by
  have hp : 2 ^ k < 18446744073709551616 := Nat.lt_of_lt_of_eq (Nat.pow_lt_pow_right (by omega) h) rfl
  have e : ((2 : Int) ^ k) = ((2 ^ k : Nat) : Int) := by simp
  rw [e]
  exact wrapN _ hp
theorem pow_lt (k : Nat) (h : k < 64) : 2 ^ k < 18446744073709551616 := Nat.lt_of_lt_of_eq (Nat.pow_lt_pow_right (by omega) h) rfl
set_option maxHeartbeats 400000 in
theorem place_any (n : Nat) (w : World) (h1 : (1 : Int) ≤ n) (h2 : (n : Int) ≤ 1024) :
    Calls Tryz.prog 244 #[.int .i64 (n : Int)] w fun e w' => e = .returned (.tuple #[.int .i64 (((n - 1) / 64 : Nat) : Int), .int .u64 ((2 ^ ((n - 1) % 64) : Nat) : Int)]) ∧ w' = w := by
  have P : Hid (IntKind.u64.wrap ((2 : Int) ^ ((n - 1) % 64)) = ((2 ^ ((n - 1) % 64) : Nat) : Int)) := pow_word _ (by omega)
  have D : Hid (((n : Int) - 1) / 64 = (((n - 1) / 64 : Nat) : Int)) := by unfold Hid; omega
  go_enter Tryz.func244, Tryz.ntmps244
  go_wp2
  go_ret2
  exact ⟨ret_place D.out P.out, rfl⟩
set_option maxHeartbeats 400000 in
theorem shas_any {b g m : Nat} {W : List Nat} {O : Nat → Bool} (n : Int) (w : World) (h : T w b g m W O) :
    Calls Tryz.prog 243 #[.pointer (some ⟨b, 0, none⟩), .int .i64 n] w fun e w' => e = .returned (.bool (hs m O n)) ∧ w' = w := by
  have c0 := h.c0
  have c1 := h.c1
  have hm : (m : Int) ≤ 1024 := by have := h.wd.m2; omega
  by_cases l : n < 1
  · rw [show hs m O n = false by unfold hs; rw [decide_eq_false (by omega)]; rfl]
    clear h c0
    go_enter Tryz.func243, Tryz.ntmps243
    go_wp2
    go_ret
    exact ⟨rfl, rfl⟩
  · by_cases u : (m : Int) < n
    · rw [show hs m O n = false by unfold hs; rw [decide_eq_false (by omega)]; rfl]
      clear h c0
      go_enter Tryz.func243, Tryz.ntmps243
      go_wp2
      go_ret
      exact ⟨rfl, rfl⟩
    · obtain ⟨k, rfl⟩ := Int.eq_ofNat_of_zero_le (show 0 ≤ n by omega)
      rw [show hs m O (k : Int) = O k by unfold hs; rw [decide_eq_true (by omega)]; simp]
      have C : Hid (∀ _ : Unit, _) := fun _ => place_any k w (by omega) (by omega)
      obtain ⟨hj, hb⟩ := wd_has h.wd k (by omega) (by omega)
      have cg := h.word hj
      have hlt := h.wd.lt _ hj
      have hj2 : (((k - 1) / 64 : Nat) : Int) < W.length := by omega
      have ha := bits_and_u64_nat (W.getD ((k - 1) / 64) 0) (2 ^ ((k - 1) % 64)) hlt (pow_lt _ (by omega))
      have hv : Hid (((((W.getD ((k - 1) / 64) 0 &&& 2 ^ ((k - 1) % 64) : Nat) : Int)) != 0) = O k) := by
        unfold Hid
        cases ho : O k with
        | false =>
          rw [ho] at hb
          simp only [eq_iff_iff, iff_true] at hb
          rw [hb]
          rfl
        | true =>
          rw [ho] at hb
          simp only [Bool.true_eq_false, eq_iff_iff, iff_false] at hb
          simp
          exact hb
      clear h hj hb hlt
      generalize 2 ^ ((k - 1) % 64) = p at *
      generalize (k - 1) / 64 = j at *
      generalize W.getD j 0 &&& p = z at *
      generalize W.getD j 0 = x at *
      generalize W.length = nw at *
      go_enter Tryz.func243, Tryz.ntmps243
      go_wp2_with fail
      refine (C.out ()).mono ?_
      rintro e w' ⟨rfl, rfl⟩
      go_wp2
      go_ret
      exact ⟨ret_bool hv.out, rfl⟩
set_option maxHeartbeats 400000 in
theorem sgive_any {b g m : Nat} {W : List Nat} {O : Nat → Bool} (n : Int) (w : World) (h : T w b g m W O) :
    Calls Tryz.prog 185 #[.pointer (some ⟨b, 0, none⟩), .int .i64 n] w fun e w' => e = .returned (.int .i64 (gE m O n)) ∧ (∃ W', T w' b g m W' (gO m O n)) ∧ Fr w.heap.size [b, g] w w' := by
  have C : Hid (∀ _ : Unit, _) := fun _ => shas_any n w h
  cases e : hs m O n with
  | false =>
    rw [e] at C
    rw [show gE m O n = 4 by unfold gE; rw [e]; rfl, show gO m O n = O by unfold gO; rw [e]; rfl]
    have HT : Hid (T w b g m W O) := h
    clear h e
    go_enter Tryz.func185, Tryz.ntmps185
    go_wp2_with fail
    refine (C.out ()).mono ?_
    rintro e w' ⟨rfl, rfl⟩
    go_wp2
    go_ret
    exact ⟨rfl, ⟨_, HT.out⟩, Fr.refl _ _ _⟩
  | true =>
    rw [e] at C
    rw [show gE m O n = 0 by unfold gE; rw [e]; rfl, show gO m O n = st O n.toNat false by unfold gO; rw [e]; rfl]
    have hn : 1 ≤ n ∧ n ≤ m := by
      unfold hs at e
      rw [Bool.and_eq_true] at e
      exact of_decide_eq_true e.1
    have hm : (m : Int) ≤ 1024 := by have := h.wd.m2; omega
    obtain ⟨k, rfl⟩ := Int.eq_ofNat_of_zero_le (show 0 ≤ n by omega)
    have D : Hid (∀ _ : Unit, _) := fun _ => place_any k w (by omega) (by omega)
    have hj := (wd_has h.wd k (by omega) (by omega)).1
    have c0 := h.c0
    have cg := h.word hj
    have fg : w.frozen? ⟨g, (k - 1) / 64, none⟩ = false := h.sg.free _
    have hlt := h.wd.lt _ hj
    have hj2 : (((k - 1) / 64 : Nat) : Int) < W.length := by omega
    have ha : bits .andNot .u64 ((W.getD ((k - 1) / 64) 0 : Nat) : Int) ((2 ^ ((k - 1) % 64) : Nat) : Int) = ((nt (W.getD ((k - 1) / 64) 0) (2 ^ ((k - 1) % 64)) : Nat) : Int) := u64_andNot_nat _ _ hlt (pow_lt _ (by omega))
    have wc := wd_clr h.wd ((k - 1) / 64) ((k - 1) % 64) hj (by omega)
    rw [show 64 * ((k - 1) / 64) + (k - 1) % 64 + 1 = k by omega] at wc
    have TS : Hid _ := t_store h ((k - 1) / 64) _ wc
    rw [show ((k : Int)).toNat = k by omega]
    clear h hj e hn hm hlt wc
    generalize 2 ^ ((k - 1) % 64) = p at *
    generalize (k - 1) / 64 = j at *
    generalize nt (W.getD j 0) p = z at *
    generalize W.getD j 0 = x at *
    generalize W.length = nw at *
    go_enter Tryz.func185, Tryz.ntmps185
    go_wp2_with fail
    refine (C.out ()).mono ?_
    rintro e w' ⟨rfl, rfl⟩
    go_wp2_with fail
    refine (D.out ()).mono ?_
    rintro e w' ⟨rfl, rfl⟩
    go_wp2
    go_ret
    exact ⟨rfl, ⟨_, TS.out⟩, (Fr.refl _ _ _).setCell (Or.inr (by simp)) _⟩
theorem not_bit {x i : Nat} (hx : x < 18446744073709551616) (hi : i < 64) : (18446744073709551615 - x).testBit i = !x.testBit i := by
  rw [bit_max x i hx, decide_eq_true hi, Bool.true_and]
theorem not_word (x : Nat) (hx : x < 18446744073709551616) : bits .xor .u64 IntKind.u64.max (x : Int) = ((18446744073709551615 - x : Nat) : Int) := by
  have e : (18446744073709551615 : Nat) ^^^ x = 18446744073709551615 - x := by
    apply Nat.eq_of_testBit_eq
    intro i
    rw [Nat.testBit_xor, bit_max x i hx, max_eq, Nat.testBit_two_pow_sub_one]
    by_cases hi : i < 64
    · simp [hi]
    · rw [bit_hi hx (by omega)]
      simp [hi]
  have h := u64_xor_nat 18446744073709551615 x (by omega) hx
  rw [e] at h
  exact h
theorem low_zero {y f q : Nat} (e : y = 2 ^ f * (2 * q + 1)) {i : Nat} (hi : i < f) : y.testBit i = false := by
  rw [e, Nat.mul_comm, Nat.testBit_mul_two_pow]
  have : ¬ f ≤ i := by omega
  simp [this]
theorem low_one {y f q : Nat} (e : y = 2 ^ f * (2 * q + 1)) : y.testBit f = true := by
  rw [e, Nat.mul_comm, Nat.testBit_mul_two_pow]
  simp
/-- A word all whose bits are 1. -/
theorem full_word {m : Nat} {W : List Nat} {O : Nat → Bool} (h : Wd m W O) {k : Nat} (hk : k < W.length) (e : W.getD k 0 = 18446744073709551615) (g : ∀ t, t < 64 * k → t < m → O (t + 1) = true) : ∀ t, t < 64 * (k + 1) → t < m → O (t + 1) = true := by
  intro t ht hm
  by_cases c : t < 64 * k
  · exact g t c hm
  · have hb := h.bit k (t - 64 * k) hk (by omega)
    rw [e, show 64 * k + (t - 64 * k) = t by omega] at hb
    have : (18446744073709551615 : Nat).testBit (t - 64 * k) = true := by
      rw [max_eq, Nat.testBit_two_pow_sub_one]
      exact decide_eq_true (by omega)
    rw [this] at hb
    have := hb.symm
    rw [Bool.and_eq_true] at this
    exact this.2
/-- The lowest bit of a word that is 0. -/
theorem part_word {m : Nat} {W : List Nat} {O : Nat → Bool} (h : Wd m W O) {k f q : Nat} (hk : k < W.length) (hf : f < 64) (e : 18446744073709551615 - W.getD k 0 = 2 ^ f * (2 * q + 1)) (g : ∀ t, t < 64 * k → t < m → O (t + 1) = true) :
    (∀ t, t < 64 * k + f → O (t + 1) = true ∨ m ≤ t) ∧ (64 * k + f < m → O (64 * k + f + 1) = false) := by
  have hx := h.lt k hk
  refine ⟨fun t ht => ?_, fun hm => ?_⟩
  · by_cases c : t < 64 * k
    · by_cases d : t < m
      · exact Or.inl (g t c d)
      · exact Or.inr (by omega)
    · have hb := h.bit k (t - 64 * k) hk (by omega)
      have hl := low_zero e (show t - 64 * k < f by omega)
      rw [not_bit hx (by omega), hb, show 64 * k + (t - 64 * k) = t by omega] at hl
      simp at hl
      exact Or.inl hl.2
  · have hb := h.bit k f hk hf
    have hl := low_one e
    rw [not_bit hx hf, hb, decide_eq_true hm] at hl
    simpa using hl
set_option maxHeartbeats 1000000 in
theorem stake_any {b g m : Nat} {W : List Nat} {O : Nat → Bool} (w : World) (h : T w b g m W O) (ht : Tab w) :
    Calls Tryz.prog 193 #[.pointer (some ⟨b, 0, none⟩)] w fun e w' => e = .returned (.tuple #[.int .i64 (tN (ff m O)), .int .i64 (tE (ff m O))]) ∧ (∃ W', T w' b g m W' (tO O (ff m O))) ∧ Fr w.heap.size [b, g] w w' := by
  have c0 := h.c0
  have c1 := h.c1
  have hl := h.len
  have HT : Hid (T w b g m W O) := h
  have HB : Hid (Tab w) := ht
  have hm : (m : Int) ≤ 1024 := by have := h.wd.m2; omega
  obtain ⟨nw, hn⟩ : ∃ nw, W.length = nw := ⟨_, rfl⟩
  have HN : Hid (W.length = nw) := hn
  obtain ⟨V, hV⟩ : ∃ V, tN (ff m O) = V := ⟨_, rfl⟩
  obtain ⟨E, hE⟩ : ∃ E, tE (ff m O) = E := ⟨_, rfl⟩
  obtain ⟨U, hU⟩ : ∃ U, tO O (ff m O) = U := ⟨_, rfl⟩
  have HF : Hid (∀ F, ff m O = F → V = tN F ∧ E = tE F ∧ U = tO O F) := fun F e => by rw [← hV, ← hE, ← hU, e]; exact ⟨rfl, rfl, rfl⟩
  rw [hn] at c0 hl
  rw [hV, hE, hU]
  clear h ht hn hV hE hU
  go_enter Tryz.func193, Tryz.ntmps193
  go_wp2
  go_loop [14] (fun i => ∃ k : Nat, (k : Int) ≤ nw ∧ Hid (∀ t, t < 64 * k → t < m → O (t + 1) = true) ∧ i = .int .i64 k) (fun i => nw - (intOf i).toNat)
  case atStart => exact ⟨0, by omega, fun t ht => by omega, rfl⟩
  case round =>
    obtain ⟨k, hk, hG, rfl⟩ := hrel
    by_cases e : (k : Int) < nw
    · have hk2 : k < W.length := by have := HN.out; omega
      have cg := HT.out.word hk2
      have lt := HT.out.wd.lt k hk2
      by_cases c : W.getD k 0 = 18446744073709551615
      · have s : Hid (∀ t, t < 64 * (k + 1) → t < m → O (t + 1) = true) := full_word HT.out.wd hk2 c hG.out
        rw [c] at cg
        have hx : bits .xor .u64 IntKind.u64.max (18446744073709551615 : Int) = 0 := not_word 18446744073709551615 (by omega)
        have cg2 : w.cell? ⟨g, k, none⟩ = some (.int .u64 18446744073709551615) := cg
        clear lt c hk2 cg
        go_wp2_with fail
        refine (tz_zero _).mono ?_
        rintro e w' ⟨rfl, rfl⟩
        go_wp2
        go_round
        case rel => exact ⟨k + 1, by omega, s, by go_num⟩
        case measure => simp [intOf]; omega
      · have hx := not_word (W.getD k 0) lt
        have Z : Hid (∀ _ : Unit, _) := fun _ => tz_any (18446744073709551615 - W.getD k 0) w (by omega) (by omega) HB.out
        obtain ⟨q, eq, hf⟩ := odd_spec 64 (18446744073709551615 - W.getD k 0) (by omega) (by omega)
        generalize Lib.ntzAux 64 (18446744073709551615 - W.getD k 0) = f at *
        obtain ⟨p1, p2⟩ := part_word HT.out.wd hk2 hf eq hG.out
        have NM : Hid (∀ w, _) := fun w => number_any k f w (by omega) (by omega)
        have hf2 : (f : Int) < 64 := by omega
        have fn : ((f : Int) == 64) = false := by simp; omega
        by_cases d : 64 * k + f < m
        · obtain ⟨n, hn⟩ : ∃ n, 64 * k + f + 1 = n := ⟨_, rfl⟩
          have hs := HF.out _ (ff_some m O _ d (p2 d) fun t ht => (p1 t ht).resolve_right (by omega))
          have e1 : V = ((64 * k + f + 1 : Nat) : Int) := hs.1
          have e2 : E = 0 := hs.2.1
          have e3 : U = st O (64 * k + f + 1) true := hs.2.2
          have TS : Hid _ := t_store HT.out k _ (wd_set HT.out.wd k f hk2 hf d)
          have ho : bits .or .u64 ((W.getD k 0 : Nat) : Int) ((2 : Int) ^ f) = ((W.getD k 0 ||| 2 ^ f : Nat) : Int) := by
            rw [show ((2 : Int) ^ f) = ((2 ^ f : Nat) : Int) by simp]
            exact bits_or_u64_nat (W.getD k 0) (2 ^ f) lt (pow_lt f hf)
          have hp : IntKind.u64.wrap ((2 : Int) ^ f) = (2 : Int) ^ f := by rw [pow_word f hf]; simp
          have fg : w.frozen? ⟨g, k, none⟩ = false := HT.out.sg.free _
          have d2 : ((64 * k + f + 1 : Nat) : Int) ≤ m := by omega
          rw [hn] at NM TS d2 e1 e3
          subst e1
          subst e2
          subst e3
          clear hs hn
          clear p1 p2 d eq c lt hk2 hf
          generalize W.getD k 0 ||| 2 ^ f = z at *
          generalize 18446744073709551615 - W.getD k 0 = y at *
          generalize W.getD k 0 = x at *
          go_wp2_with fail
          refine (Z.out ()).mono ?_
          rintro e w' ⟨rfl, rfl⟩
          go_wp2_with fail
          refine (NM.out _).mono ?_
          rintro e w' ⟨rfl, rfl⟩
          go_wp2
          go_ret2
          exact ⟨rfl, ⟨_, TS.out⟩, (Fr.refl _ _ _).setCell (Or.inr (by simp)) _⟩
        · have hs := HF.out _ (ff_none m O fun t ht => (p1 t (by omega)).resolve_right (by omega))
          have e1 : V = 0 := hs.1
          have e2 : E = 5 := hs.2.1
          have e3 : U = O := hs.2.2
          subst e1
          subst e2
          subst e3
          clear hs
          have d2 : (m : Int) < ((64 * k + f + 1 : Nat) : Int) := by omega
          generalize 64 * k + f + 1 = n at *
          clear p1 p2 d eq c lt hk2 hf
          generalize 18446744073709551615 - W.getD k 0 = y at *
          generalize W.getD k 0 = x at *
          go_wp2_with fail
          refine (Z.out ()).mono ?_
          rintro e w' ⟨rfl, rfl⟩
          go_wp2_with fail
          refine (NM.out _).mono ?_
          rintro e w' ⟨rfl, rfl⟩
          go_wp2
          go_ret2
          exact ⟨rfl, ⟨_, HT.out⟩, Fr.refl _ _ _⟩
    · have hs := HF.out _ (ff_none m O fun t ht => hG.out t (by have h1 := HT.out.wd.len; have h2 := HN.out; omega) ht)
      have e1 : V = 0 := hs.1
      have e2 : E = 5 := hs.2.1
      have e3 : U = O := hs.2.2
      subst e1
      subst e2
      subst e3
      clear hs
      go_wp2
      go_ret2
      exact ⟨rfl, ⟨_, HT.out⟩, Fr.refl _ _ _⟩
end Go.Proofs.YtfipiifickdeiaaGreatDoor.Wrk
namespace Go.Proofs.YtfipiifickdeiaaGreatDoor.Wrk
open Fif
open Go.ChangeShapes Go.WideShapes Go.ChangeAt Go.RowKit
open Fm Sl Cm
/-- The queue at block a + 1, its ring at a. -/
def QB (w : World) (a : Nat) (L : List Int) : Prop := ∃ f r, Q w (a + 1) a 32 f r L
theorem QB.lt {w : World} {a : Nat} {L : List Int} (h : QB w a L) : a + 1 < w.heap.size := by
  obtain ⟨f, r, q⟩ := h
  exact q.sb.lt
theorem QB.keep {B : Nat} {S : List Nat} {w w' : World} {a : Nat} {L : List Int} (h : QB w a L) (k : Fr B S w w') (hb : a + 1 < B) (h1 : a ∉ S) (h2 : a + 1 ∉ S) : QB w' a L := by
  obtain ⟨f, r, q⟩ := h
  exact ⟨f, r, q.keep k ⟨hb, by omega⟩ ⟨h2, h1⟩⟩
theorem QB.heap {w w1 : World} {a : Nat} {L : List Int} (h : QB w a L) (e : w1.heap = w.heap) : QB w1 a L := by
  obtain ⟨f, r, q⟩ := h
  exact ⟨f, r, q.heap e⟩
theorem qpush_any {w : World} {a : Nat} {L : List Int} (n : Int) (h : QB w a L) :
    Calls Tryz.prog 275 #[.pointer (some ⟨a + 1, 0, none⟩), .int .i64 n] w fun e w' => e = .returned (.int .i64 (pE 32 L n)) ∧ QB w' a (pL 32 L n) ∧ Fr w.heap.size [a + 1, a] w w' := by
  obtain ⟨f, r, q⟩ := h
  refine (push_any n w q).mono ?_
  rintro e w' ⟨rfl, ⟨r', q'⟩, k⟩
  exact ⟨rfl, ⟨_, _, q'⟩, k⟩
theorem qpop_any {w : World} {a : Nat} {L : List Int} (h : QB w a L) :
    Calls Tryz.prog 184 #[.pointer (some ⟨a + 1, 0, none⟩)] w fun e w' => e = .returned (.tuple #[.int .i64 (L.headD 0), .int .i64 (fE L)]) ∧ QB w' a L.tail ∧ Fr w.heap.size [a + 1, a] w w' := by
  obtain ⟨f, r, q⟩ := h
  refine (pop_any w q).mono ?_
  rintro e w' ⟨rfl, ⟨r', q'⟩, k⟩
  exact ⟨rfl, ⟨_, _, q'⟩, k⟩
theorem qlen_any {w : World} {a : Nat} {L : List Int} (h : QB w a L) :
    Calls Tryz.prog 96 #[.pointer (some ⟨a + 1, 0, none⟩)] w fun e w' => e = .returned (.int .i64 (L.length : Int)) ∧ w' = w := by
  obtain ⟨f, r, q⟩ := h
  exact len_any w q
theorem qnew_any (w : World) :
    Calls Tryz.prog 50 #[.int .i64 32] w fun e w' => e = .returned (.tuple #[.pointer (some ⟨w.heap.size + 1, 0, none⟩), .int .i64 0]) ∧ QB w' w.heap.size [] ∧ Fr w.heap.size [] w w' ∧ w'.heap.size = w.heap.size + 2 := by
  refine (new_at 32 w (by decide) (by decide)).mono ?_
  rintro e w' ⟨rfl, q, f, z⟩
  exact ⟨rfl, ⟨_, _, q⟩, f, z⟩
/-- The queues of p lists; a: where each one's ring lies. -/
def QS (w : World) (a : Nat → Nat) (p : Nat) (K : Ks) : Prop := ∀ c, c < p → QB w (a c) (ks K c)
theorem QS.keep {B : Nat} {S : List Nat} {w w' : World} {a : Nat → Nat} {p : Nat} {K : Ks} (h : QS w a p K) (k : Fr B S w w') (hB : w.heap.size ≤ B) (hS : ∀ c, c < p → a c ∉ S ∧ a c + 1 ∉ S) : QS w' a p K := fun c hc =>
  (h c hc).keep k (Nat.lt_of_lt_of_le (h c hc).lt hB) (hS c hc).1 (hS c hc).2
theorem QS.heap {w w1 : World} {a : Nat → Nat} {p : Nat} {K : Ks} (h : QS w a p K) (e : w1.heap = w.heap) : QS w1 a p K := fun c hc => (h c hc).heap e
/-- One queue has turned. -/
theorem QS.put {w w' : World} {a : Nat → Nat} {p : Nat} {K : Ks} (h : QS w a p K) {c : Nat} (hc : c < K.length) (sep : ∀ d, d < p → d ≠ c → a d + 1 < a c ∨ a c + 1 < a d) {X : List Int} (q : QB w' (a c) X) (f : Fr w.heap.size [a c + 1, a c] w w') : QS w' a p (K.set c X) := fun d hd => by
  rw [ks_set _ _ _ _ hc]
  by_cases e : d = c
  · subst e
    rw [if_pos rfl]
    exact q
  · rw [if_neg e]
    have s := sep d hd e
    exact (h d hd).keep f (h d hd).lt (by simp; omega) (by simp; omega)
/-- The table of pointers to queues. -/
def qtab (a : Nat → Nat) (n : Nat) : List Value := (List.range n).map fun c => .pointer (some ⟨a c + 1, 0, none⟩)
theorem qtab_get (a : Nat → Nat) (n c : Nat) (h : c < n) : (qtab a n)[c]? = some (.pointer (some ⟨a c + 1, 0, none⟩)) := by
  unfold qtab
  rw [List.getElem?_map, List.getElem?_range h]
  rfl
/-- The table while the first k queues are there. -/
def qtak (a : Nat → Nat) (n k : Nat) : List Value := (List.range n).map fun c => if c < k then .pointer (some ⟨a c + 1, 0, none⟩) else .pointer none
theorem qtak_get (a : Nat → Nat) (n k c : Nat) (h : c < n) : (qtak a n k)[c]? = some (if c < k then .pointer (some ⟨a c + 1, 0, none⟩) else .pointer none) := by
  unfold qtak
  rw [List.getElem?_map, List.getElem?_range h]
  rfl
theorem qtak_set (a : Nat → Nat) (n k : Nat) : (qtak a n k).set k (.pointer (some ⟨a k + 1, 0, none⟩)) = qtak a n (k + 1) := by
  apply List.ext_getElem?
  intro c
  by_cases hc : c < n
  · rw [qtak_get _ _ _ _ hc, List.getElem?_set]
    by_cases e : k = c
    · subst e
      rw [if_pos rfl, if_pos (by simpa [qtak] using hc), if_pos (by omega)]
    · rw [if_neg e, qtak_get _ _ _ _ hc]
      by_cases q : c < k
      · rw [if_pos q, if_pos (by omega)]
      · rw [if_neg q, if_neg (by omega)]
  · rw [List.getElem?_eq_none (by simp [qtak]; omega), List.getElem?_eq_none (by simp [qtak]; omega)]
theorem qtak_all (a : Nat → Nat) (n : Nat) : qtak a n n = qtab a n := by
  unfold qtak qtab
  apply List.map_congr_left
  intro c hc
  rw [if_pos (List.mem_range.1 hc)]
theorem made_qtak (a : Nat → Nat) (n : Nat) : madeCells #[Value.pointer none] n = (qtak a n 0).toArray := by
  apply Array.ext
  · simp [size_madeCells, qtak]
  · intro i h1 h2
    simp [madeCells, qtak, Nat.mod_one]
theorem Tryz.infoPQ : (Tryz.prog.info? 147).map (fun i => (i.zero, i.size, i.bytes)) = some (some (.pointer none), 1, 8) := by kernel_rfl
/-- A number is given out: what the table says now. -/
theorem oc_push {K K' : Ks} {id : Int} {c : Nat} (e : ∀ j, onc K' j = if j = id then some c else onc K j) (h1 : 1 ≤ id) (j : Nat) : oc K' j = if j = id.toNat then true else oc K j := by
  unfold oc
  rw [e]
  by_cases q : j = id.toNat
  · rw [if_pos q, if_pos (by omega)]
    rfl
  · rw [if_neg q, if_neg (by omega)]
theorem ff_same {O : Nat → Bool} {K : Ks} (o : ∀ i, 1 ≤ i → i ≤ 32 → O i = oc K i) : ff 32 O = nx K := by
  cases e : nx K with
  | some i =>
    obtain ⟨h1, h2⟩ := nx_some e
    refine ff_some 32 O i h1 (by rw [o _ (by omega) (by omega)]; exact oc_false.2 h2) fun j hj => ?_
    rw [o _ (by omega) (by omega)]
    unfold nx ff at e
    rw [List.find?_range_eq_some] at e
    simpa using e.2.2 j hj
  | none =>
    refine ff_none 32 O fun j hj => ?_
    rw [o _ (by omega) (by omega)]
    unfold nx ff at e
    rw [List.find?_eq_none] at e
    simpa using e j (List.mem_range.2 hj)
end Go.Proofs.YtfipiifickdeiaaGreatDoor.Wrk
namespace Go.Proofs.YtfipiifickdeiaaGreatDoor.Wrk
open Fif
open Go.ChangeShapes Go.WideShapes Go.ChangeAt Go.RowKit
theorem key3 : Maps.Keyed Tryz.prog 3 := Maps.int_keyed Tryz.underlying3
/-- The map at block b, of m entries with elements of type te, is f. -/
def MQ (te : TypeId) (w : World) (b m : Nat) (f : Int → Option Int) : Prop :=
  ∃ D : DataW Unit, w.ownsMap Tryz.prog 3 (plainElem Tryz.prog te) b m D ∧ Maps.size D = m ∧ ∀ id, (Lit.int .i64 id).wf = true → Maps.has D (.int .i64 id) = (f id).isSome ∧ D.atKey (.int .i64 id) (.lit (.int .i64 0)) = .lit (.int .i64 ((f id).getD 0))
theorem MQ.lt {te : TypeId} {w : World} {b m : Nat} {f : Int → Option Int} (h : MQ te w b m f) : b < w.heap.size := by obtain ⟨D, o, _⟩ := h; exact o.lt
theorem MQ.same {te : TypeId} {w w' : World} {b m : Nat} {f : Int → Option Int} (h : MQ te w b m f) (e : w'.heap[b]? = w.heap[b]?) : MQ te w' b m f := by
  obtain ⟨D, ⟨es, clock, hb, rest⟩, k⟩ := h
  exact ⟨D, ⟨es, clock, e.trans hb, rest⟩, k⟩
theorem MQ.keep {te : TypeId} {B : Nat} {S : List Nat} {w w' : World} {b m : Nat} {f : Int → Option Int} (h : MQ te w b m f) (k : Fr B S w w') (hb : b < B) (hs : b ∉ S) : MQ te w' b m f := h.same (k.block b hb hs)
theorem MQ.blk {te : TypeId} {w : World} {b m : Nat} {f : Int → Option Int} (h : MQ te w b m f) {g : Nat} {cs : List Value} {t : TypeId} (k : Blk w g cs t) : b ≠ g := by
  intro e
  subst e
  obtain ⟨D, ⟨es, clock, hb, _⟩, _⟩ := h
  have := (show w.heap[b]? = _ from k).symm.trans hb
  cases this
theorem mq_tight {te : TypeId} {w : World} {b n : Nat} {D : DataW Unit} (h : w.ownsMap Tryz.prog 3 (plainElem Tryz.prog te) b n D) : w.ownsMap Tryz.prog 3 (plainElem Tryz.prog te) b (Maps.size D) D := by
  obtain ⟨es, clock, hb, F, _, rfl⟩ := h
  refine ⟨es, clock, hb, F, ?_, rfl⟩
  rw [Maps.size_eq, length_read]
  exact Nat.le_refl _
theorem mq_new {te : TypeId} (w : World) : MQ te (w.alloc (.map #[] 0)) w.heap.size 0 (fun _ => none) :=
  ⟨_, World.ownsMap_made w Tryz.prog 3 _, rfl, fun _ _ => ⟨rfl, rfl⟩⟩
section
variable {te tm : TypeId}
/-- One is put in, that is there or not. -/
theorem mq_put (he : Tryz.prog.underlying te = some (.int .i64)) (hm : Tryz.prog.underlying tm = some (.map 3 te)) {w : World} {b m : Nat} {f : Int → Option Int} (h : MQ te w b m f) (hn : m ≤ 100000) {id : Int} (hw : (Lit.int .i64 id).wf = true) {c : Int} (hc : (Lit.int .i64 c).wf = true) :
    ∃ w', (Instr.mapUpdate tm (.map (some b)) (.int .i64 id) (.int .i64 c)).run Tryz.prog w = .ok () w' ∧ MQ te w' b (if (f id).isSome = true then m else m + 1) (fun j => if j = id then some c else f j) ∧ Fr w.heap.size [b] w w' := by
  obtain ⟨D, o, s, k⟩ := h
  obtain ⟨w', hrun, r1, r2⟩ := o.store key3 hm (by unfold maxLen; omega) (Maps.keyOf_int_mk Tryz.underlying3 hw) (plainElem_int he hc)
  have sz : Maps.size (D.put (.int .i64 id) (.lit (.int .i64 c))) = if (f id).isSome = true then m else m + 1 := by
    rw [Maps.size_put (o.tidy key3), (k id hw).1, s]
  refine ⟨w', hrun, ⟨_, sz ▸ mq_tight r1, sz, fun j hj => ?_⟩, ?_⟩
  · dsimp only
    by_cases e : j = id
    · subst e
      rw [if_pos rfl]
      have kl : WideAt.IsKeyLit (Lit.int .i64 j) := trivial
      exact ⟨Maps.has_put_same o.isMap kl _, Maps.atKey_put_same o.isMap kl _ _⟩
    · rw [if_neg e]
      have ne : (Lit.int .i64 j) ≠ Lit.int .i64 id := fun q => e (by cases q; rfl)
      rw [Maps.has_put_other ne, Maps.atKey_put_other ne]
      exact k j hj
  · have g := r2.grown
    exact ⟨g.os, g.tape, g.output, g.size, fun k hk hs => g.block k hk (fun e => hs (by cases e; simp))⟩
/-- One is taken out. -/
theorem mq_del (hm : Tryz.prog.underlying tm = some (.map 3 te)) {w : World} {b m : Nat} {f : Int → Option Int} (h : MQ te w b m f) {id : Int} (hw : (Lit.int .i64 id).wf = true) (hi : (f id).isSome = true) (ty : TypeId) :
    ∃ w', (Builtin.delete_ #[tm, 3] ty #[.map (some b), .int .i64 id]).run Tryz.prog w = .ok (.tuple #[]) w' ∧ MQ te w' b (m - 1) (fun j => if j = id then none else f j) ∧ Fr w.heap.size [b] w w' := by
  obtain ⟨D, o, s, k⟩ := h
  obtain ⟨w', hrun, r1, r2⟩ := o.drop key3 hm (Maps.keyOf_int_mk Tryz.underlying3 hw) ty
  have sz : Maps.size (D.del (.int .i64 id)) = m - 1 := by
    have := Maps.size_del (k := .int .i64 id) (o.tidy key3)
    rw [(k id hw).1, hi, s] at this
    simp at this
    omega
  refine ⟨w', hrun, ⟨_, sz ▸ mq_tight r1, sz, fun j hj => ?_⟩, ?_⟩
  · dsimp only
    by_cases e : j = id
    · subst e
      rw [if_pos rfl]
      exact ⟨Maps.has_del_same, Maps.atKey_del_same _⟩
    · rw [if_neg e]
      have ne : (Lit.int .i64 j) ≠ Lit.int .i64 id := fun q => e (by cases q; rfl)
      rw [Maps.has_del_other ne, Maps.atKey_del_other ne]
      exact k j hj
  · have g := r2.grown
    exact ⟨g.os, g.tape, g.output, g.size, fun k hk hs => g.block k hk (fun e => hs (by cases e; simp))⟩
end
end Go.Proofs.YtfipiifickdeiaaGreatDoor.Wrk
namespace Go.Proofs.YtfipiifickdeiaaGreatDoor.Wrk
open Fif
open Go.ChangeShapes Go.WideShapes Go.ChangeAt Go.RowKit
open Fm Sl Cm
theorem wf_small (c : Int) (h0 : -1 ≤ c) (h : c ≤ 64) : (Lit.int .i64 c).wf = true := by
  simp [Lit.wf, IntKind.min, IntKind.max, IntKind.signed, IntKind.bits]
  omega
/-- Where a list's ring lies; the last one is no core's. -/
def ga (s n c : Nat) : Nat := if c = n then s + 2 else s + 7 + 2 * c
theorem ga_core {s n c : Nat} (h : c < n) : ga s n c = s + 7 + 2 * c := if_neg (by omega)
theorem ga_free (s n : Nat) : ga s n n = s + 2 := if_pos rfl
def gz (s n : Nat) : List Nat := List.range' s (7 + 2 * n)
theorem mem_gz (s n k : Nat) : k ∈ gz s n ↔ s ≤ k ∧ k < s + (7 + 2 * n) := by unfold gz; rw [List.mem_range'_1]
theorem ga_in {s n c : Nat} (h : c ≤ n) : s + 2 ≤ ga s n c ∧ ga s n c + 1 < s + (7 + 2 * n) ∧ (ga s n c + 1 < s + 4 ∨ s + 7 ≤ ga s n c) := by
  by_cases e : c = n
  · subst e
    rw [ga_free]
    omega
  · rw [ga_core (by omega)]
    omega
theorem ga_sep {s n c d : Nat} (hc : c ≤ n) (hd : d ≤ n) (h : d ≠ c) : ga s n d + 1 < ga s n c ∨ ga s n c + 1 < ga s n d := by
  by_cases e : c = n
  · subst e
    rw [ga_free, ga_core (by omega)]
    omega
  · rw [ga_core (c := c) (by omega)]
    by_cases f : d = n
    · subst f
      rw [ga_free]
      omega
    · rw [ga_core (by omega)]
      omega
/-- Lists of works at s + 6: numbers at s + 1, the free list at s + 3, the table at s + 4, the map at s + 5. -/
structure GB (w : World) (s n : Nat) (K : Ks) (W : List Nat) (O : Nat → Bool) (m : Nat) (f : Int → Option Int) : Prop where
  st : Blk w (s + 6) [.pointer (some ⟨s + 1, 0, none⟩), .slice (some ⟨s + 4, 0, none⟩) n n, .pointer (some ⟨s + 3, 0, none⟩), .map (some (s + 5))] 152
  tb : Blk w (s + 4) (qtab (ga s n) n) 147
  sl : T w (s + 1) s 32 W O
  mp : MQ 3 w (s + 5) m f
  qs : QS w (ga s n) (n + 1) K
  kn : K.length = n + 1
  n1 : 1 ≤ n
  n2 : n ≤ 64
section
variable {w w' : World} {s n : Nat} {K : Ks} {W : List Nat} {O : Nat → Bool} {m : Nat} {f : Int → Option Int}
theorem GB.hi (h : GB w s n K W O m f) : s + (7 + 2 * n) ≤ w.heap.size := by
  have := (h.qs (n - 1) (by omega)).lt
  have := h.n1
  rw [ga_core (by omega)] at *
  omega
theorem GB.c0 (h : GB w s n K W O m f) : w.cell? ⟨s + 6, 0, none⟩ = some (.pointer (some ⟨s + 1, 0, none⟩)) := h.st.cell 0
theorem GB.c1 (h : GB w s n K W O m f) : w.cell? ⟨s + 6, 1, none⟩ = some (.slice (some ⟨s + 4, 0, none⟩) n n) := h.st.cell 1
theorem GB.c2 (h : GB w s n K W O m f) : w.cell? ⟨s + 6, 2, none⟩ = some (.pointer (some ⟨ga s n n + 1, 0, none⟩)) := by rw [ga_free]; exact h.st.cell 2
theorem GB.c3 (h : GB w s n K W O m f) : w.cell? ⟨s + 6, 3, none⟩ = some (.map (some (s + 5))) := h.st.cell 3
theorem GB.cq (h : GB w s n K W O m f) {c : Nat} (hc : c < n) : w.cell? ⟨s + 4, c, none⟩ = some (.pointer (some ⟨ga s n c + 1, 0, none⟩)) := by
  rw [h.tb.cell c, qtab_get _ _ _ hc]
theorem GB.heap {w1 : World} (h : GB w s n K W O m f) (e : w1.heap = w.heap) : GB w1 s n K W O m f := ⟨h.st.heap e, h.tb.heap e, h.sl.heap e, h.mp.same (by rw [e]), h.qs.heap e, h.kn, h.n1, h.n2⟩
theorem GB.keep {B : Nat} {S : List Nat} (h : GB w s n K W O m f) (k : Fr B S w w') (hB : w.heap.size ≤ B) (hS : ∀ k, s ≤ k → k < s + (7 + 2 * n) → k ∉ S) : GB w' s n K W O m f := by
  have hi := h.hi
  refine ⟨h.st.keep k (by omega) (hS _ (by omega) (by omega)), h.tb.keep k (by omega) (hS _ (by omega) (by omega)), h.sl.keep k ⟨by omega, by omega⟩ ⟨hS _ (by omega) (by omega), hS _ (by omega) (by omega)⟩, h.mp.keep k (by omega) (hS _ (by omega) (by omega)), h.qs.keep k hB fun c hc => ?_, h.kn, h.n1, h.n2⟩
  obtain ⟨h1, h2, _⟩ := ga_in (s := s) (n := n) (c := c) (by omega)
  exact ⟨hS _ (by omega) (by omega), hS _ (by omega) (by omega)⟩
/-- One queue has turned. -/
theorem GB.put (h : GB w s n K W O m f) {c : Nat} (hc : c ≤ n) {X : List Int} (q : QB w' (ga s n c) X) (k : Fr w.heap.size [ga s n c + 1, ga s n c] w w') : GB w' s n (K.set c X) W O m f ∧ Fr w.heap.size (gz s n) w w' := by
  have hi := h.hi
  obtain ⟨h1, h2, h3⟩ := ga_in (s := s) (n := n) (c := c) hc
  have nz : ∀ k, (k < s + 2 ∨ (s + 4 ≤ k ∧ k < s + 7)) → k ∉ [ga s n c + 1, ga s n c] := fun k hk e => by simp at e; omega
  refine ⟨⟨h.st.keep k (by omega) (nz _ (by omega)), h.tb.keep k (by omega) (nz _ (by omega)), h.sl.keep k ⟨by omega, by omega⟩ ⟨nz _ (by omega), nz _ (by omega)⟩, h.mp.keep k (by omega) (nz _ (by omega)), h.qs.put (by rw [h.kn]; omega) (fun d hd e => ga_sep hc (by omega) e) q k, by simp [h.kn], h.n1, h.n2⟩, k.mono (Nat.le_refl _) fun k _ hk e => hk ((mem_gz s _ k).2 (by simp at e; omega))⟩
/-- The numbers have turned. -/
theorem GB.slot (h : GB w s n K W O m f) {W' : List Nat} {O' : Nat → Bool} (q : T w' (s + 1) s 32 W' O') (k : Fr w.heap.size [s + 1, s] w w') : GB w' s n K W' O' m f ∧ Fr w.heap.size (gz s n) w w' := by
  have hi := h.hi
  have nz : ∀ k, s + 2 ≤ k → k ∉ [s + 1, s] := fun k hk e => by simp at e; omega
  refine ⟨⟨h.st.keep k (by omega) (nz _ (by omega)), h.tb.keep k (by omega) (nz _ (by omega)), q, h.mp.keep k (by omega) (nz _ (by omega)), h.qs.keep k (Nat.le_refl _) fun c hc => ?_, h.kn, h.n1, h.n2⟩, k.mono (Nat.le_refl _) fun k _ hk e => hk ((mem_gz s _ k).2 (by simp at e; omega))⟩
  obtain ⟨h1, _, _⟩ := ga_in (s := s) (n := n) (c := c) (by omega)
  exact ⟨nz _ (by omega), nz _ (by omega)⟩
/-- The map has turned. -/
theorem GB.map (h : GB w s n K W O m f) {m' : Nat} {f' : Int → Option Int} (q : MQ 3 w' (s + 5) m' f') (k : Fr w.heap.size [s + 5] w w') : GB w' s n K W O m' f' ∧ Fr w.heap.size (gz s n) w w' := by
  have hi := h.hi
  refine ⟨⟨h.st.keep k (by omega) (by simp), h.tb.keep k (by omega) (by simp), h.sl.keep k ⟨by omega, by omega⟩ ⟨by simp, by simp⟩, q, h.qs.keep k (Nat.le_refl _) fun c hc => ?_, h.kn, h.n1, h.n2⟩, k.mono (Nat.le_refl _) fun k _ hk e => hk ((mem_gz s _ k).2 (by simp at e; omega))⟩
  obtain ⟨_, _, h3⟩ := ga_in (s := s) (n := n) (c := c) (by omega)
  exact ⟨by simp; omega, by simp; omega⟩
end
/-- Lists of n cores. -/
def GX (w : World) (s n : Nat) (K : Ks) : Prop := ∃ W O, GB w s n K W O (cnt (oc K)) (wq n K) ∧ Al K ∧ ∀ i, 1 ≤ i → i ≤ 32 → O i = oc K i
theorem GX.heap {w w1 : World} {s n : Nat} {K : Ks} (h : GX w s n K) (e : w1.heap = w.heap) : GX w1 s n K := by
  obtain ⟨W, O, b, a, o⟩ := h
  exact ⟨W, O, b.heap e, a, o⟩
theorem GX.keep {B : Nat} {S : List Nat} {w w' : World} {s n : Nat} {K : Ks} (h : GX w s n K) (f : Fr B S w w') (hB : w.heap.size ≤ B) (hS : ∀ k, s ≤ k → k < s + (7 + 2 * n) → k ∉ S) : GX w' s n K := by
  obtain ⟨W, O, b, a, o⟩ := h
  exact ⟨W, O, b.keep f hB hS, a, o⟩
theorem GX.below {w w' : World} {s n : Nat} {K : Ks} (h : GX w s n K) (f : Below w.heap.size w w') : GX w' s n K := h.keep (Fr.of_below f) (Nat.le_refl _) (by simp)
theorem GX.hi {w : World} {s n : Nat} {K : Ks} (h : GX w s n K) : s + (7 + 2 * n) ≤ w.heap.size := by
  obtain ⟨W, O, b, a, o⟩ := h
  exact b.hi
theorem GX.al {w : World} {s n : Nat} {K : Ks} (h : GX w s n K) : Al K := by
  obtain ⟨W, O, b, a, o⟩ := h
  exact a
theorem GX.kn {w : World} {s n : Nat} {K : Ks} (h : GX w s n K) : K.length = n + 1 := by
  obtain ⟨W, O, b, a, o⟩ := h
  exact b.kn
/-- The queue of a core. -/
theorem gon_yes {w : World} {t tb n a : Nat} (c : Nat) (hc : (c : Int) < n) (c1 : w.cell? ⟨t, 1, none⟩ = some (.slice (some ⟨tb, 0, none⟩) n n)) (cw : w.cell? ⟨tb, c, none⟩ = some (.pointer (some ⟨a, 0, none⟩))) :
    Calls Tryz.prog 168 #[.pointer (some ⟨t, 0, none⟩), .int .i64 (c : Int)] w fun e w' => e = .returned (.tuple #[.pointer (some ⟨a, 0, none⟩), .int .i64 0]) ∧ w' = w := by
  go_enter Tryz.func168, Tryz.ntmps168
  go_wp2
  go_ret2
  exact ⟨rfl, rfl⟩
theorem gon_no {w : World} {t tb n : Nat} (c : Int) (hc : isc n c = false) (c1 : w.cell? ⟨t, 1, none⟩ = some (.slice (some ⟨tb, 0, none⟩) n n)) :
    Calls Tryz.prog 168 #[.pointer (some ⟨t, 0, none⟩), .int .i64 c] w fun e w' => e = .returned (.tuple #[.pointer none, .int .i64 3]) ∧ w' = w := by
  rcases isc_false hc with q | ⟨q, q2⟩
  · clear hc
    go_enter Tryz.func168, Tryz.ntmps168
    go_wp2
    go_ret2
    exact ⟨rfl, rfl⟩
  · clear hc
    go_enter Tryz.func168, Tryz.ntmps168
    go_wp2
    go_ret2
    exact ⟨rfl, rfl⟩
/-- The queue of a list. -/
theorem glist_yes {w : World} {s n k : Nat} {K : Ks} {W : List Nat} {O : Nat → Bool} {m : Nat} {f : Int → Option Int} (c : Int) (h : GB w s n K W O m f) (hp : pc n c = some k) :
    Calls Tryz.prog 97 #[.pointer (some ⟨s + 6, 0, none⟩), .int .i64 c] w fun e w' => e = .returned (.tuple #[.pointer (some ⟨ga s n k + 1, 0, none⟩), .int .i64 0]) ∧ w' = w := by
  unfold pc at hp
  by_cases e : c = -1
  · rw [if_pos e] at hp
    obtain rfl : n = k := by injection hp
    have c2 := h.c2
    subst e
    generalize ga s n n + 1 = a at *
    clear h hp
    go_enter Tryz.func97, Tryz.ntmps97
    go_wp2
    go_ret2
    exact ⟨rfl, rfl⟩
  · rw [if_neg e] at hp
    cases i : isc n c with
    | false =>
      rw [i, if_neg (by decide)] at hp
      cases hp
    | true =>
      rw [i, if_pos rfl] at hp
      obtain ⟨q, rfl, hq, hq2⟩ := isc_nat i
      obtain rfl : q = k := by injection hp
      have C : Hid (∀ _ : Unit, _) := fun _ => gon_yes q hq2 h.c1 (h.cq hq)
      have e2 : ((q : Int) == -1) = false := by simp
      generalize ga s n q + 1 = a at *
      clear h hp i e
      go_enter Tryz.func97, Tryz.ntmps97
      go_wp2_with fail
      refine (C.out ()).mono ?_
      rintro e w' ⟨rfl, rfl⟩
      go_wp2
      go_ret2
      exact ⟨rfl, rfl⟩
theorem glist_no {w : World} {s n : Nat} {K : Ks} {W : List Nat} {O : Nat → Bool} {m : Nat} {f : Int → Option Int} (c : Int) (h : GB w s n K W O m f) (hp : pc n c = none) :
    Calls Tryz.prog 97 #[.pointer (some ⟨s + 6, 0, none⟩), .int .i64 c] w fun e w' => e = .returned (.tuple #[.pointer none, .int .i64 3]) ∧ w' = w := by
  unfold pc at hp
  by_cases e : c = -1
  · rw [if_pos e] at hp
    cases hp
  · rw [if_neg e] at hp
    cases i : isc n c with
    | true =>
      rw [i, if_pos rfl] at hp
      cases hp
    | false =>
      have C : Hid (∀ _ : Unit, _) := fun _ => gon_no c i h.c1
      have e2 : (c == -1) = false := by simpa using e
      clear h hp i e
      go_enter Tryz.func97, Tryz.ntmps97
      go_wp2_with fail
      refine (C.out ()).mono ?_
      rintro e w' ⟨rfl, rfl⟩
      go_wp2
      go_ret2
      exact ⟨rfl, rfl⟩
set_option maxHeartbeats 400000 in
theorem gload_any {w : World} {s n : Nat} {K : Ks} (c : Int) (h : GX w s n K) :
    Calls Tryz.prog 62 #[.pointer (some ⟨s + 6, 0, none⟩), .int .i64 c] w fun e w' => e = .returned (.int .i64 ((wlL n K c).length : Int)) ∧ w' = w := by
  obtain ⟨W, O, b, a, o⟩ := h
  unfold wlL
  cases e : pc n c with
  | none =>
    have C : Hid (∀ _ : Unit, _) := fun _ => glist_no c b e
    have D : Hid (∀ w, _) := fun w => nil_len w
    show Calls _ _ _ _ fun e w' => e = .returned (.int .i64 0) ∧ w' = w
    clear b a o e
    go_enter Tryz.func62, Tryz.ntmps62
    go_wp2_with fail
    refine (C.out ()).mono ?_
    rintro e w' ⟨rfl, rfl⟩
    go_wp2_with fail
    refine (D.out _).mono ?_
    rintro e w' ⟨rfl, rfl⟩
    go_wp2
    go_ret
    exact ⟨rfl, rfl⟩
  | some k =>
    have C : Hid (∀ _ : Unit, _) := fun _ => glist_yes c b e
    have D : Hid (∀ _ : Unit, _) := fun _ => qlen_any (b.qs k (by have := pc_lt e; omega))
    show Calls _ _ _ _ fun e w' => e = .returned (.int .i64 ((ks K k).length : Int)) ∧ w' = w
    generalize (ks K k).length = l at *
    clear b a o e
    go_enter Tryz.func62, Tryz.ntmps62
    go_wp2_with fail
    refine (C.out ()).mono ?_
    rintro e w' ⟨rfl, rfl⟩
    go_wp2_with fail
    refine (D.out ()).mono ?_
    rintro e w' ⟨rfl, rfl⟩
    go_wp2
    go_ret
    exact ⟨rfl, rfl⟩
/-- A number that has left its queue is free: what forget does of it. -/
theorem forget_yes {w : World} {s n : Nat} {K K' : Ks} {W : List Nat} {O : Nat → Bool} (id : Int) (b : GB w s n K' W O (cnt (oc K)) (wq n K)) (a : Al K) (a' : Al K') (o : ∀ i, 1 ≤ i → i ≤ 32 → O i = oc K i) {c : Nat} (hc : onc K id = some c) (e' : ∀ j, onc K' j = if j = id then none else onc K j) :
    Calls Tryz.prog 189 #[.pointer (some ⟨s + 6, 0, none⟩), .int .i64 id] w fun e w' => e = .returned (.int .i64 0) ∧ GX w' s n K' ∧ Fr w.heap.size (gz s n) w w' := by
  have hr := a.rg c id (onc_spec hc)
  have hi := wf_small id (by omega) (by omega)
  obtain ⟨w1, r1, M1, f1⟩ := mq_del (tm := 125) Tryz.underlying125 b.mp hi (by rw [wq_some, hc]; rfl) 0
  obtain ⟨b1, v1⟩ := b.map M1 f1
  have c3 := b.c3
  have d0 := b1.c0
  have t1 : ((id.toNat : Nat) : Int) = id := by omega
  have h1 : oc K id.toNat = true := by unfold oc; rw [t1, hc]; rfl
  have h2 : oc K' id.toNat = false := by unfold oc; rw [t1, e', if_pos rfl]; rfl
  have h3 : ∀ j, j ≠ id.toNat → oc K j = oc K' j := fun j hj => by unfold oc; rw [e', if_neg (by omega)]
  have hs1 : hs 32 O id = true := by rw [hs_is a o]; unfold haB; rw [hc]; rfl
  have ST : Hid (Calls Tryz.prog 185 #[.pointer (some ⟨s + 1, 0, none⟩), .int .i64 id] w1 fun e w' => e = .returned (.int .i64 0) ∧ GX w' s n K' ∧ Fr w.heap.size (gz s n) w w') := by
    refine (sgive_any id w1 b1.sl).mono ?_
    rintro e w3 ⟨rfl, ⟨W', q3⟩, f3⟩
    obtain ⟨b3, v3⟩ := b1.slot q3 f3
    refine ⟨by unfold gE; rw [if_pos hs1], ⟨W', gO 32 O id, ?_, a', fun i i1 i2 => ?_⟩, v1.trans (v3.less v1.size)⟩
    · have e3 : cnt (oc K) = cnt (oc K') + 1 := cnt_in (by omega) (by omega) h3 h1 h2
      have e4 : (fun j => if j = id then none else wq n K j) = wq n K' := funext fun j => by
        unfold wq
        rw [e']
        split <;> rfl
      rw [e3, Nat.add_sub_cancel, e4] at b3
      exact b3
    · unfold gO
      rw [if_pos hs1]
      unfold st
      by_cases q : i = id.toNat
      · rw [if_pos q, q, h2]
      · rw [if_neg q, o i i1 i2, h3 i q]
  clear M1 f1 b1 v1 b a a' o hc hr hi h1 h2 h3 hs1 t1 e'
  go_enter Tryz.func189, Tryz.ntmps189
  go_wp2_with fail
  refine ST.out.mono ?_
  rintro e w3 ⟨rfl, FF⟩
  have FH : Hid _ := FF
  clear FF
  go_wp2
  go_ret
  exact ⟨rfl, FH.out⟩
end Go.Proofs.YtfipiifickdeiaaGreatDoor.Wrk
namespace Go.Proofs.YtfipiifickdeiaaGreatDoor.Wrk
open Fif
open Go.ChangeShapes Go.WideShapes Go.ChangeAt Go.RowKit
open Fm Sl Cm
theorem put3 {w : World} {b m : Nat} {f : Int → Option Int} (h : MQ 3 w b m f) (hm : m ≤ 100000) {id c : Int} (hi : (Lit.int .i64 id).wf = true) (hc : (Lit.int .i64 c).wf = true) :
    ∃ w', (Instr.mapUpdate 125 (.map (some b)) (.int .i64 id) (.int .i64 c)).run Tryz.prog w = .ok () w' ∧ MQ 3 w' b (if (f id).isSome = true then m else m + 1) (fun j => if j = id then some c else f j) ∧ Fr w.heap.size [b] w w' :=
  mq_put (tm := 125) Tryz.underlying3 Tryz.underlying125 h hm hi hc
/-- Behind a number that is given out, laid into the map, and queued. -/
theorem queue_end {w1 w2 w3 : World} {s n : Nat} {K : Ks} {W' : List Nat} {O : Nat → Bool} {k i : Nat} {c : Int} (a : Al K) (o : ∀ i, 1 ≤ i → i ≤ 32 → O i = oc K i) (hk : pc n c = some k) (hx : nx K = some i)
    (b2 : GB w2 s n K W' (st O (i + 1) true) (cnt (oc K) + 1) (fun j => if j = ((i + 1 : Nat) : Int) then some c else wq n K j)) (q : QB w3 (ga s n k) (ks K k ++ [((i + 1 : Nat) : Int)])) (f3 : Fr w2.heap.size [ga s n k + 1, ga s n k] w2 w3) (f1 : Fr w1.heap.size (gz s n) w1 w2) :
    GX w3 s n (K.set k (ks K k ++ [((i + 1 : Nat) : Int)])) ∧ Fr w1.heap.size (gz s n) w1 w3 := by
  obtain ⟨h1, h2⟩ := nx_some hx
  have kl := pc_lt hk
  obtain ⟨a2, e2⟩ := al_push a (c := k) (by have := b2.kn; omega) h2 (by omega) (by omega)
  obtain ⟨b3, g3⟩ := b2.put kl q f3
  have t1 : (((i + 1 : Nat) : Int)).toNat = i + 1 := by omega
  have e3 : cnt (oc (K.set k (ks K k ++ [((i + 1 : Nat) : Int)]))) = cnt (oc K) + 1 := by
    refine cnt_in (k := i + 1) (by omega) (by omega) (fun j hj => ?_) ?_ (oc_false.2 h2)
    · rw [oc_push e2 (by omega), if_neg (by omega)]
    · rw [oc_push e2 (by omega), if_pos (by omega)]
  have e4 : (fun j => if j = ((i + 1 : Nat) : Int) then some c else wq n K j) = wq n (K.set k (ks K k ++ [((i + 1 : Nat) : Int)])) := funext fun j => by
    unfold wq
    rw [e2]
    split
    · rw [Option.map_some, nm_pc hk]
    · rfl
  rw [← e3, e4] at b3
  refine ⟨⟨W', _, b3, a2, fun j j1 j2 => ?_⟩, f1.trans (g3.less f1.size)⟩
  rw [oc_push e2 (by omega)]
  unfold st
  by_cases z : j = i + 1
  · rw [if_pos z, if_pos (by omega)]
  · rw [if_neg z, if_neg (by omega), o j j1 j2]
set_option maxRecDepth 100000 in
set_option maxHeartbeats 1000000 in
theorem queue_any {w : World} {s n : Nat} {K : Ks} (c : Int) (h : GX w s n K) (ht : Tab w) :
    Calls Tryz.prog 223 #[.pointer (some ⟨s + 6, 0, none⟩), .int .i64 c] w fun e w' => e = .returned (.tuple #[.int .i64 (quN n K c), .int .i64 (quE n K c)]) ∧ GX w' s n (quK n K c) ∧ Fr w.heap.size (gz s n) w w' := by
  have HX : Hid (GX w s n K) := h
  obtain ⟨W, O, b, a, o⟩ := h
  unfold quN quE quK
  cases e : pc n c with
  | none =>
    have C : Hid (∀ _ : Unit, _) := fun _ => glist_no c b e
    rw [if_neg (by decide), if_neg (by decide)]
    show Calls _ _ _ _ fun e w' => e = .returned (.tuple #[.int .i64 0, .int .i64 3]) ∧ GX w' s n K ∧ Fr w.heap.size (gz s n) w w'
    clear b a o e
    go_enter Tryz.func223, Tryz.ntmps223
    go_wp2_with fail
    refine (C.out ()).mono ?_
    rintro e w' ⟨rfl, rfl⟩
    go_wp2
    go_ret2
    exact ⟨rfl, HX.out, Fr.refl _ _ _⟩
  | some k =>
    have kl := pc_lt e
    have C : Hid (∀ _ : Unit, _) := fun _ => glist_yes c b e
    rw [if_pos (show (some k).isSome = true from rfl), if_pos (show (some k).isSome = true from rfl)]
    have c0 := b.c0
    have D : Hid (∀ _ : Unit, _) := fun _ => stake_any w b.sl ht
    rw [ff_same o] at D
    cases hx : nx K with
    | none =>
      rw [hx] at D
      have FE : Hid (∀ w1 : World, (∃ W', T w1 (s + 1) s 32 W' (tO O none)) → Fr w.heap.size [s + 1, s] w w1 → GX w1 s n K ∧ Fr w.heap.size (gz s n) w w1) := fun w1 ⟨W', q⟩ f => by
        obtain ⟨b1, f1⟩ := b.slot q f
        exact ⟨⟨W', _, b1, a, o⟩, f1⟩
      rw [show tN none = 0 from rfl, show tE none = 5 from rfl] at D ⊢
      show Calls _ _ _ _ fun e w' => e = .returned (.tuple #[.int .i64 0, .int .i64 5]) ∧ GX w' s n K ∧ Fr w.heap.size (gz s n) w w'
      generalize ga s n k + 1 = gk at *
      clear b a o e HX
      go_enter Tryz.func223, Tryz.ntmps223
      go_wp2_with fail
      refine (C.out ()).mono ?_
      rintro e w' ⟨rfl, rfl⟩
      go_wp2_with fail
      refine (D.out ()).mono ?_
      rintro e w1 ⟨rfl, q, f⟩
      have F1 : Hid _ := FE.out w1 q f
      clear q f FE
      go_wp2
      go_ret2
      exact ⟨rfl, F1.out⟩
    | some i =>
      rw [hx] at D
      obtain ⟨h1, h2⟩ := nx_some hx
      have rm := a.room h2 (by omega) (by omega) (c := k) (by have := b.kn; omega)
      obtain ⟨p1, p2⟩ := push_ok (onc_none.1 h2 k) rm
      have wc : (Lit.int .i64 c).wf = true := wf_small c (by rw [← nm_pc e]; unfold nm; split <;> omega) (by rw [← nm_pc e]; have := b.n2; unfold nm; split <;> omega)
      have FE : Hid (∀ w1 : World, (∃ W', T w1 (s + 1) s 32 W' (tO O (some i))) → Fr w.heap.size [s + 1, s] w w1 → w1.cell? ⟨s + 6, 3, none⟩ = some (.map (some (s + 5))) ∧ ∃ w2, (Instr.mapUpdate 125 (.map (some (s + 5))) (.int .i64 ((i + 1 : Nat) : Int)) (.int .i64 c)).run Tryz.prog w1 = .ok () w2 ∧ Hid (Calls Tryz.prog 275 #[.pointer (some ⟨ga s n k + 1, 0, none⟩), .int .i64 ((i + 1 : Nat) : Int)] w2 fun e w' => e = .returned (.int .i64 0) ∧ GX w' s n (K.set k (ks K k ++ [((i + 1 : Nat) : Int)])) ∧ Fr w.heap.size (gz s n) w w')) := fun w1 ⟨W', q⟩ f => by
        obtain ⟨b1, f1⟩ := b.slot q f
        obtain ⟨w2, r2, M2, f2⟩ := put3 b1.mp (by have := cnt_le (oc K); omega) (id := ((i + 1 : Nat) : Int)) (wf_small _ (by omega) (by omega)) wc
        rw [wq_some, h2, if_neg (by decide)] at M2
        obtain ⟨b2, g2⟩ := b1.map M2 f2
        refine ⟨b1.c3, w2, r2, ?_⟩
        refine (qpush_any ((i + 1 : Nat) : Int) (b2.qs k (by omega))).mono ?_
        rw [p1, p2]
        rintro e w3 ⟨rfl, q3, f3⟩
        exact ⟨rfl, queue_end a o (by assumption) hx b2 q3 f3 (f1.trans (g2.less f1.size))⟩
      rw [show tN (some i) = ((i + 1 : Nat) : Int) from rfl, show tE (some i) = 0 from rfl] at D ⊢
      show Calls _ _ _ _ fun e w' => e = .returned (.tuple #[.int .i64 ((i + 1 : Nat) : Int), .int .i64 0]) ∧ GX w' s n (K.set k (ks K k ++ [((i + 1 : Nat) : Int)])) ∧ Fr w.heap.size (gz s n) w w'
      clear b a o e HX hx h1 h2 rm p1 p2 wc
      generalize ((i + 1 : Nat) : Int) = x at *
      generalize ga s n k + 1 = gk at *
      go_enter Tryz.func223, Tryz.ntmps223
      go_wp2_with fail
      refine (C.out ()).mono ?_
      rintro e w' ⟨rfl, rfl⟩
      go_wp2_with fail
      refine (D.out ()).mono ?_
      rintro e w1 ⟨rfl, q, f⟩
      obtain ⟨d3, w2, r2, F1⟩ := FE.out w1 q f
      clear q f FE
      go_wp2_with fail
      refine F1.out.mono ?_
      rintro e w3 ⟨rfl, q2⟩
      have F2 : Hid _ := q2
      clear q2
      go_wp2
      go_ret2
      exact ⟨rfl, F2.out⟩
set_option maxRecDepth 100000 in
set_option maxHeartbeats 1000000 in
theorem gtake_any {w : World} {s n : Nat} {K : Ks} (c : Int) (h : GX w s n K) :
    Calls Tryz.prog 128 #[.pointer (some ⟨s + 6, 0, none⟩), .int .i64 c] w fun e w' => e = .returned (.tuple #[.int .i64 (taN n K c), .int .i64 (taE n K c)]) ∧ GX w' s n (taK n K c) ∧ Fr w.heap.size (gz s n) w w' := by
  have HX : Hid (GX w s n K) := h
  obtain ⟨W, O, b, a, o⟩ := h
  unfold taN taE taK
  cases e : isc n c with
  | false =>
    have C : Hid (∀ _ : Unit, _) := fun _ => gon_no c e b.c1
    rw [if_neg (by decide), if_neg (by decide), if_neg (by decide)]
    clear b a o e
    go_enter Tryz.func128, Tryz.ntmps128
    go_wp2_with fail
    refine (C.out ()).mono ?_
    rintro e w' ⟨rfl, rfl⟩
    go_wp2
    go_ret2
    exact ⟨rfl, HX.out, Fr.refl _ _ _⟩
  | true =>
    obtain ⟨k, rfl, hk, hk2⟩ := isc_nat e
    rw [if_pos rfl, if_pos rfl, if_pos rfl]
    have C : Hid (∀ _ : Unit, _) := fun _ => gon_yes k hk2 b.c1 (b.cq hk)
    have L : Hid (∀ _ : Unit, _) := fun _ => qlen_any (b.qs k (by omega))
    obtain ⟨p, hp⟩ : ∃ p, taP n K (k : Int) = p := ⟨_, rfl⟩
    have hpn : p ≤ n := by rw [← hp]; unfold taP; rw [Int.toNat_natCast]; split <;> omega
    have D : Hid (∀ _ : Unit, _) := fun _ => qpop_any (b.qs p (by omega))
    rw [hp]
    have c2 := b.c2
    have HP : Hid ((ks K k = [] → p = n) ∧ (ks K k ≠ [] → p = k)) := by
      rw [← hp]
      unfold taP
      rw [Int.toNat_natCast]
      exact ⟨fun z => by rw [if_pos z], fun z => by rw [if_neg z]⟩
    by_cases hq : ks K p = []
    · have FE : Hid (∀ w1 : World, QB w1 (ga s n p) (ks K p).tail → Fr w.heap.size [ga s n p + 1, ga s n p] w w1 → GX w1 s n (K.set p (ks K p).tail) ∧ Fr w.heap.size (gz s n) w w1) := fun w1 q f => by
        obtain ⟨b1, f1⟩ := b.put hpn q f
        rw [set_same K p _ (by rw [hq]; rfl)] at b1 ⊢
        exact ⟨⟨W, O, b1, a, o⟩, f1⟩
      have e0 : ks K k = [] := by
        by_cases z : ks K k = []
        · exact z
        · rw [HP.out.2 z] at hq; exact hq
      have pn : p = n := HP.out.1 e0
      rw [show (ks K k).length = 0 by rw [e0]; rfl] at L
      rw [show fE (ks K p) = 12 from if_pos hq, show (ks K p).headD 0 = 0 by rw [hq]; rfl] at D ⊢
      subst pn
      generalize ga s p p + 1 = gn at *
      generalize ga s p k + 1 = gk at *
      clear b a o e HX hq e0 HP hp
      go_enter Tryz.func128, Tryz.ntmps128
      go_wp2_with fail
      refine (C.out ()).mono ?_
      rintro e w' ⟨rfl, rfl⟩
      go_wp2_with fail
      refine (L.out ()).mono ?_
      rintro e w' ⟨rfl, rfl⟩
      go_wp2_with fail
      refine (D.out ()).mono ?_
      rintro e w1 ⟨rfl, q, f⟩
      have F1 : Hid _ := FE.out w1 q f
      clear q f FE
      go_wp2
      go_ret2
      exact ⟨rfl, F1.out⟩
    · obtain ⟨a2, e2⟩ := al_pop a hq
      have FE : Hid (∀ w1 : World, QB w1 (ga s n p) (ks K p).tail → Fr w.heap.size [ga s n p + 1, ga s n p] w w1 → Hid (Calls Tryz.prog 189 #[.pointer (some ⟨s + 6, 0, none⟩), .int .i64 ((ks K p).headD 0)] w1 fun e w' => e = .returned (.int .i64 0) ∧ GX w' s n (K.set p (ks K p).tail) ∧ Fr w.heap.size (gz s n) w w')) := fun w1 q f => by
        obtain ⟨b1, f1⟩ := b.put hpn q f
        refine (forget_yes ((ks K p).headD 0) b1 a a2 o ((onc_iff a).2 (hd_mem hq)) e2).mono ?_
        rintro e w2 ⟨rfl, q2, f2⟩
        exact ⟨rfl, q2, f1.trans (f2.less f1.size)⟩
      rw [show fE (ks K p) = 0 from if_neg hq] at D ⊢
      by_cases z : ks K k = []
      · have pn : p = n := HP.out.1 z
        rw [show (ks K k).length = 0 by rw [z]; rfl] at L
        subst pn
        generalize ga s p p + 1 = gn at *
        generalize ga s p k + 1 = gk at *
        clear b a o e HX hq HP z hp a2 e2
        generalize (ks K p).headD 0 = x at *
        go_enter Tryz.func128, Tryz.ntmps128
        go_wp2_with fail
        refine (C.out ()).mono ?_
        rintro e w' ⟨rfl, rfl⟩
        go_wp2_with fail
        refine (L.out ()).mono ?_
        rintro e w' ⟨rfl, rfl⟩
        go_wp2_with fail
        refine (D.out ()).mono ?_
        rintro e w1 ⟨rfl, q, f⟩
        have F1 := FE.out w1 q f
        clear q f FE
        go_wp2_with fail
        refine F1.out.mono ?_
        rintro e w2 ⟨rfl, q2⟩
        have F2 : Hid _ := q2
        clear q2
        go_wp2
        go_ret2
        exact ⟨rfl, F2.out⟩
      · have pk : p = k := HP.out.2 z
        subst pk
        have z0 : (((ks K p).length : Int) == 0) = false := by
          have := List.length_pos_iff.2 z
          simp
          omega
        generalize (ks K p).length = l at *
        generalize ga s n p + 1 = gk at *
        clear b a o e HX hq HP z hp a2 e2 c2
        generalize (ks K p).headD 0 = x at *
        go_enter Tryz.func128, Tryz.ntmps128
        go_wp2_with fail
        refine (C.out ()).mono ?_
        rintro e w' ⟨rfl, rfl⟩
        go_wp2_with fail
        refine (L.out ()).mono ?_
        rintro e w' ⟨rfl, rfl⟩
        go_wp2_with fail
        refine (D.out ()).mono ?_
        rintro e w1 ⟨rfl, q, f⟩
        have F1 := FE.out w1 q f
        clear q f FE
        go_wp2_with fail
        refine F1.out.mono ?_
        rintro e w2 ⟨rfl, q2⟩
        have F2 : Hid _ := q2
        clear q2
        go_wp2
        go_ret2
        exact ⟨rfl, F2.out⟩
end Go.Proofs.YtfipiifickdeiaaGreatDoor.Wrk
namespace Go.Proofs.YtfipiifickdeiaaGreatDoor.Wrk
open Fif
open Go.ChangeShapes Go.WideShapes Go.ChangeAt Go.RowKit
open Fm Sl Cm
/-- Lists while their queues are made: the first k are there. -/
structure GN (w wr : World) (s n k : Nat) (W : List Nat) : Prop where
  bel : Below s w wr
  st : Blk wr (s + 6) [.pointer (some ⟨s + 1, 0, none⟩), .slice (some ⟨s + 4, 0, none⟩) n n, .pointer (some ⟨s + 3, 0, none⟩), .map (some (s + 5))] 152
  tb : Blk wr (s + 4) (qtak (ga s n) n k) 147
  sl : T wr (s + 1) s 32 W fun _ => false
  mp : MQ 3 wr (s + 5) 0 fun _ => none
  fq : QB wr (s + 2) []
  qs : ∀ c, c < k → QB wr (s + 7 + 2 * c) []
  sz : wr.heap.size = s + 7 + 2 * k
theorem gn_step {w wr w1 : World} {s n k : Nat} {W : List Nat} (h : GN w wr s n k W) (hk : k < n) (q : QB w1 (s + 7 + 2 * k) []) (f : Fr wr.heap.size [] wr w1) (z : w1.heap.size = wr.heap.size + 2) :
    GN w (w1.setCell ⟨s + 4, k, none⟩ (.pointer (some ⟨s + 7 + 2 * k + 1, 0, none⟩))) s n (k + 1) W := by
  have hz := h.sz
  have fs : Fr w1.heap.size [s + 4] w1 (w1.setCell ⟨s + 4, k, none⟩ (.pointer (some ⟨s + 7 + 2 * k + 1, 0, none⟩))) := (Fr.refl _ _ _).setCell (Or.inr (by simp)) _
  refine ⟨(h.bel.trans ((f.below (by simp)).mono (by omega))).setCell (p := ⟨s + 4, k, none⟩) (by show s ≤ s + 4; omega) _, (h.st.keep f h.st.lt (by simp)).other (p := ⟨s + 4, k, none⟩) (by show s + 6 ≠ s + 4; omega) _, ?_, ?_, ?_, ?_, fun c hc => ?_, ?_⟩
  · rw [← qtak_set, ga_core hk]
    exact (h.tb.keep f h.tb.lt (by simp)).set k _
  · have s1 := h.sl.keep f ⟨h.sl.sb.lt, h.sl.sg.lt⟩ (by simp)
    exact s1.keep fs ⟨s1.sb.lt, s1.sg.lt⟩ ⟨by simp, by simp⟩
  · have m1 := h.mp.keep f h.mp.lt (by simp)
    exact m1.keep fs m1.lt (by simp)
  · have q1 := h.fq.keep f h.fq.lt (by simp) (by simp)
    exact q1.keep fs q1.lt (by simp) (by simp)
  · by_cases e : c = k
    · subst e
      exact q.keep fs q.lt (by simp; omega) (by simp; omega)
    · have q1 := (h.qs c (by omega)).keep f (h.qs c (by omega)).lt (by simp) (by simp)
      exact q1.keep fs q1.lt (by simp; omega) (by simp; omega)
  · show (w1.heap.modify _ _).size = _
    rw [Array.size_modify, z, hz]
    omega
theorem gn_end {w wr : World} {s n : Nat} {W : List Nat} (h : GN w wr s n n W) (h1 : 1 ≤ n) (h2 : n ≤ 64) : GX wr s n (List.replicate (n + 1) []) ∧ Below s w wr := by
  have e1 := oc_nil (n + 1)
  have e2 : wq n (List.replicate (n + 1) []) = fun _ => none := funext fun j => by unfold wq; rw [onc_nil]; rfl
  have e3 : cnt (fun _ => false) = 0 := by decide
  refine ⟨⟨W, fun _ => false, ⟨h.st, by rw [← qtak_all]; exact h.tb, h.sl, by rw [e1, e2, e3]; exact h.mp, ?_, by simp, h1, h2⟩, al_nil _, fun i _ _ => by rw [e1]⟩, h.bel⟩
  intro c hc
  rw [ks_nil]
  by_cases e : c = n
  · rw [e, ga_free]
    exact h.fq
  · rw [ga_core (by omega)]
    exact h.qs c (by omega)
set_option maxRecDepth 100000 in
set_option maxHeartbeats 1000000 in
theorem gnew_any (n : Nat) (w : World) (h1 : (1 : Int) ≤ n) (h2 : (n : Int) ≤ 64) :
    Calls Tryz.prog 24 #[.int .i64 (n : Int)] w fun e w' => e = .returned (.tuple #[.pointer (some ⟨w.heap.size + 6, 0, none⟩), .int .i64 0]) ∧ GX w' w.heap.size n (List.replicate (n + 1) []) ∧ Below w.heap.size w w' := by
  have NS : Hid (∀ _ : Unit, _) := fun _ => snew_any 32 w (by decide) (by decide)
  have C : Hid (∀ w, _) := fun w => qnew_any w
  have hmk := run_make_row' (P := Tryz.prog) 150 147 (.pointer none) 8 Tryz.underlying150 Tryz.infoPQ rfl .i64 .i64 n (by omega) (by omega)
  have hmm := @run_makeMap Tryz.prog
  obtain ⟨s, hs⟩ : ∃ s, w.heap.size = s := ⟨_, rfl⟩
  have HS : Hid (w.heap.size = s) := hs
  rw [hs] at NS ⊢
  rw [made_qtak (ga s n) n] at hmk
  obtain ⟨T0, hT⟩ : ∃ T0, qtak (ga s n) n 0 = T0 := ⟨_, rfl⟩
  have HT : Hid (qtak (ga s n) n 0 = T0) := hT
  rw [hT] at hmk
  clear hT hs
  go_enter Tryz.func24, Tryz.ntmps24
  go_wp2_with fail
  refine (NS.out ()).mono ?_
  rintro e w1 ⟨rfl, ⟨W, sl⟩, f1, z1⟩
  have SL : Hid (T w1 (s + 1) s 32 W fun _ => false) := sl
  have F1 : Hid (Fr s [] w w1 ∧ w1.heap.size = s + 2) := ⟨f1, z1⟩
  have C1 : Hid (∀ _ : Unit, _) := fun _ => C.out w1
  rw [z1] at C1
  clear sl f1 z1 NS
  go_wp2_with fail
  refine (C1.out ()).mono ?_
  rintro e w2 ⟨rfl, fq, f2, z2⟩
  have P0 : Hid (GN w (((w2.alloc (.cells T0.toArray 147)).alloc (.map #[] 0)).alloc (.cells #[.pointer (some ⟨s + 1, 0, none⟩), .slice (some ⟨s + 4, 0, none⟩) n n, .pointer (some ⟨s + 3, 0, none⟩), .map (some (s + 5))] 152)) s n 0 W) := by
    obtain ⟨f1, z1⟩ := F1.out
    have b0 : Below s w w2 := (f1.below (by simp)).trans ((f2.less (by omega)).below (by simp))
    have s2 := SL.out.keep f2 ⟨by omega, by omega⟩ ⟨by simp, by simp⟩
    refine ⟨((b0.alloc (by omega) _).alloc (by simp; omega) _).alloc (by simp; omega) _, ?_, ?_, ?_, ?_, ?_, fun c hc => by omega, by simp [z2]⟩
    · have := Blk.new ((w2.alloc (.cells T0.toArray 147)).alloc (.map #[] 0)) [.pointer (some ⟨s + 1, 0, none⟩), .slice (some ⟨s + 4, 0, none⟩) n n, .pointer (some ⟨s + 3, 0, none⟩), .map (some (s + 5))] 152
      rwa [World.size_alloc, World.size_alloc, z2] at this
    · rw [HT.out]
      have := ((Blk.new w2 T0 147).alloc (.map #[] 0)).alloc (.cells #[.pointer (some ⟨s + 1, 0, none⟩), .slice (some ⟨s + 4, 0, none⟩) n n, .pointer (some ⟨s + 3, 0, none⟩), .map (some (s + 5))] 152)
      rwa [z2] at this
    · exact ⟨((s2.sb.alloc _).alloc _).alloc _, ((s2.sg.alloc _).alloc _).alloc _, s2.wd⟩
    · have m0 := mq_new (te := 3) (w2.alloc (.cells T0.toArray 147))
      rw [World.size_alloc, z2] at m0
      exact m0.keep ((Fr.refl _ [] _).alloc (Nat.le_refl _) _) m0.lt (by simp)
    · exact fq.keep ((((Fr.refl w2.heap.size [] w2).alloc (Nat.le_refl _) _).alloc (by simp) _).alloc (by simp; omega) _) fq.lt (by simp) (by simp)
  have z3 : w2.heap.size = s + 4 := by rw [z2]
  clear fq f2 C1 SL F1 z2
  go_wp2
  simp only [z3] at *
  go_loopw [43] (fun i wr => ∃ (k : Nat), (k : Int) ≤ n ∧ i = .int .i64 (k : Int) ∧ GN w wr s n k W) (fun i _ => n - (intOf i).toNat)
  case atStart => exact ⟨0, by omega, rfl, P0.out⟩
  case round =>
    obtain ⟨k, hk, rfl, P⟩ := hrel
    by_cases c : (k : Int) < n
    · have C1 : Hid (∀ _ : Unit, _) := fun _ => C.out wr
      have ST : Hid (∀ w1 : World, QB w1 wr.heap.size [] → Fr wr.heap.size [] wr w1 → w1.heap.size = wr.heap.size + 2 → GN w (w1.setCell ⟨s + 4, k, none⟩ (.pointer (some ⟨wr.heap.size + 1, 0, none⟩))) s n (k + 1) W) := fun w1 q f z => by
        rw [P.sz] at q ⊢
        exact gn_step P (by omega) q f z
      have cb : Hid (∀ w1 : World, Fr wr.heap.size [] wr w1 → w1.cell? ⟨s + 4, k, none⟩ = some (.pointer none) ∧ w1.frozen? ⟨s + 4, k, none⟩ = false ∧ w1.cell? ⟨s + 6, 1, none⟩ = some (.slice (some ⟨s + 4, 0, none⟩) n n)) := fun w1 f => by
        have b := P.tb.keep f P.tb.lt (by simp)
        have b2 := P.st.keep f P.st.lt (by simp)
        exact ⟨by rw [b.cell, qtak_get _ _ _ _ (by omega), if_neg (by omega)], b.free k, b2.cell 1⟩
      clear P P0
      go_wp2_with fail
      refine (C1.out ()).mono ?_
      rintro e w1 ⟨rfl, q, f, z⟩
      obtain ⟨c1, f1, s1⟩ := cb.out w1 f
      have N2 : Hid _ := ST.out w1 q f z
      clear q f z
      go_wp2
      go_roundw
      case rel => exact ⟨k + 1, by omega, by go_num, N2.out⟩
      case measure => simp [intOf]; omega
    · obtain rfl : k = n := by omega
      have e : Hid _ := gn_end P (by omega) (by omega)
      clear P P0
      go_wp2
      go_ret2
      exact ⟨rfl, e.out⟩
end Go.Proofs.YtfipiifickdeiaaGreatDoor.Wrk
namespace Go.Proofs.YtfipiifickdeiaaGreatDoor.Wrk
open Fif
open Go.ChangeShapes Go.WideShapes Go.ChangeAt Go.RowKit
open Fm Sl Cm
/-- Where core c's ring lies. -/
def ca (s c : Nat) : Nat := s + 4 + 2 * c
/-- All blocks of it. -/
def cz (s p : Nat) : List Nat := List.range' s (4 + 2 * p)
theorem mem_cz (s p k : Nat) : k ∈ cz s p ↔ s ≤ k ∧ k < s + (4 + 2 * p) := by unfold cz; rw [List.mem_range'_1]
/-- A box at s + 3, its numbers at s + 1, the table of its queues at s + 2. -/
structure CB (w : World) (s : Nat) (K : Ks) (W : List Nat) (O : Nat → Bool) : Prop where
  st : Blk w (s + 3) [.pointer (some ⟨s + 1, 0, none⟩), .slice (some ⟨s + 2, 0, none⟩) K.length K.length] 154
  tb : Blk w (s + 2) (qtab (ca s) K.length) 147
  sl : T w (s + 1) s 32 W O
  qs : QS w (ca s) K.length K
  n1 : 1 ≤ K.length
  n2 : K.length ≤ 64
section
variable {w w' : World} {s : Nat} {K : Ks} {W : List Nat} {O : Nat → Bool}
theorem CB.hi (h : CB w s K W O) : s + (4 + 2 * K.length) ≤ w.heap.size := by
  have := (h.qs (K.length - 1) (by have := h.n1; omega)).lt
  have := h.n1
  unfold ca at *
  omega
theorem CB.c0 (h : CB w s K W O) : w.cell? ⟨s + 3, 0, none⟩ = some (.pointer (some ⟨s + 1, 0, none⟩)) := h.st.cell 0
theorem CB.c1 (h : CB w s K W O) : w.cell? ⟨s + 3, 1, none⟩ = some (.slice (some ⟨s + 2, 0, none⟩) K.length K.length) := h.st.cell 1
theorem CB.cq (h : CB w s K W O) {c : Nat} (hc : c < K.length) : w.cell? ⟨s + 2, c, none⟩ = some (.pointer (some ⟨ca s c + 1, 0, none⟩)) := by
  rw [h.tb.cell c, qtab_get _ _ _ hc]
theorem CB.heap {w1 : World} (h : CB w s K W O) (e : w1.heap = w.heap) : CB w1 s K W O := ⟨h.st.heap e, h.tb.heap e, h.sl.heap e, h.qs.heap e, h.n1, h.n2⟩
theorem CB.keep {B : Nat} {S : List Nat} (h : CB w s K W O) (f : Fr B S w w') (hB : w.heap.size ≤ B) (hS : ∀ k, s ≤ k → k < s + (4 + 2 * K.length) → k ∉ S) : CB w' s K W O := by
  have hi := h.hi
  refine ⟨h.st.keep f (by omega) (hS _ (by omega) (by omega)), h.tb.keep f (by omega) (hS _ (by omega) (by omega)), h.sl.keep f ⟨by omega, by omega⟩ ⟨hS _ (by omega) (by omega), hS _ (by omega) (by omega)⟩, h.qs.keep f hB fun c hc => ⟨hS _ (by unfold ca; omega) (by unfold ca; omega), hS _ (by unfold ca; omega) (by unfold ca; omega)⟩, h.n1, h.n2⟩
/-- One queue has turned. -/
theorem CB.put (h : CB w s K W O) {c : Nat} (hc : c < K.length) {X : List Int} (q : QB w' (ca s c) X) (f : Fr w.heap.size [ca s c + 1, ca s c] w w') : CB w' s (K.set c X) W O ∧ Fr w.heap.size (cz s K.length) w w' := by
  have hi := h.hi
  have nz : ∀ k, k < s + 4 → k ∉ [ca s c + 1, ca s c] := fun k hk e => by simp at e; unfold ca at e; omega
  refine ⟨⟨?_, ?_, h.sl.keep f ⟨by omega, by omega⟩ ⟨nz _ (by omega), nz _ (by omega)⟩, ?_, by simpa using h.n1, by simpa using h.n2⟩, f.mono (Nat.le_refl _) fun k _ hk e => hk ((mem_cz s _ k).2 (by simp at e; unfold ca at e; omega))⟩
  · rw [List.length_set]
    exact h.st.keep f (by omega) (nz _ (by omega))
  · rw [List.length_set]
    exact h.tb.keep f (by omega) (nz _ (by omega))
  · rw [List.length_set]
    exact h.qs.put hc (fun d hd e => by unfold ca; omega) q f
/-- The numbers have turned. -/
theorem CB.slot (h : CB w s K W O) {W' : List Nat} {O' : Nat → Bool} (q : T w' (s + 1) s 32 W' O') (f : Fr w.heap.size [s + 1, s] w w') : CB w' s K W' O' ∧ Fr w.heap.size (cz s K.length) w w' := by
  have hi := h.hi
  have nz : ∀ k, s + 2 ≤ k → k ∉ [s + 1, s] := fun k hk e => by simp at e; omega
  refine ⟨⟨h.st.keep f (by omega) (nz _ (by omega)), h.tb.keep f (by omega) (nz _ (by omega)), q, h.qs.keep f (Nat.le_refl _) fun c hc => ⟨nz _ (by unfold ca; omega), nz _ (by unfold ca; omega)⟩, h.n1, h.n2⟩, f.mono (Nat.le_refl _) fun k _ hk e => hk ((mem_cz s _ k).2 (by simp at e; omega))⟩
end
/-- A box whose core c has K c. -/
def CX (w : World) (s : Nat) (K : Ks) : Prop := ∃ W O, CB w s K W O ∧ Al K ∧ ∀ i, 1 ≤ i → i ≤ 32 → O i = oc K i
theorem CX.heap {w w1 : World} {s : Nat} {K : Ks} (h : CX w s K) (e : w1.heap = w.heap) : CX w1 s K := by
  obtain ⟨W, O, b, a, o⟩ := h
  exact ⟨W, O, b.heap e, a, o⟩
theorem CX.keep {B : Nat} {S : List Nat} {w w' : World} {s : Nat} {K : Ks} (h : CX w s K) (f : Fr B S w w') (hB : w.heap.size ≤ B) (hS : ∀ k, s ≤ k → k < s + (4 + 2 * K.length) → k ∉ S) : CX w' s K := by
  obtain ⟨W, O, b, a, o⟩ := h
  exact ⟨W, O, b.keep f hB hS, a, o⟩
theorem CX.below {w w' : World} {s : Nat} {K : Ks} (h : CX w s K) (f : Below w.heap.size w w') : CX w' s K := h.keep (Fr.of_below f) (Nat.le_refl _) (by simp)
theorem CX.hi {w : World} {s : Nat} {K : Ks} (h : CX w s K) : s + (4 + 2 * K.length) ≤ w.heap.size := by
  obtain ⟨W, O, b, a, o⟩ := h
  exact b.hi
theorem CX.al {w : World} {s : Nat} {K : Ks} (h : CX w s K) : Al K := by
  obtain ⟨W, O, b, a, o⟩ := h
  exact a
theorem CX.n {w : World} {s : Nat} {K : Ks} (h : CX w s K) : 1 ≤ K.length ∧ K.length ≤ 64 := by
  obtain ⟨W, O, b, a, o⟩ := h
  exact ⟨b.n1, b.n2⟩
/-- The queue of a core. -/
theorem con_yes {w : World} {t tb n a : Nat} (c : Nat) (hc : (c : Int) < n) (c1 : w.cell? ⟨t, 1, none⟩ = some (.slice (some ⟨tb, 0, none⟩) n n)) (cw : w.cell? ⟨tb, c, none⟩ = some (.pointer (some ⟨a, 0, none⟩))) :
    Calls Tryz.prog 95 #[.pointer (some ⟨t, 0, none⟩), .int .i64 (c : Int)] w fun e w' => e = .returned (.tuple #[.pointer (some ⟨a, 0, none⟩), .int .i64 0]) ∧ w' = w := by
  go_enter Tryz.func95, Tryz.ntmps95
  go_wp2
  go_ret2
  exact ⟨rfl, rfl⟩
theorem con_no {w : World} {t tb n : Nat} (c : Int) (hc : isc n c = false) (c1 : w.cell? ⟨t, 1, none⟩ = some (.slice (some ⟨tb, 0, none⟩) n n)) :
    Calls Tryz.prog 95 #[.pointer (some ⟨t, 0, none⟩), .int .i64 c] w fun e w' => e = .returned (.tuple #[.pointer none, .int .i64 3]) ∧ w' = w := by
  rcases isc_false hc with q | ⟨q, q2⟩
  · clear hc
    go_enter Tryz.func95, Tryz.ntmps95
    go_wp2
    go_ret2
    exact ⟨rfl, rfl⟩
  · clear hc
    go_enter Tryz.func95, Tryz.ntmps95
    go_wp2
    go_ret2
    exact ⟨rfl, rfl⟩
set_option maxHeartbeats 400000 in
theorem cload_any {w : World} {s : Nat} {K : Ks} (c : Int) (h : CX w s K) :
    Calls Tryz.prog 60 #[.pointer (some ⟨s + 3, 0, none⟩), .int .i64 c] w fun e w' => e = .returned (.int .i64 ((clL K c).length : Int)) ∧ w' = w := by
  obtain ⟨W, O, b, a, o⟩ := h
  unfold clL
  cases e : isc K.length c with
  | false =>
    have C : Hid (∀ _ : Unit, _) := fun _ => con_no c e b.c1
    have D : Hid (∀ w, _) := fun w => nil_len w
    rw [if_neg (by decide), show ((([] : List Int).length : Nat) : Int) = 0 from rfl]
    clear b a o e
    go_enter Tryz.func60, Tryz.ntmps60
    go_wp2_with fail
    refine (C.out ()).mono ?_
    rintro e w' ⟨rfl, rfl⟩
    go_wp2_with fail
    refine (D.out _).mono ?_
    rintro e w' ⟨rfl, rfl⟩
    go_wp2
    go_ret
    exact ⟨rfl, rfl⟩
  | true =>
    obtain ⟨k, rfl, hk, hk2⟩ := isc_nat e
    rw [if_pos rfl, Int.toNat_natCast]
    have C : Hid (∀ _ : Unit, _) := fun _ => con_yes k hk2 b.c1 (b.cq hk)
    have D : Hid (∀ _ : Unit, _) := fun _ => qlen_any (b.qs k hk)
    generalize (ks K k).length = l at *
    clear b a o e
    go_enter Tryz.func60, Tryz.ntmps60
    go_wp2_with fail
    refine (C.out ()).mono ?_
    rintro e w' ⟨rfl, rfl⟩
    go_wp2_with fail
    refine (D.out ()).mono ?_
    rintro e w' ⟨rfl, rfl⟩
    go_wp2
    go_ret
    exact ⟨rfl, rfl⟩
end Go.Proofs.YtfipiifickdeiaaGreatDoor.Wrk
namespace Go.Proofs.YtfipiifickdeiaaGreatDoor.Wrk
open Fif
open Go.ChangeShapes Go.WideShapes Go.ChangeAt Go.RowKit
open Fm Sl Cm
/-- A box while its queues are made: the first k are there. -/
structure CN (w wr : World) (s n k : Nat) (W : List Nat) : Prop where
  bel : Below s w wr
  st : Blk wr (s + 3) [.pointer (some ⟨s + 1, 0, none⟩), .slice (some ⟨s + 2, 0, none⟩) n n] 154
  tb : Blk wr (s + 2) (qtak (ca s) n k) 147
  sl : T wr (s + 1) s 32 W fun _ => false
  qs : ∀ c, c < k → QB wr (ca s c) []
  sz : wr.heap.size = ca s k
theorem cn_step {w wr w1 : World} {s n k : Nat} {W : List Nat} (h : CN w wr s n k W) (q : QB w1 (ca s k) []) (f : Fr wr.heap.size [] wr w1) (z : w1.heap.size = wr.heap.size + 2) :
    CN w (w1.setCell ⟨s + 2, k, none⟩ (.pointer (some ⟨ca s k + 1, 0, none⟩))) s n (k + 1) W := by
  have hz := h.sz
  have fs : Fr w1.heap.size [s + 2] w1 (w1.setCell ⟨s + 2, k, none⟩ (.pointer (some ⟨ca s k + 1, 0, none⟩))) := (Fr.refl _ _ _).setCell (Or.inr (by simp)) _
  have hc : s + 4 ≤ ca s k := by unfold ca; omega
  refine ⟨(h.bel.trans ((f.below (by simp)).mono (by omega))).setCell (p := ⟨s + 2, k, none⟩) (by show s ≤ s + 2; omega) _, (h.st.keep f h.st.lt (by simp)).other (p := ⟨s + 2, k, none⟩) (by show s + 3 ≠ s + 2; omega) _, ?_, ?_, fun c hc => ?_, ?_⟩
  · rw [← qtak_set]
    exact (h.tb.keep f h.tb.lt (by simp)).set k _
  · have s1 := h.sl.keep f ⟨h.sl.sb.lt, h.sl.sg.lt⟩ (by simp)
    exact s1.keep fs ⟨s1.sb.lt, s1.sg.lt⟩ ⟨by simp, by simp⟩
  · by_cases e : c = k
    · subst e
      exact q.keep fs q.lt (by simp; omega) (by simp; omega)
    · have q1 := (h.qs c (by omega)).keep f (h.qs c (by omega)).lt (by simp) (by simp)
      exact q1.keep fs q1.lt (by simp [ca]; omega) (by simp [ca]; omega)
  · show (w1.heap.modify _ _).size = _
    rw [Array.size_modify, z, hz]
    unfold ca
    omega
theorem cn_end {w wr : World} {s n : Nat} {W : List Nat} (h : CN w wr s n n W) (h1 : 1 ≤ n) (h2 : n ≤ 64) : CX wr s (List.replicate n []) ∧ Below s w wr := by
  refine ⟨⟨W, fun _ => false, ⟨by rw [List.length_replicate]; exact h.st, by rw [List.length_replicate, ← qtak_all]; exact h.tb, h.sl, ?_, by simpa using h1, by simpa using h2⟩, al_nil n, fun i _ _ => by rw [oc_nil]⟩, h.bel⟩
  rw [List.length_replicate]
  intro c hc
  rw [ks_nil]
  exact h.qs c hc
set_option maxRecDepth 100000 in
set_option maxHeartbeats 1000000 in
theorem cnew_any (n : Nat) (w : World) (h1 : (1 : Int) ≤ n) (h2 : (n : Int) ≤ 64) :
    Calls Tryz.prog 25 #[.int .i64 (n : Int)] w fun e w' => e = .returned (.tuple #[.pointer (some ⟨w.heap.size + 3, 0, none⟩), .int .i64 0]) ∧ CX w' w.heap.size (List.replicate n []) ∧ Below w.heap.size w w' := by
  have NS : Hid (∀ _ : Unit, _) := fun _ => snew_any 32 w (by decide) (by decide)
  have C : Hid (∀ w, _) := fun w => qnew_any w
  have hmk := run_make_row' (P := Tryz.prog) 150 147 (.pointer none) 8 Tryz.underlying150 Tryz.infoPQ rfl .i64 .i64 n (by omega) (by omega)
  obtain ⟨s, hs⟩ : ∃ s, w.heap.size = s := ⟨_, rfl⟩
  have HS : Hid (w.heap.size = s) := hs
  rw [hs] at NS ⊢
  rw [made_qtak (ca s) n] at hmk
  obtain ⟨T0, hT⟩ : ∃ T0, qtak (ca s) n 0 = T0 := ⟨_, rfl⟩
  have HT : Hid (qtak (ca s) n 0 = T0) := hT
  rw [hT] at hmk
  clear hT hs
  go_enter Tryz.func25, Tryz.ntmps25
  go_wp2_with fail
  refine (NS.out ()).mono ?_
  rintro e w1 ⟨rfl, ⟨W, sl⟩, f1, z1⟩
  have P0 : Hid (CN w ((w1.alloc (.cells T0.toArray 147)).alloc (.cells #[.pointer (some ⟨s + 1, 0, none⟩), .slice (some ⟨s + 2, 0, none⟩) n n] 154)) s n 0 W) := by
    have b0 : Below s w w1 := f1.below (by simp)
    refine ⟨(b0.alloc (by omega) _).alloc (by simp; omega) _, ?_, ?_, ?_, fun c hc => by omega, by simp [ca, z1]⟩
    · have := Blk.new (w1.alloc (.cells T0.toArray 147)) [.pointer (some ⟨s + 1, 0, none⟩), .slice (some ⟨s + 2, 0, none⟩) n n] 154
      rwa [World.size_alloc, z1] at this
    · rw [HT.out]
      have := (Blk.new w1 T0 147).alloc (.cells #[.pointer (some ⟨s + 1, 0, none⟩), .slice (some ⟨s + 2, 0, none⟩) n n] 154)
      rwa [z1] at this
    · exact ⟨(sl.sb.alloc _).alloc _, (sl.sg.alloc _).alloc _, sl.wd⟩
  clear sl f1 NS
  go_wp2
  simp only [z1] at *
  go_loopw [33] (fun i wr => ∃ (k : Nat), (k : Int) ≤ n ∧ i = .int .i64 (k : Int) ∧ CN w wr s n k W) (fun i _ => n - (intOf i).toNat)
  case atStart => exact ⟨0, by omega, rfl, P0.out⟩
  case round =>
    obtain ⟨k, hk, rfl, P⟩ := hrel
    by_cases c : (k : Int) < n
    · have C1 : Hid (∀ _ : Unit, _) := fun _ => C.out wr
      have ST : Hid (∀ w1 : World, QB w1 wr.heap.size [] → Fr wr.heap.size [] wr w1 → w1.heap.size = wr.heap.size + 2 → CN w (w1.setCell ⟨s + 2, k, none⟩ (.pointer (some ⟨wr.heap.size + 1, 0, none⟩))) s n (k + 1) W) := fun w1 q f z => by
        rw [P.sz] at q ⊢
        exact cn_step P q f z
      have cb : Hid (∀ w1 : World, Fr wr.heap.size [] wr w1 → w1.cell? ⟨s + 2, k, none⟩ = some (.pointer none) ∧ w1.frozen? ⟨s + 2, k, none⟩ = false ∧ w1.cell? ⟨s + 3, 1, none⟩ = some (.slice (some ⟨s + 2, 0, none⟩) n n)) := fun w1 f => by
        have b := P.tb.keep f P.tb.lt (by simp)
        have b2 := P.st.keep f P.st.lt (by simp)
        exact ⟨by rw [b.cell, qtak_get _ _ _ _ (by omega), if_neg (by omega)], b.free k, b2.cell 1⟩
      clear P P0
      go_wp2_with fail
      refine (C1.out ()).mono ?_
      rintro e w1 ⟨rfl, q, f, z⟩
      obtain ⟨c1, f1, s1⟩ := cb.out w1 f
      have N2 : Hid _ := ST.out w1 q f z
      clear q f z
      go_wp2
      go_roundw
      case rel => exact ⟨k + 1, by omega, by go_num, N2.out⟩
      case measure => simp [intOf]; omega
    · obtain rfl : k = n := by omega
      have e : Hid _ := cn_end P (by omega) (by omega)
      clear P P0
      go_wp2
      go_ret2
      exact ⟨rfl, e.out⟩
end Go.Proofs.YtfipiifickdeiaaGreatDoor.Wrk
