/- The document's tables of lists as they lie in memory: an object that is a table of lists alone; what a call of it leaves; what a store into the table does. -/
import Derived.Test.YtofdhljgchefgaaDoorRows
import Derived.Test.YtofdhljgchefgaaDoorHw
import Derived.Test.YtofdhljgchefgaaDoorFd
import Derived.Test.YtofdhljgchefgaaDoorCm
import Derived.WalkKit
import Derived.ProofKit
namespace Go.Proofs.YtofdhljgchefgaaDoor
open Go.ChangeShapes Go.WideShapes Go.ChangeAt Go.RowKit
open Fm Cm

theorem fr_sm {B : Nat} {S : List Nat} {w w2 w3 : World} (f : Fr B S w w2) (e : Sm w3 w2) : Fr B S w w3 := by
  obtain ⟨e1, e2, e3, e4⟩ := e
  exact ⟨e2.trans f.os, e3.trans f.tape, e4.trans f.output, by rw [e1]; exact f.size, fun k hk hs => by rw [e1]; exact f.block k hk hs⟩
theorem lv_pos {w : World} {v : Value} {xs : List Int} (h : Lv w v xs) (hp : xs ≠ []) : ∃ (g off cap : Nat) (cur : List Value), v = .slice (some ⟨g, off, none⟩) xs.length cap ∧ xs.length ≤ cap ∧ Blk w g cur 3 ∧ off + cap ≤ cur.length ∧ ∀ j, j < xs.length → cur[off + j]? = some (.int .i64 (xs.getD j 0)) := by
  rcases h with ⟨_, e⟩ | h
  · exact absurd e hp
  · exact h

/-- The object at block b of type tS, its table of p lists at lb. -/
structure RX (tS : TypeId) (w : World) (b lb p : Nat) (V : List Value) (K : Ks) : Prop where
  sb : Blk w b [.slice (some ⟨lb, 0, none⟩) p p] tS
  sl : Blk w lb V 38
  ls : Ls w V K
  kn : K.length = p
  p1 : 1 ≤ p
  p2 : p ≤ 65

section
variable {tS : TypeId} {w : World} {b lb p : Nat} {V : List Value} {K : Ks}
theorem RX.c0 (h : RX tS w b lb p V K) : w.cell? ⟨b, 0, none⟩ = some (.slice (some ⟨lb, 0, none⟩) p p) := h.sb.cell 0
theorem RX.vl (h : RX tS w b lb p V K) : V.length = p := h.ls.len.trans h.kn
theorem RX.cv (h : RX tS w b lb p V K) {i : Nat} (hi : i < p) : w.cell? ⟨lb, i, none⟩ = some (V.getD i nv) := by
  rw [h.sl.cell, List.getD_eq_getElem?_getD, List.getElem?_eq_getElem (by rw [h.vl]; exact hi)]
  rfl
theorem RX.lv (h : RX tS w b lb p V K) {i : Nat} (hi : i < p) : Lv w (V.getD i nv) (ks K i) := h.ls.lv i (by rw [h.kn]; exact hi)
theorem RX.heap {w1 : World} (h : RX tS w b lb p V K) (e : w1.heap = w.heap) : RX tS w1 b lb p V K := ⟨h.sb.heap e, h.sl.heap e, h.ls.heap e, h.kn, h.p1, h.p2⟩
theorem RX.keep {B : Nat} {S : List Nat} {w' : World} (h : RX tS w b lb p V K) (f : Fr B S w w') (hB : w.heap.size ≤ B) (h1 : b ∉ S) (h2 : lb ∉ S) (h3 : ∀ g ∈ bl V, g ∉ S) : RX tS w' b lb p V K :=
  ⟨h.sb.keep f (Nat.lt_of_lt_of_le h.sb.lt hB) h1, h.sl.keep f (Nat.lt_of_lt_of_le h.sl.lt hB) h2, h.ls.keep f hB fun _ _ g hg => h3 g (bl_get hg), h.kn, h.p1, h.p2⟩
theorem RX.not (h : RX tS w b lb p V K) {k : Nat} {cs : List Value} {t : TypeId} (q : Blk w k cs t) (ht : t ≠ 3) : k ∉ bl V := fun hm => by
  obtain ⟨i, hi, hg⟩ := bl_mem hm
  exact (h.lv (by rw [← h.vl]; exact hi)).not q ht hg
theorem RX.bl_lt (h : RX tS w b lb p V K) {g : Nat} (hg : g ∈ bl V) : g < w.heap.size := by
  obtain ⟨i, hi, hm⟩ := bl_mem hg
  exact (h.lv (by rw [← h.vl]; exact hi)).lt g hm
end

/-- What a call leaves. -/
structure RC (tS : TypeId) (w w' : World) (b lb p : Nat) (V : List Value) (K' : Ks) : Prop where
  ex : ∃ V', RX tS w' b lb p V' K' ∧ ∀ g ∈ bl V', g ∈ bl V ∨ w.heap.size ≤ g
  fr : Fr w.heap.size (lb :: bl V) w w'

section
variable {tS : TypeId} {w : World} {b lb p : Nat} {V : List Value} {K K' : Ks}
theorem RC.refl (h : RX tS w b lb p V K) : RC tS w w b lb p V K := ⟨⟨V, h, fun _ hg => Or.inl hg⟩, Fr.refl _ _ _⟩
theorem RC.sm {w' w2 : World} (h : RC tS w w' b lb p V K') (e : Sm w2 w') : RC tS w w2 b lb p V K' := by
  obtain ⟨V', h1, h2⟩ := h.ex
  exact ⟨⟨V', h1.heap e.1, h2⟩, fr_sm h.fr e⟩
theorem RC.from {w1 w' : World} (e : Sm w1 w) (h : RC tS w1 w' b lb p V K') : RC tS w w' b lb p V K' := by
  obtain ⟨V', h1, h2⟩ := h.ex
  exact ⟨⟨V', h1, by rw [← e.1]; exact h2⟩, by rw [← e.1]; exact e.fr h.fr⟩
theorem RC.trans {w1 w2 : World} {V1 : List Value} {K2 : Ks} (f : Fr w.heap.size (lb :: bl V) w w1) (hV : ∀ g ∈ bl V1, g ∈ bl V ∨ w.heap.size ≤ g) (k : RC tS w1 w2 b lb p V1 K2) : RC tS w w2 b lb p V K2 := by
  obtain ⟨V2, h1, h2⟩ := k.ex
  have hz := f.size
  refine ⟨⟨V2, h1, fun g hg => ?_⟩, f.trans (k.fr.mono hz fun q hq hs hm => ?_)⟩
  · rcases h2 g hg with r | r
    · exact hV g r
    · exact Or.inr (by omega)
  · simp only [List.mem_cons] at hs hm
    rcases hm with r | r
    · exact hs (Or.inl r)
    · rcases hV q r with t | t
      · exact hs (Or.inr t)
      · omega

/-- Behind 'L[c] = v'', where what was done ahead of it touched the lists' own memory alone. -/
theorem RX.set {w2 : World} (ht : tS ≠ 3) (ht2 : tS ≠ 38) (h : RX tS w b lb p V K) {c : Nat} (hc : c < p) {S : List Nat} (f : Fr w.heap.size S w w2) (hS : ∀ g ∈ S, g ∈ bl V) {v' : Value} {l' : List Int}
    (ls : Ls w2 (V.set c v') (K.set c l')) (hv : ∀ g ∈ vb v', g ∈ bl V ∨ w.heap.size ≤ g) :
    (w2.cell? ⟨b, 0, none⟩ = some (.slice (some ⟨lb, 0, none⟩) p p) ∧ w2.cell? ⟨lb, c, none⟩ = some (V.getD c nv) ∧ w2.frozen? ⟨lb, c, none⟩ = false) ∧ ∀ w3 : World, Sm w3 w2 → RC tS w (w3.setCell ⟨lb, c, none⟩ v') b lb p V (K.set c l') := by
  have nb : b ∉ S := fun e => h.not h.sb ht (hS b e)
  have nl : lb ∉ S := fun e => h.not h.sl (by decide) (hS lb e)
  have s1 := h.sb.keep f h.sb.lt nb
  have s2 := h.sl.keep f h.sl.lt nl
  refine ⟨⟨s1.cell 0, (f.cell (p := ⟨lb, c, none⟩) h.sl.lt nl).trans (h.cv hc), s2.free c⟩, fun w3 e3 => ?_⟩
  have f3 := fr_sm f e3
  have ls3 := ls.heap e3.1
  have t1 := s1.heap e3.1
  have t2 := s2.heap e3.1
  refine ⟨⟨V.set c v', ⟨t1.other (t1.ne t2 ht2) _, t2.set c v', ?_, by simp [h.kn], h.p1, h.p2⟩, fun g hg => ?_⟩, St.store_fr f3 hS lb c v'⟩
  · refine ls3.keep ((Fr.refl w3.heap.size [lb] w3).setCell (Or.inr (by simp)) v') (Nat.le_refl _) fun i hi g hg => ?_
    have := (ls3.lv i hi).not t2 (by decide)
    simp
    intro e
    subst e
    exact this hg
  · rcases bl_set (S := vb v') (fun _ q => q) hg with q | q
    · exact Or.inl q
    · exact hv g q

/-- Behind 'L[c] = append(L[c], y)'. -/
theorem RX.append (ht : tS ≠ 3) (ht2 : tS ≠ 38) (h : RX tS w b lb p V K) {c : Nat} {y : Int} (hc : c < p) :
    ∀ (o : Obj) (wA : World), Sm wA (w.alloc o) → ∀ (v2 : Value) (w2 : World), App wA (V.getD c nv) (ks K c) y v2 w2 →
      (w2.cell? ⟨b, 0, none⟩ = some (.slice (some ⟨lb, 0, none⟩) p p) ∧ w2.cell? ⟨lb, c, none⟩ = some (V.getD c nv) ∧ w2.frozen? ⟨lb, c, none⟩ = false) ∧ ∀ w3 : World, Sm w3 w2 → RC tS w (w3.setCell ⟨lb, c, none⟩ v2) b lb p V (K.set c (ks K c ++ [y])) := by
  intro o wA e v2 w2 hA
  have fb : Fr w.heap.size [] w (w.alloc o) := (Fr.refl _ _ _).alloc (Nat.le_refl _) o
  have fa : Fr w.heap.size [] w wA := fr_sm fb e
  have h2 := h.keep fa (Nat.le_refl _) (by simp) (by simp) (by simp)
  have ls := h2.ls.append (c := c) (by rw [h.kn]; exact hc) hA
  obtain ⟨f1, g1⟩ := app_fr hA
  have f2 : Fr w.heap.size (vb (V.getD c nv)) w w2 := (fa.mono (Nat.le_refl _) (by simp)).trans (f1.less fa.size)
  refine h.set ht ht2 hc f2 (fun g hg => bl_get hg) ls fun g hg => ?_
  rcases g1 g hg with r | r
  · exact Or.inl (bl_get r)
  · exact Or.inr (Nat.le_trans fa.size r)
/-- A list where one number more is laid beside. -/
theorem RX.beside (h : RX tS w b lb p V K) {c : Nat} (hc : c < p) : ∀ (o : Obj) (wA : World), Sm wA (w.alloc o) → Lv wA (V.getD c nv) (ks K c) := fun o wA e =>
  ((h.lv hc).keep ((Fr.refl w.heap.size [] w).alloc (Nat.le_refl _) o) (Nat.le_refl _) (by simp)).heap e.1
/-- Behind 'L[c] = l', a list in memory of its own. -/
theorem RX.fresh (ht : tS ≠ 3) (ht2 : tS ≠ 38) (h : RX tS w b lb p V K) {c : Nat} (hc : c < p) {X : List Int} (wz w2 : World) (v2 : Value) (gt : Gt wz w2 v2 X) (ez : Sm wz w) :
    (w2.cell? ⟨b, 0, none⟩ = some (.slice (some ⟨lb, 0, none⟩) p p) ∧ w2.cell? ⟨lb, c, none⟩ = some (V.getD c nv) ∧ w2.frozen? ⟨lb, c, none⟩ = false) ∧ ∀ w3 : World, Sm w3 w2 → RC tS w (w3.setCell ⟨lb, c, none⟩ v2) b lb p V (K.set c X) := by
  obtain ⟨o1, o2⟩ := lv_own (xs := X) gt.own
  have f : Fr w.heap.size [] w w2 := ez.fr (by rw [← ez.1]; exact Fr.of_below gt.bel)
  have ls := h.ls.fresh (c := c) (by rw [h.kn]; exact hc) f o1 (by rw [← ez.1]; exact o2)
  exact h.set ht ht2 hc f (by simp) ls (fun q hq => Or.inr (by rw [← ez.1]; exact o2 q hq))
end

theorem ls_nil (w : World) (n : Nat) : Ls w (List.replicate n nv) (List.replicate n []) := by
  have g1 : ∀ i, (List.replicate n nv).getD i nv = nv := fun i => by rw [List.getD_eq_getElem?_getD, List.getElem?_replicate]; split <;> rfl
  refine ⟨by simp, fun i hi => ?_, fun i j hi hj hn => ?_⟩
  · rw [g1, show (List.replicate n ([] : List Int)).getD i [] = [] from ks_nil n i]
    exact Or.inl ⟨rfl, rfl⟩
  · rw [g1, g1]
    exact ap_nil _ _ _
theorem bl_nil (n : Nat) : ∀ g ∈ bl (List.replicate n nv), False := by
  intro g hg
  obtain ⟨i, hi, hm⟩ := bl_mem hg
  rw [List.getD_eq_getElem?_getD, List.getElem?_replicate] at hm
  split at hm <;> simp [nv, vb] at hm
theorem made_nv (n : Nat) : madeCells #[Value.slice none 0 0] n = (List.replicate n nv).toArray := by
  apply Array.ext
  · simp [size_madeCells]
  · intro i h1 h2
    simp [madeCells, Nat.mod_one, nv]
theorem Tryd.infoSI : (Tryd.prog.info? 38).map (fun i => (i.zero, i.size, i.bytes)) = some (some (.slice none 0 0), 1, 24) := by kernel_rfl
end Go.Proofs.YtofdhljgchefgaaDoor
