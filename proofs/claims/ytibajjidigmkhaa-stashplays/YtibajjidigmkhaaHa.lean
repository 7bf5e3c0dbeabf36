/- A stash as it lies in memory; what stash's isCore, keeps, Has, Free and fetch answer and leave, for every stash. -/
import Derived.Test.YtibajjidigmkhaaRows
import Derived.Test.YtibajjidigmkhaaHm
import Derived.Test.YtibajjidigmkhaaOb
import Derived.WalkKit
import Derived.ProofKit
import Derived.OpenShut
import Derived.BigQuiet
import Derived.Deep.RegionHeld3
import Derived.Deep.RegionLaw
namespace Go.Proofs.Ytibajjidigmkhaa
open Go.ChangeShapes Go.WideShapes Go.ChangeAt Go.RowKit
open Om Hm

/-- The stash at block b: its pool at pb, its table of lists at lb. -/
structure SH (w : World) (b pb lb n m : Nat) (A : List Nat) (V : List Value) (K : List (List Int)) : Prop where
  st : St 73 w b pb lb n V K
  po : PO w pb m A

theorem SH.heap {w w1 : World} {b pb lb n m : Nat} {A : List Nat} {V : List Value} {K : List (List Int)} (h : SH w b pb lb n m A V K) (e : w1.heap = w.heap) : SH w1 b pb lb n m A V K := ⟨h.st.heap e, h.po.heap e⟩
theorem SH.keep {B : Nat} {S : List Nat} {w w' : World} {b pb lb n m : Nat} {A : List Nat} {V : List Value} {K : List (List Int)} (h : SH w b pb lb n m A V K) (f : Fr B S w w') (hB : w.heap.size ≤ B) (h0 : pb ∉ S) (h1 : b ∉ S) (h2 : lb ∉ S) (h3 : ∀ g ∈ bl V, g ∉ S) : SH w' b pb lb n m A V K :=
  ⟨h.st.keep f hB h1 h2 h3, h.po.keep f (Nat.lt_of_lt_of_le h.po.sb.lt hB) h0⟩
/-- Behind a call of the pool. -/
theorem SH.pool {w w' : World} {b pb lb n m : Nat} {A A2 : List Nat} {V : List Value} {K : List (List Int)} (h : SH w b pb lb n m A V K) (p : PO w' pb m A2) (f : Fr w.heap.size [pb] w w') : SH w' b pb lb n m A2 V K := by
  have n1 := h.st.sb.ne h.po.sb (by decide)
  have n2 := h.st.sl.ne h.po.sb (by decide)
  have n3 := h.st.not h.po.sb (by decide)
  exact ⟨h.st.keep f (Nat.le_refl _) (by simpa using n1) (by simpa using n2) (fun g hg => by simp; exact fun e => n3 (e ▸ hg)), p⟩

/-- What a call of a stash leaves. -/
structure SC (w w' : World) (b pb lb n m : Nat) (V : List Value) (A' : List Nat) (K' : List (List Int)) : Prop where
  ex : ∃ V', SH w' b pb lb n m A' V' K' ∧ ∀ g ∈ bl V', g ∈ bl V ∨ w.heap.size ≤ g
  fr : Fr w.heap.size (lb :: pb :: bl V) w w'

theorem SC.refl {w : World} {b pb lb n m : Nat} {A : List Nat} {V : List Value} {K : List (List Int)} (h : SH w b pb lb n m A V K) : SC w w b pb lb n m V A K := ⟨⟨V, h, fun _ hg => Or.inl hg⟩, Fr.refl _ _ _⟩
theorem SC.sm {w w' w2 : World} {b pb lb n m : Nat} {V : List Value} {A' : List Nat} {K' : List (List Int)} (h : SC w w' b pb lb n m V A' K') (e : Sm w2 w') : SC w w2 b pb lb n m V A' K' := by
  obtain ⟨V', h1, h2⟩ := h.ex
  obtain ⟨e1, e2, e3, e4⟩ := e
  have f := h.fr
  exact ⟨⟨V', h1.heap e1, h2⟩, e2.trans f.os, e3.trans f.tape, e4.trans f.output, by rw [e1]; exact f.size, fun k hk hs => by rw [e1]; exact f.block k hk hs⟩
theorem SC.from {w w1 w' : World} {b pb lb n m : Nat} {V : List Value} {A' : List Nat} {K' : List (List Int)} (e : Sm w1 w) (h : SC w1 w' b pb lb n m V A' K') : SC w w' b pb lb n m V A' K' := by
  obtain ⟨V', h1, h2⟩ := h.ex
  exact ⟨⟨V', h1, by rw [← e.1]; exact h2⟩, by rw [← e.1]; exact e.fr h.fr⟩
theorem SC.trans {w w1 w2 : World} {b pb lb n m : Nat} {V V1 : List Value} {A2 : List Nat} {K2 : List (List Int)} (f : Fr w.heap.size (lb :: pb :: bl V) w w1) (hV : ∀ g ∈ bl V1, g ∈ bl V ∨ w.heap.size ≤ g) (k : SC w1 w2 b pb lb n m V1 A2 K2) : SC w w2 b pb lb n m V A2 K2 := by
  obtain ⟨V2, h1, h2⟩ := k.ex
  have hz := f.size
  refine ⟨⟨V2, h1, fun g hg => ?_⟩, f.trans (k.fr.mono hz fun q hq hs hm => ?_)⟩
  · rcases h2 g hg with r | r
    · exact hV g r
    · exact Or.inr (by omega)
  · simp only [List.mem_cons] at hs hm
    rcases hm with r | r | r
    · exact hs (Or.inl r)
    · exact hs (Or.inr (Or.inl r))
    · rcases hV q r with t | t
      · exact hs (Or.inr (Or.inr t))
      · omega

/-- Behind 'kept[c] = append(kept[c], y)'. -/
theorem SH.append {w : World} {b pb lb n m : Nat} {A : List Nat} {V : List Value} {K : List (List Int)} (h : SH w b pb lb n m A V K) {c : Nat} {y : Int} (hc : c < n) :
    ∀ (o : Obj) (wA : World), Sm wA (w.alloc o) → ∀ (v2 : Value) (w2 : World), App wA (V.getD c nv) (K.getD c []) y v2 w2 →
      (w2.cell? ⟨b, 1, none⟩ = some (.slice (some ⟨lb, 0, none⟩) n n) ∧ w2.cell? ⟨lb, c, none⟩ = some (V.getD c nv) ∧ w2.frozen? ⟨lb, c, none⟩ = false) ∧ ∀ w3 : World, Sm w3 w2 → SC w (w3.setCell ⟨lb, c, none⟩ v2) b pb lb n m V A (K.set c (K.getD c [] ++ [y])) := by
  intro o wA e v2 w2 hA
  have fb : Fr w.heap.size [] w (w.alloc o) := (Fr.refl _ _ _).alloc (Nat.le_refl _) o
  have fa : Fr w.heap.size [] w wA := ⟨e.2.1.trans fb.os, e.2.2.1.trans fb.tape, e.2.2.2.trans fb.output, by rw [e.1]; exact fb.size, fun k hk hs => by rw [e.1]; exact fb.block k hk hs⟩
  have h2 := h.keep fa (Nat.le_refl _) (by simp) (by simp) (by simp) (by simp)
  have ls := h2.st.ls.append (c := c) (by rw [h.st.kn]; exact hc) hA
  obtain ⟨f1, g1⟩ := app_fr hA
  have nb : b ∉ vb (V.getD c nv) := (h2.st.lv hc).not h2.st.sb (by decide)
  have nl : lb ∉ vb (V.getD c nv) := (h2.st.lv hc).not h2.st.sl (by decide)
  have np : pb ∉ vb (V.getD c nv) := (h2.st.lv hc).not h2.po.sb (by decide)
  have s1 := h2.st.sb.keep f1 h2.st.sb.lt nb
  have s2 := h2.st.sl.keep f1 h2.st.sl.lt nl
  refine ⟨⟨s1.cell 1, (f1.cell (p := ⟨lb, c, none⟩) h2.st.sl.lt nl).trans (h2.st.cv hc), s2.free c⟩, fun w3 e3 => ?_⟩
  have f2 : Fr w.heap.size (vb (V.getD c nv)) w w2 := (fa.mono (Nat.le_refl _) (by simp)).trans (f1.less fa.size)
  have f3 : Fr w.heap.size (vb (V.getD c nv)) w w3 := ⟨e3.2.1.trans f2.os, e3.2.2.1.trans f2.tape, e3.2.2.2.trans f2.output, by rw [e3.1]; exact f2.size, fun k hk hs => by rw [e3.1]; exact f2.block k hk hs⟩
  have hv : ∀ g ∈ vb (V.getD c nv), g ∈ bl V := fun g hg => bl_get hg
  have st := h.st.store (by decide) (by decide) f3 hv (ls.heap e3.1)
  refine ⟨⟨_, ⟨st, ?_⟩, fun g hg => ?_⟩, (St.store_fr f3 hv lb c v2).mono (Nat.le_refl _) fun k _ hk hm => ?_⟩
  · have p3 := h.po.keep f3 h.po.sb.lt np
    exact p3.keep ((Fr.refl w3.heap.size [lb] w3).setCell (Or.inr (by simp)) v2) p3.sb.lt (by simp; exact fun q => (h.po.sb.ne h.st.sl (by decide)) q)
  · rcases bl_set (S := vb v2) (fun _ q => q) hg with q | q
    · exact Or.inl q
    · rcases g1 g q with r | r
      · exact Or.inl (hv g r)
      · exact Or.inr (Nat.le_trans fa.size r)
  · simp only [List.mem_cons] at hk hm
    rcases hm with r | r
    · exact hk (Or.inl r)
    · exact hk (Or.inr (Or.inr r))
/-- A list where one number more is laid beside. -/
theorem SH.beside {w : World} {b pb lb n m : Nat} {A : List Nat} {V : List Value} {K : List (List Int)} (h : SH w b pb lb n m A V K) {c : Nat} (hc : c < n) : ∀ (o : Obj) (wA : World), Sm wA (w.alloc o) → Lv wA (V.getD c nv) (K.getD c []) := fun o wA e =>
  ((h.st.lv hc).keep ((Fr.refl w.heap.size [] w).alloc (Nat.le_refl _) o) (Nat.le_refl _) (by simp)).heap e.1

theorem isCore_any {b pb lb n m : Nat} {A : List Nat} {V : List Value} {K : List (List Int)} (c : Int) (w : World) (h : SH w b pb lb n m A V K) :
    Calls Try.prog 49 #[.pointer (some ⟨b, 0, none⟩), .int .i64 c] w fun e w' => e = .returned (.bool (isc n c)) ∧ w' = w := by
  have c1 := h.st.c1
  clear h
  by_cases l : 0 ≤ c
  · by_cases l2 : c < n
    · rw [show isc n c = true from decide_eq_true ⟨l, l2⟩]
      go_enter Try.func49, Try.ntmps49
      go_wp2
      go_ret
      exact ⟨rfl, rfl⟩
    · rw [show isc n c = false from decide_eq_false (by omega)]
      go_enter Try.func49, Try.ntmps49
      go_wp2
      go_ret
      exact ⟨rfl, rfl⟩
  · rw [show isc n c = false from decide_eq_false (by omega)]
    go_enter Try.func49, Try.ntmps49
    go_wp2
    go_ret
    exact ⟨rfl, rfl⟩

theorem sfree_any {b pb lb n m : Nat} {A : List Nat} {V : List Value} {K : List (List Int)} (w : World) (h : SH w b pb lb n m A V K) :
    Calls Try.prog 29 #[.pointer (some ⟨b, 0, none⟩)] w fun e w' => e = .returned (.int .i64 ((fr m A : Nat) : Int)) ∧ w' = w := by
  have c0 := h.st.c0
  have C : Hid (∀ _ : Unit, _) := fun _ => pfree_any w h.po
  clear h
  go_enter Try.func29, Try.ntmps29
  go_wp2_with fail
  refine (C.out ()).mono ?_
  rintro e w' ⟨rfl, rfl⟩
  go_wp2
  go_ret
  exact ⟨rfl, rfl⟩

theorem fk_stop {m : Nat} {s : List Nat × List Int} {k : Nat} (h : tkE m (fk m s k).1 ≠ 0) : fk m s (k + 1) = fk m s k := by
  show f1 m (fk m s k) = _
  unfold f1
  rw [if_neg h]
theorem fk_go {m : Nat} {s : List Nat × List Int} {k : Nat} (h : tkE m (fk m s k).1 = 0) : fk m s (k + 1) = (tkA m (fk m s k).1, (fk m s k).2 ++ [tkN m (fk m s k).1]) := by
  show f1 m (fk m s k) = _
  unfold f1
  rw [if_pos h]

set_option maxHeartbeats 4000000 in
theorem fetch_any {b pb lb n m : Nat} {A : List Nat} {V : List Value} {K : List (List Int)} (c : Nat) (w : World) (h : SH w b pb lb n m A V K) (hc : (c : Int) < n) (hl : (ks K c).length ≤ 4) :
    Calls Try.prog 50 #[.pointer (some ⟨b, 0, none⟩), .int .i64 (c : Int)] w fun e w' => e = .returned (.tuple #[]) ∧ SC w w' b pb lb n m V (fk m (A, ks K c) 2).1 (K.set c (fk m (A, ks K c) 2).2) := by
  obtain ⟨R, hR⟩ : ∃ R, fk m (A, ks K c) 2 = R := ⟨_, rfl⟩
  have HR : Hid (fk m (A, ks K c) 2 = R) := hR
  have hn := h.st.kn
  have H0 : Hid (SC w w b pb lb n m V (fk m (A, ks K c) 0).1 (K.set c (fk m (A, ks K c) 0).2)) := by
    have : K.set c (ks K c) = K := by
      apply List.ext_getElem?
      intro i
      rw [List.getElem?_set]
      by_cases e : c = i
      · subst e
        have : c < K.length := by omega
        unfold ks
        rw [if_pos rfl, if_pos this, List.getD_eq_getElem?_getD, List.getElem?_eq_getElem this]
        rfl
      · rw [if_neg e]
    show SC w w b pb lb n m V A (K.set c (ks K c))
    rw [this]
    exact SC.refl h
  have KL : Hid (∀ k, k ≤ 2 → (fk m (A, ks K c) k).2.length ≤ 4 + k) := fun k hk => by
    induction k with
    | zero => exact hl
    | succ k ih =>
      have := ih (by omega)
      have := f1_len (m := m) (s := fk m (A, ks K c) k)
      show (f1 m (fk m (A, ks K c) k)).2.length ≤ _
      omega
  have HN : Hid (K.length = n) := hn
  rw [hR]
  clear h hR hn hl
  go_enter Try.func50, Try.ntmps50
  go_wp2
  go_loopw [6] (fun i wr => ∃ k : Nat, (k : Int) ≤ 2 ∧ i = .int .i64 k ∧ SC w wr b pb lb n m V (fk m (A, ks K c) k).1 (K.set c (fk m (A, ks K c) k).2)) (fun i _ => 2 - (intOf i).toNat)
  case atStart => exact ⟨0, by omega, rfl, H0.out⟩
  case round =>
    obtain ⟨k, hk, rfl, hs⟩ := hrel
    by_cases l : (k : Int) < 2
    · obtain ⟨V1, h1, hV1⟩ := hs.ex
      have F1 : Hid (Fr w.heap.size (lb :: pb :: bl V) w wr ∧ ∀ g ∈ bl V1, g ∈ bl V ∨ w.heap.size ≤ g) := ⟨hs.fr, hV1⟩
      have C : Hid (∀ _ : Unit, _) := fun _ => ptake_any wr h1.po
      have c0 := h1.st.c0
      have HH : Hid (SH wr b pb lb n m (fk m (A, ks K c) k).1 V1 (K.set c (fk m (A, ks K c) k).2)) := h1
      by_cases e : tkE m (fk m (A, ks K c) k).1 = 0
      · rw [e] at C
        have fg := fk_go e
        obtain ⟨s1, hs1⟩ : ∃ s1, fk m (A, ks K c) k = s1 := ⟨_, rfl⟩
        rw [hs1] at C HH fg
        have L1 : Hid (s1.2.length ≤ 6) := by have := KL.out k (by omega); rw [hs1] at this; unfold Hid; omega
        have FG : Hid (fk m (A, ks K c) (k + 1) = (tkA m s1.1, s1.2 ++ [tkN m s1.1])) := fg
        generalize tkN m s1.1 = y at *
        generalize tkA m s1.1 = A2 at *
        clear hs h1 hV1 fg e hs1
        go_wp2_with fail
        refine (C.out ()).mono ?_
        rintro e u1 ⟨rfl, p1, f1⟩
        have h2 := HH.out.pool p1 f1
        have d1 := h2.st.c1
        have dv := h2.st.cv (i := c) (by omega)
        have df : u1.frozen? ⟨lb, c, none⟩ = false := h2.st.sl.free c
        have H2 : Hid (SH u1 b pb lb n m A2 V1 (K.set c s1.2)) := h2
        have F2 : Hid (Fr wr.heap.size [pb] wr u1) := f1
        have KC : (K.set c s1.2).getD c [] = s1.2 := by have := ks_set K c c s1.2 (by have := HN.out; omega); rw [if_pos rfl] at this; exact this
        have LV := h2.beside (c := c) (by omega)
        rw [KC] at LV
        have LV : Hid (∀ (o : Obj) (wA : World), Sm wA (u1.alloc o) → Lv wA (V1.getD c nv) s1.2) := LV
        have FIN := h2.append (c := c) (y := y) (by omega)
        rw [KC, List.set_set] at FIN
        have FF : Hid (∀ (o : Obj) (wA : World) (v2 : Value) (w2 : World), App wA (V1.getD c nv) s1.2 y v2 w2 → Sm wA (u1.alloc o) → (w2.cell? ⟨b, 1, none⟩ = some (.slice (some ⟨lb, 0, none⟩) n n) ∧ w2.cell? ⟨lb, c, none⟩ = some (V1.getD c nv) ∧ w2.frozen? ⟨lb, c, none⟩ = false) ∧ ∀ w3 : World, Sm w3 w2 → SC w (w3.setCell ⟨lb, c, none⟩ v2) b pb lb n m V A2 (K.set c (s1.2 ++ [y]))) := fun o wA v2 w2 hA e => by
          obtain ⟨g1, g2⟩ := FIN o wA e v2 w2 hA
          refine ⟨g1, fun w3 e3 => ?_⟩
          have q := g2 w3 e3
          refine SC.trans F1.out.1 F1.out.2 (SC.trans (V1 := V1) (F2.out.mono (Nat.le_refl _) ?_) (fun g hg => Or.inl hg) q)
          intro k _ hk
          simp only [List.mem_cons] at hk
          simp only [List.mem_singleton]
          exact fun r => hk (Or.inr (Or.inl r))
        have n1 : ¬ (b = lb) := h2.st.sb.ne h2.st.sl (by decide)
        have n2 : ¬ (lb = b) := fun q => n1 q.symm
        have z1 : (u1.alloc (.cells #[.int .i64 y] 3)).cell? ⟨b, 1, none⟩ = some (.slice (some ⟨lb, 0, none⟩) n n) := (h2.st.sb.alloc _).cell 1
        have z2 : (u1.alloc (.cells #[.int .i64 y] 3)).cell? ⟨lb, c, none⟩ = some (V1.getD c nv) := ((h2.st.sl.alloc _).cell c).trans ((h2.st.sl.cell c).symm.trans (h2.st.cv (by omega)))
        clear FIN
        generalize hv : V1.getD c nv = v1 at *
        clear f1 p1 h2
        go_wp2_with fail
        go_region_law
          (first | (refine step_app (v := v1) rfl (.tmp 29) (.tmp 31) rfl y rfl (LV.out _ _ ⟨rfl, rfl, rfl, rfl⟩) (by have := L1.out; omega) _ _ rfl (((Blk.new u1 [_] _).heap rfl).cell 0) ?_; intro v2 w2 hA; obtain ⟨x2, q2, rfl⟩ := app_shape hA; obtain ⟨⟨a1, a2, a3⟩, a4⟩ := FF.out _ _ _ _ hA ⟨rfl, rfl, rfl, rfl⟩; have HA : Hid (∀ w3 : World, Sm w3 w2 → SC w (w3.setCell ⟨lb, c, none⟩ (.slice x2 (s1.2.length + 1) q2)) b pb lb n m V A2 (K.set c (s1.2 ++ [y]))) := a4; clear hA a4))
        all_goals go_wp2
        all_goals go_roundw
        all_goals first
          | exact ⟨k + 1, by omega, by go_num, by rw [FG.out]; exact HA.out _ ⟨rfl, rfl, rfl, rfl⟩⟩
          | (simp [intOf]; omega)
      · have e2 : (tkE m (fk m (A, ks K c) k).1 != 0) = true := by simpa using e
        have ta : tkA m (fk m (A, ks K c) k).1 = (fk m (A, ks K c) k).1 := by
          unfold tkA
          unfold tkE at e
          cases q : nx m (fk m (A, ks K c) k).1 with
          | none => rfl
          | some p => rw [q] at e; simp at e
        rw [ta] at C
        have FR : Hid (fk m (A, ks K c) k = R) := by
          rw [← HR.out]
          have s1 := fk_stop e
          have : k = 0 ∨ k = 1 := by omega
          rcases this with r | r
          · subst r
            show _ = f1 m (fk m (A, ks K c) 1)
            rw [s1]
            exact s1.symm
          · subst r
            exact s1.symm
        rw [FR.out] at C HH e2
        clear hs h1 hV1 e ta
        generalize tkN m R.1 = y at *
        generalize tkE m R.1 = ee at *
        go_wp2_with fail
        refine (C.out ()).mono ?_
        rintro e u1 ⟨rfl, p1, f1⟩
        have h2 := HH.out.pool p1 f1
        have F2 : Hid (SC w u1 b pb lb n m V R.1 (K.set c R.2)) := SC.trans F1.out.1 F1.out.2 ⟨⟨V1, h2, fun _ hg => Or.inl hg⟩, f1.mono (Nat.le_refl _) (fun k _ hk => by
          simp only [List.mem_cons] at hk
          simp only [List.mem_singleton]
          exact fun r => hk (Or.inr (Or.inl r)))⟩
        clear h2 p1 f1
        go_wp2
        (try simp only [Exit.inBlock, Exit.then])
        refine bodyPost_ret (results_none rfl _ _ _) rfl ?_
        exact ⟨rfl, F2.out⟩
    · obtain rfl : k = 2 := by omega
      rw [HR.out] at hs
      have F2 : Hid (SC w wr b pb lb n m V R.1 (K.set c R.2)) := hs
      clear hs
      go_wp2
      go_end0
      exact ⟨rfl, F2.out⟩
end Go.Proofs.Ytibajjidigmkhaa
