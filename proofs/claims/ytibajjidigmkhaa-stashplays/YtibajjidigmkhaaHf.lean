/- The document's stash as it lies in memory; what its Is, kept, Has and Out answer (davitref08), for every stash. -/
import Derived.Test.YtibajjidigmkhaaRows
import Derived.Test.YtibajjidigmkhaaHe
import Derived.Test.YtibajjidigmkhaaOd
import Derived.Test.YtibajjidigmkhaaFd
import Derived.WalkKit
import Derived.ProofKit
import Derived.OpenShut
import Derived.BigQuiet
namespace Go.Proofs.Ytibajjidigmkhaa
open Go.ChangeShapes Go.WideShapes Go.ChangeAt Go.RowKit
open Om Hm

/-- The document's stash at block b: its pool at pb (its truths at pg), its table of lists at lb. -/
structure RH (w : World) (b pb pg lb n m : Nat) (A : List Nat) (V : List Value) (K : List (List Int)) : Prop where
  st : St 55 w b pb lb n V K
  po : RO w pb pg m A

theorem RH.heap {w w1 : World} {b pb pg lb n m : Nat} {A : List Nat} {V : List Value} {K : List (List Int)} (h : RH w b pb pg lb n m A V K) (e : w1.heap = w.heap) : RH w1 b pb pg lb n m A V K := ⟨h.st.heap e, h.po.heap e⟩
theorem RH.keep {B : Nat} {S : List Nat} {w w' : World} {b pb pg lb n m : Nat} {A : List Nat} {V : List Value} {K : List (List Int)} (h : RH w b pb pg lb n m A V K) (f : Fr B S w w') (hB : w.heap.size ≤ B) (h0 : pb ∉ S ∧ pg ∉ S) (h1 : b ∉ S) (h2 : lb ∉ S) (h3 : ∀ g ∈ bl V, g ∉ S) : RH w' b pb pg lb n m A V K :=
  ⟨h.st.keep f hB h1 h2 h3, h.po.keep f ⟨Nat.lt_of_lt_of_le h.po.sb.lt hB, Nat.lt_of_lt_of_le h.po.sg.lt hB⟩ h0⟩
/-- Behind a call of the pool. -/
theorem RH.pool {w w' : World} {b pb pg lb n m : Nat} {A A2 : List Nat} {V : List Value} {K : List (List Int)} (h : RH w b pb pg lb n m A V K) (p : RO w' pb pg m A2) (f : Fr w.heap.size [pg] w w') : RH w' b pb pg lb n m A2 V K := by
  have n1 := h.st.sb.ne h.po.sg (by decide)
  have n2 := h.st.sl.ne h.po.sg (by decide)
  have n3 := h.st.not h.po.sg (by decide)
  exact ⟨h.st.keep f (Nat.le_refl _) (by simpa using n1) (by simpa using n2) (fun g hg => by simp; exact fun e => n3 (e ▸ hg)), p⟩

/-- What a call of a stash leaves. -/
structure RC (w w' : World) (b pb pg lb n m : Nat) (V : List Value) (A' : List Nat) (K' : List (List Int)) : Prop where
  ex : ∃ V', RH w' b pb pg lb n m A' V' K' ∧ ∀ g ∈ bl V', g ∈ bl V ∨ w.heap.size ≤ g
  fr : Fr w.heap.size (lb :: pg :: bl V) w w'

theorem RC.refl {w : World} {b pb pg lb n m : Nat} {A : List Nat} {V : List Value} {K : List (List Int)} (h : RH w b pb pg lb n m A V K) : RC w w b pb pg lb n m V A K := ⟨⟨V, h, fun _ hg => Or.inl hg⟩, Fr.refl _ _ _⟩
theorem RC.sm {w w' w2 : World} {b pb pg lb n m : Nat} {V : List Value} {A' : List Nat} {K' : List (List Int)} (h : RC w w' b pb pg lb n m V A' K') (e : Sm w2 w') : RC w w2 b pb pg lb n m V A' K' := by
  obtain ⟨V', h1, h2⟩ := h.ex
  obtain ⟨e1, e2, e3, e4⟩ := e
  have f := h.fr
  exact ⟨⟨V', h1.heap e1, h2⟩, e2.trans f.os, e3.trans f.tape, e4.trans f.output, by rw [e1]; exact f.size, fun k hk hs => by rw [e1]; exact f.block k hk hs⟩
theorem RC.from {w w1 w' : World} {b pb pg lb n m : Nat} {V : List Value} {A' : List Nat} {K' : List (List Int)} (e : Sm w1 w) (h : RC w1 w' b pb pg lb n m V A' K') : RC w w' b pb pg lb n m V A' K' := by
  obtain ⟨V', h1, h2⟩ := h.ex
  exact ⟨⟨V', h1, by rw [← e.1]; exact h2⟩, by rw [← e.1]; exact e.fr h.fr⟩
theorem RC.trans {w w1 w2 : World} {b pb pg lb n m : Nat} {V V1 : List Value} {A2 : List Nat} {K2 : List (List Int)} (f : Fr w.heap.size (lb :: pg :: bl V) w w1) (hV : ∀ g ∈ bl V1, g ∈ bl V ∨ w.heap.size ≤ g) (k : RC w1 w2 b pb pg lb n m V1 A2 K2) : RC w w2 b pb pg lb n m V A2 K2 := by
  obtain ⟨V2, h1, h2⟩ := k.ex
  have hz := f.size
  refine ⟨⟨V2, h1, fun g hg => ?_⟩, f.trans (k.fr.mono hz fun q hq hs hm => ?_)⟩
  · rcases h2 g hg with r | r
    · exact hV g r
    · exact Or.inr (by omega)
  · simp only [List.mem_cons] at hs hm
    rcases hm with r | r | r
    · exact hs (Or.inl r)
    · exact hs (Or.inr (Or.inl r))
    · rcases hV q r with t | t
      · exact hs (Or.inr (Or.inr t))
      · omega

/-- Behind 'kept[c] = v'', where what was done ahead of it touched the lists' own memory alone. -/
theorem RH.set {w w2 : World} {b pb pg lb n m : Nat} {A : List Nat} {V : List Value} {K : List (List Int)} (h : RH w b pb pg lb n m A V K) {c : Nat} (hc : c < n) {S : List Nat} (f : Fr w.heap.size S w w2) (hS : ∀ g ∈ S, g ∈ bl V) {v' : Value} {l' : List Int}
    (ls : Ls w2 (V.set c v') (K.set c l')) (hv : ∀ g ∈ vb v', g ∈ bl V ∨ w.heap.size ≤ g) :
    (w2.cell? ⟨b, 1, none⟩ = some (.slice (some ⟨lb, 0, none⟩) n n) ∧ w2.cell? ⟨lb, c, none⟩ = some (V.getD c nv) ∧ w2.frozen? ⟨lb, c, none⟩ = false) ∧ ∀ w3 : World, Sm w3 w2 → RC w (w3.setCell ⟨lb, c, none⟩ v') b pb pg lb n m V A (K.set c l') := by
  have nb : b ∉ S := fun e => h.st.not h.st.sb (by decide) (hS b e)
  have nl : lb ∉ S := fun e => h.st.not h.st.sl (by decide) (hS lb e)
  have np : pb ∉ S := fun e => h.st.not h.po.sb (by decide) (hS pb e)
  have ng : pg ∉ S := fun e => h.st.not h.po.sg (by decide) (hS pg e)
  have s1 := h.st.sb.keep f h.st.sb.lt nb
  have s2 := h.st.sl.keep f h.st.sl.lt nl
  refine ⟨⟨s1.cell 1, (f.cell (p := ⟨lb, c, none⟩) h.st.sl.lt nl).trans (h.st.cv hc), s2.free c⟩, fun w3 e3 => ?_⟩
  have f3 := fr_sm f e3
  have st := h.st.store (by decide) (by decide) f3 hS (ls.heap e3.1)
  refine ⟨⟨_, ⟨st, ?_⟩, fun g hg => ?_⟩, (St.store_fr f3 hS lb c v').mono (Nat.le_refl _) fun k _ hk hm => ?_⟩
  · have p3 := h.po.keep f3 ⟨h.po.sb.lt, h.po.sg.lt⟩ ⟨np, ng⟩
    exact p3.keep ((Fr.refl w3.heap.size [lb] w3).setCell (Or.inr (by simp)) v') ⟨p3.sb.lt, p3.sg.lt⟩ ⟨by simp; exact fun q => (h.po.sb.ne h.st.sl (by decide)) q, by simp; exact fun q => (h.po.sg.ne h.st.sl (by decide)) q⟩
  · rcases bl_set (S := vb v') (fun _ q => q) hg with q | q
    · exact Or.inl q
    · exact hv g q
  · simp only [List.mem_cons] at hk hm
    rcases hm with r | r
    · exact hk (Or.inl r)
    · exact hk (Or.inr (Or.inr r))


/-- Behind 'kept[c] = append(kept[c], y)'. -/
theorem RH.append {w : World} {b pb pg lb n m : Nat} {A : List Nat} {V : List Value} {K : List (List Int)} (h : RH w b pb pg lb n m A V K) {c : Nat} {y : Int} (hc : c < n) :
    ∀ (o : Obj) (wA : World), Sm wA (w.alloc o) → ∀ (v2 : Value) (w2 : World), App wA (V.getD c nv) (K.getD c []) y v2 w2 →
      (w2.cell? ⟨b, 1, none⟩ = some (.slice (some ⟨lb, 0, none⟩) n n) ∧ w2.cell? ⟨lb, c, none⟩ = some (V.getD c nv) ∧ w2.frozen? ⟨lb, c, none⟩ = false) ∧ ∀ w3 : World, Sm w3 w2 → RC w (w3.setCell ⟨lb, c, none⟩ v2) b pb pg lb n m V A (K.set c (K.getD c [] ++ [y])) := by
  intro o wA e v2 w2 hA
  have fb : Fr w.heap.size [] w (w.alloc o) := (Fr.refl _ _ _).alloc (Nat.le_refl _) o
  have fa : Fr w.heap.size [] w wA := fr_sm fb e
  have h2 := h.keep fa (Nat.le_refl _) (by simp) (by simp) (by simp) (by simp)
  have ls := h2.st.ls.append (c := c) (by rw [h.st.kn]; exact hc) hA
  obtain ⟨f1, g1⟩ := app_fr hA
  have f2 : Fr w.heap.size (vb (V.getD c nv)) w w2 := (fa.mono (Nat.le_refl _) (by simp)).trans (f1.less fa.size)
  refine h.set hc f2 (fun g hg => bl_get hg) ls fun g hg => ?_
  rcases g1 g hg with r | r
  · exact Or.inl (bl_get r)
  · exact Or.inr (Nat.le_trans fa.size r)
/-- A list where one number more is laid beside. -/
theorem RH.beside {w : World} {b pb pg lb n m : Nat} {A : List Nat} {V : List Value} {K : List (List Int)} (h : RH w b pb pg lb n m A V K) {c : Nat} (hc : c < n) : ∀ (o : Obj) (wA : World), Sm wA (w.alloc o) → Lv wA (V.getD c nv) (K.getD c []) := fun o wA e =>
  ((h.st.lv hc).keep ((Fr.refl w.heap.size [] w).alloc (Nat.le_refl _) o) (Nat.le_refl _) (by simp)).heap e.1

theorem RC.pool {w w1 : World} {b pb pg lb n m : Nat} {A A2 : List Nat} {V : List Value} {K : List (List Int)} (h : RH w b pb pg lb n m A V K) (p : RO w1 pb pg m A2) (f : Fr w.heap.size [pg] w w1) : RC w w1 b pb pg lb n m V A2 K :=
  ⟨⟨V, h.pool p f, fun _ hg => Or.inl hg⟩, f.mono (Nat.le_refl _) (fun k _ hk => by
    simp only [List.mem_cons] at hk
    simp only [List.mem_singleton]
    exact fun r => hk (Or.inr (Or.inl r)))⟩

theorem is_any {b pb pg lb n m : Nat} {A : List Nat} {V : List Value} {K : List (List Int)} (c : Int) (w : World) (h : RH w b pb pg lb n m A V K) :
    Calls Try.prog 32 #[.pointer (some ⟨b, 0, none⟩), .int .i64 c] w fun e w' => e = .returned (.bool (isc n c)) ∧ w' = w := by
  have c1 := h.st.c1
  clear h
  by_cases l : 0 ≤ c
  · by_cases l2 : c < n
    · rw [show isc n c = true from decide_eq_true ⟨l, l2⟩]
      go_enter Try.func32, Try.ntmps32
      go_wp2
      go_ret
      exact ⟨rfl, rfl⟩
    · rw [show isc n c = false from decide_eq_false (by omega)]
      go_enter Try.func32, Try.ntmps32
      go_wp2
      go_ret
      exact ⟨rfl, rfl⟩
  · rw [show isc n c = false from decide_eq_false (by omega)]
    go_enter Try.func32, Try.ntmps32
    go_wp2
    go_ret
    exact ⟨rfl, rfl⟩

set_option maxHeartbeats 1000000 in
theorem rkept_any {b pb pg lb n m : Nat} {A : List Nat} {V : List Value} {K : List (List Int)} (x : Int) (w : World) (h : RH w b pb pg lb n m A V K) (kl : ∀ i, (ks K i).length ≤ 4) :
    Calls Try.prog 48 #[.pointer (some ⟨b, 0, none⟩), .int .i64 x] w fun e w' => e = .returned (.bool (kp K x)) ∧ w' = w := by
  have c1 := h.st.c1
  have hn : (n : Int) ≤ 64 := by have := h.st.n2; omega
  have HV : Hid (∀ k : Nat, (k : Int) < n → w.cell? ⟨lb, k, none⟩ = some (V.getD k nv)) := fun k hk => h.st.cv (by omega)
  have HC : Hid (∀ k : Nat, (k : Int) < n → _) := fun k hk => rhas_any (ks K k) (V.getD k nv) x w (by have := kl k; omega) (h.st.lv (i := k) (by omega)).row
  have KN : Hid (K.length = n) := h.st.kn
  obtain ⟨R, hR⟩ : ∃ R, kp K x = R := ⟨_, rfl⟩
  have HR : Hid (kp K x = R) := hR
  rw [hR]
  clear h hR kl
  go_enter Try.func48, Try.ntmps48
  go_wp2
  go_loop [5] (fun i => ∃ k : Nat, (k : Int) ≤ n ∧ Hid (∀ j, j < k → x ∉ ks K j) ∧ i = .int .i64 k) (fun i => n - (intOf i).toNat)
  case atStart => exact ⟨0, by omega, fun j hj => by omega, rfl⟩
  case round =>
    obtain ⟨k, hk, hN, rfl⟩ := hrel
    by_cases l : (k : Int) < n
    · have cv := HV.out k l
      have C : Hid (∀ _ : Unit, _) := fun _ => HC.out k l
      generalize V.getD k nv = v at *
      by_cases e : x ∈ ks K k
      · have s : R = true := by
          rw [← HR.out]
          exact kp_yes (i := k) e
        subst s
        rw [decide_eq_true e] at C
        clear e
        go_wp2_with fail
        refine (C.out ()).mono ?_
        rintro e w' ⟨rfl, rfl⟩
        go_wp2
        go_ret
        exact ⟨rfl, rfl⟩
      · have s : Hid (∀ t, t < k + 1 → x ∉ ks K t) := fun t ht => by
          by_cases d : t = k
          · subst d; exact e
          · exact hN.out t (by omega)
        rw [decide_eq_false e] at C
        clear e
        go_wp2_with fail
        refine (C.out ()).mono ?_
        rintro e w' ⟨rfl, rfl⟩
        go_wp2
        go_round
        case rel => exact ⟨k + 1, by omega, s, by go_num⟩
        case measure => simp [intOf]; omega
    · have s : R = false := by
        rw [← HR.out]
        cases e : kp K x with
        | false => rfl
        | true =>
          obtain ⟨i, hi, hm⟩ := kp_at e
          exact absurd hm (hN.out i (by have := KN.out; omega))
      subst s
      go_wp2
      go_ret
      exact ⟨rfl, rfl⟩

theorem rshas_any {b pb pg lb n m : Nat} {A : List Nat} {V : List Value} {K : List (List Int)} (x : Int) (w : World) (h : RH w b pb pg lb n m A V K) (kl : ∀ i, (ks K i).length ≤ 4) :
    Calls Try.prog 31 #[.pointer (some ⟨b, 0, none⟩), .int .i64 x] w fun e w' => e = .returned (.bool (hs m A K x)) ∧ w' = w := by
  have c0 := h.st.c0
  have C : Hid (∀ _ : Unit, _) := fun _ => rpout_any x w h.po
  have D : Hid (∀ _ : Unit, _) := fun _ => rkept_any x w h kl
  clear h kl
  unfold hs
  cases e : ou m A x with
  | false =>
    rw [e] at C
    rw [Bool.false_and]
    clear e
    go_enter Try.func31, Try.ntmps31
    go_wp2_with fail
    refine (C.out ()).mono ?_
    rintro e w' ⟨rfl, rfl⟩
    go_wp2
    go_ret
    exact ⟨rfl, rfl⟩
  | true =>
    rw [e] at C
    rw [Bool.true_and]
    generalize kp K x = y at *
    clear e
    go_enter Try.func31, Try.ntmps31
    go_wp2_with fail
    refine (C.out ()).mono ?_
    rintro e w' ⟨rfl, rfl⟩
    go_wp2_with fail
    refine (D.out ()).mono ?_
    rintro e w' ⟨rfl, rfl⟩
    go_wp2
    go_ret
    exact ⟨rfl, rfl⟩

set_option maxHeartbeats 2000000 in
theorem rsout_any {b pb pg lb n m : Nat} {A : List Nat} {V : List Value} {K : List (List Int)} (w : World) (h : RH w b pb pg lb n m A V K) (kl : ∀ i, (ks K i).length ≤ 4) :
    Calls Try.prog 28 #[.pointer (some ⟨b, 0, none⟩)] w fun e w' => ∃ v, e = .returned v ∧ Gt w w' v (ol m A K 96) := by
  obtain ⟨i0, hi, hz0, hz1, hz2⟩ := info_parts Try.info3
  have HS : Hid (∀ wr, Below w.heap.size w wr → ∀ x, _) := fun wr hb x => rshas_any x wr (h.keep (Fr.of_below hb) (Nat.le_refl _) (by simp) (by simp) (by simp) (by simp)) kl
  obtain ⟨q, hq⟩ : ∃ q, 8 * m = q := ⟨_, rfl⟩
  have hm : m ≤ 12 := h.po.pg.m2
  have hq2 : (q : Int) ≤ 96 := by omega
  have CC : Hid (∀ wr, Below w.heap.size w wr → wr.cell? ⟨b, 0, none⟩ = some (.pointer (some ⟨pb, 0, none⟩)) ∧ wr.cell? ⟨pb, 0, none⟩ = some (.slice (some ⟨pg, 0, none⟩) (q + 1) (q + 1))) := fun wr hb => by
    have h2 := h.keep (Fr.of_below hb) (Nat.le_refl _) (by simp) (by simp) (by simp) (by simp)
    have e := h2.po.c0
    rw [hq] at e
    exact ⟨h2.st.c0, e⟩
  rw [ol_all m A K hm, hq]
  obtain ⟨W, hW⟩ : ∃ W, ol m A K q = W := ⟨_, rfl⟩
  have HW : Hid (ol m A K q = W) := hW
  rw [hW]
  clear h kl hW hm hq
  go_enter Try.func28, Try.ntmps28
  go_wp2
  go_loopw [3, 4] (fun v i wr => ∃ (k : Nat) (G : List Int), (k : Int) ≤ q ∧ i = .int .i64 ((k : Int) + 1) ∧ Gt w wr v G ∧ Hid (ol m A K k = G) ∧ (G.length : Int) ≤ k) (fun _ i _ => q + 1 - (intOf i).toNat)
  case atStart => exact ⟨0, [], by omega, by go_num, gt_start w, rfl, by simp⟩
  case round =>
    obtain ⟨k, G, hk, rfl, g, hG, hgl⟩ := hrel
    obtain ⟨d0, d1⟩ := CC.out wr g.bel
    by_cases l : (k : Int) < q
    · have C : Hid (∀ _ : Unit, _) := fun _ => HS.out wr g.bel ((k : Int) + 1)
      have hs := ol_succ m A K k
      rw [hG.out] at hs
      cases e : Hm.hs m A K ((k : Int) + 1) with
      | false =>
        rw [e] at C hs
        have S : Hid (ol m A K (k + 1) = G) := hs
        have g2 : Hid (Gt w wr _ G) := g
        clear hs e g
        go_wp2_with fail
        refine (C.out ()).mono ?_
        rintro e u ⟨rfl, rfl⟩
        go_wp2
        go_roundw
        case rel => exact ⟨k + 1, G, by omega, by go_num, g2.out, S, by omega⟩
        case measure => simp [intOf]; omega
      | true =>
        rw [e] at C hs
        have S : Hid (ol m A K (k + 1) = G ++ [(k : Int) + 1]) := hs
        have hsz := g.bel.size
        clear hs e
        go_wp2_with fail
        refine (C.out ()).mono ?_
        rintro e u ⟨rfl, rfl⟩
        go_wp2_with (at_builtin; refine wpList_append_own _ rfl _ _ 22 rfl w.heap.size 3 i0 (.int .i64 0) 1 8 Try.underlying22 hi hz0 hz1 hz2 rfl (by decide) _ _ _ rfl (g.own.alloc _) ⟨_, 0, none⟩ 1 1 [.int .i64 ((k : Int) + 1)] rfl rfl ?c1 ?c2 ?c3 ?c4 ?c5 ?_)
        case c1 =>
          intro j u hj
          match j, hj with
          | 0, hj => simp at hj; subst hj; exact (Blk.new _ [_] _).cell 0
        case c2 => intro u hu; simp at hu; subst hu; rfl
        case c3 => unfold maxLen; omega
        case c4 => omega
        case c5 => simp; omega
        intro v' w1 hown' hgrow _
        have G2 := gt_app g hown' hgrow
        clear hown' hgrow
        go_wp2
        go_roundw
        case rel => exact ⟨k + 1, G ++ [(k : Int) + 1], by omega, by go_num, G2, S, by simp; omega⟩
        case measure => simp [intOf]; omega
    · have e : G = W := by
        rw [← hG.out, ← HW.out, show k = q by omega]
      subst e
      go_wp2
      go_ret
      exact ⟨_, rfl, g⟩
end Go.Proofs.Ytibajjidigmkhaa
