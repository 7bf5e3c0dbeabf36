/- What the document's queue by priorities answers and leaves: Push, Drop, Back, List, Top, Turn. -/
import Derived.Test.YtpmjojemcpgpiaaDoorXa
import Derived.WalkKit
import Derived.ProofKit
import Derived.OpenShut
import Derived.BigQuiet
namespace Go.Proofs.YtpmjojemcpgpiaaDoor
open Go.ChangeShapes Go.WideShapes Go.ChangeAt Go.RowKit
open Fm Qm

/-- An append of known outcome, for the walk. -/
theorem wpList_run {P : Program} {w w' : World} {ops : Array Oper} {rest : List Oper} {o : Oper} {a : Act} {Q : Exit → Act → World → Prop} {v u v' : Value}
    (hg : o.guard = none) (s x : Operand) (t : TypeId) (hop : o.op = Op.call { callee := Callee.builtin Builtin.append, args := #[s, x], argTypes := #[t, t] }) (hs : a.eval s = v) (hx : a.eval x = u)
    (hrun : (Builtin.append_ #[t, t] o.type #[v, u]).run P w = .ok v' w') (hK : wpList P ops Q rest (a.put o.dst v') w') : wpList P ops Q (o :: rest) a w := by
  refine wpList_plain hg fun K hK' => ?_
  unfold Oper.wp
  simp [execOp, hop, resolve, invoke, builtin, hs, hx, hrun, Result.andThen]
  exact hK' _ _ hK

theorem rq_store {w w2 : World} {b m : Nat} {v v' : Value} {X X' : Its} (h : RQ w b v m X) (f : Fr w.heap.size v.ownBlock.toList w w2) (o2 : w2.ownsRow 0 82 2 v' X'.length (fl X')) (nw : ∀ g, v'.ownBlock = some g → v.ownBlock = some g ∨ w.heap.size ≤ g) (ok : Ok m X') :
    RQ (w2.setCell ⟨b, 1, none⟩ v') b v' m X' ∧ RC w (w2.setCell ⟨b, 1, none⟩ v') b v v' ∧ w2.cell? ⟨b, 1, none⟩ = some v ∧ w2.frozen? ⟨b, 1, none⟩ = false := by
  have nb : b ∉ v.ownBlock.toList := fun e => (h.ob (g := b) (by simpa using e)).1 rfl
  have sb := h.sb.keep f h.sb.lt nb
  refine ⟨⟨sb.set 1 v', ⟨o2.1, ?_⟩, ok, h.m2⟩, ⟨(f.mono (Nat.le_refl _) fun i _ hi e => hi (by simp [e])).setCell (Or.inr (by simp)) _, nw⟩, sb.cell 1, sb.free 1⟩
  rcases o2.2 with hn | ⟨g, cap, cur, rfl, h0, hh, rest⟩
  · exact Or.inl hn
  · refine Or.inr ⟨g, cap, cur, rfl, h0, (Below.heap_setCell _ _ _ _ ?_).trans hh, rest⟩
    intro e
    simp at e
    subst e
    have := (show w2.heap[g]? = _ from sb).symm.trans hh
    simp at this

theorem own2_shape {w : World} {v : Value} {n : Nat} {xs : List Value} (h : w.ownsRow 0 82 2 v n xs) : ∃ a cap, v = .slice a n cap := by
  rcases h.2 with ⟨rfl, rfl⟩ | ⟨g, cap, cur, rfl, _⟩
  · exact ⟨none, 0, rfl⟩
  · exact ⟨_, cap, rfl⟩

/-- One more at the end: what the append and the store make of it. -/
theorem rq_app {w : World} {b m : Nat} {v : Value} {X : Its} (h : RQ w b v m X) (p n : Int) (ok : Ok m (X ++ [(p, n)])) (ty : TypeId) :
    ∃ a' cap' w2, (Builtin.append_ #[75, 75] ty #[v, .slice (some ⟨w.heap.size, 0, none⟩) 1 1]).run Tryd.prog (w.alloc (.cells #[.int .i64 p, .int .i64 n] 82)) = .ok (.slice a' (X.length + 1) cap') w2 ∧
      RQ (w2.setCell ⟨b, 1, none⟩ (.slice a' (X.length + 1) cap')) b (.slice a' (X.length + 1) cap') m (X ++ [(p, n)]) ∧ RC w (w2.setCell ⟨b, 1, none⟩ (.slice a' (X.length + 1) cap')) b v (.slice a' (X.length + 1) cap') ∧ w2.cell? ⟨b, 1, none⟩ = some v ∧ w2.frozen? ⟨b, 1, none⟩ = false := by
  have hb := (Below.refl w.heap.size w).alloc (Nat.le_refl _) (.cells #[.int .i64 p, .int .i64 n] 82)
  have h1 := h.below hb
  have hl := h.ok.le
  have hm := h.m2
  have nb : Blk (w.alloc (.cells #[.int .i64 p, .int .i64 n] 82)) w.heap.size [.int .i64 p, .int .i64 n] 82 := Blk.new w _ _
  obtain ⟨v', w2, hrun, o2, g2, nw⟩ := run_appx _ ty h1.own ⟨w.heap.size, 0, none⟩ 1 1 [.int .i64 p, .int .i64 n] rfl (fun j u hj => by
    rw [Addr.add_lit, Nat.zero_add, nb.cell]
    exact hj) (fun u hu => by simp at hu; rcases hu with rfl | rfl <;> rfl) (by omega)
  obtain ⟨a', cap', rfl⟩ := own2_shape o2
  have f : Fr w.heap.size v.ownBlock.toList w w2 := ((Fr.of_below hb).mono (Nat.le_refl _) (fun _ _ _ => by simp)).grown g2 (by simp) (fun k e => Or.inr (by simp [e]))
  have e : fl (X ++ [(p, n)]) = fl X ++ [.int .i64 p, .int .i64 n] := by rw [fl_app]; rfl
  have := rq_store h f (v' := .slice a' (X.length + 1) cap') (X' := X ++ [(p, n)]) (by rw [e, List.length_append]; exact o2) (fun g hg => (nw g hg).imp id (fun q => by simp at q; omega)) ok
  exact ⟨a', cap', w2, hrun, this.1, this.2.1, this.2.2.1, this.2.2.2⟩

set_option maxRecDepth 100000 in
set_option maxHeartbeats 1000000 in
theorem rppush_any {b m : Nat} {v : Value} {X : Its} (p n : Int) (w : World) (h : RQ w b v m X) :
    Calls Tryd.prog 49 #[.pointer (some ⟨b, 0, none⟩), .int .i64 p, .int .i64 n] w fun e w' => e = .returned (.int .i64 (psE m X p n)) ∧ ∃ v', RQ w' b v' m (psX m X p n) ∧ RC w w' b v v' := by
  have HQ : Hid (RQ w b v m X) := h
  by_cases c1 : p < 0
  · rw [show psE m X p n = 2 from if_pos (Or.inl c1), show psX m X p n = X from if_pos (Or.inl c1)]
    clear h
    go_enter Tryd.func49, Tryd.ntmps49
    go_wp2
    go_ret
    exact ⟨rfl, v, HQ.out, RC.refl _ _ _⟩
  by_cases c2 : 8 ≤ p
  · rw [show psE m X p n = 2 from if_pos (Or.inr c2), show psX m X p n = X from if_pos (Or.inr c2)]
    clear h
    go_enter Tryd.func49, Tryd.ntmps49
    go_wp2
    go_ret
    exact ⟨rfl, v, HQ.out, RC.refl _ _ _⟩
  have hno : ¬(p < 0 ∨ 8 ≤ p) := by omega
  have C : Hid (∀ _ : Unit, _) := fun _ => rfind_any n w h
  by_cases c3 : n ∈ ids X
  · obtain ⟨k, e, _⟩ := ix_pos (ids X) n c3
    rw [e] at C
    rw [show psE m X p n = 6 by unfold psE; rw [if_neg hno, if_pos c3], show psX m X p n = X by unfold psX; rw [if_neg hno, if_pos c3]]
    clear h c3 hno e
    go_enter Tryd.func49, Tryd.ntmps49
    go_wp2_with fail
    refine (C.out ()).mono ?_
    rintro e w' ⟨rfl, rfl⟩
    go_wp2
    go_ret
    exact ⟨rfl, v, HQ.out, RC.refl _ _ _⟩
  rw [ix_neg _ _ c3] at C
  obtain ⟨a, cap, rfl⟩ := h.shape
  have k0 : w.cell? ⟨b, 0, none⟩ = some (.int .i64 (m : Int)) := h.sb.cell 0
  have k1 : w.cell? ⟨b, 1, none⟩ = some (.slice a X.length cap) := h.sb.cell 1
  by_cases c4 : m ≤ X.length
  · rw [show psE m X p n = 5 by unfold psE; rw [if_neg hno, if_neg c3, if_pos c4], show psX m X p n = X by unfold psX; rw [if_neg hno, if_neg c3, if_pos c4]]
    have c5 : (m : Int) ≤ X.length := by omega
    clear h c3 hno c4
    go_enter Tryd.func49, Tryd.ntmps49
    go_wp2_with fail
    refine (C.out ()).mono ?_
    rintro e w' ⟨rfl, rfl⟩
    go_wp2
    go_quiet (fail)
    go_wp2
    go_ret
    exact ⟨rfl, _, HQ.out.heap rfl, ((Fr.refl _ _ _).drewN _), fun _ h => Or.inl h⟩
  · rw [show psE m X p n = 0 by unfold psE; rw [if_neg hno, if_neg c3, if_neg c4], show psX m X p n = X ++ [(p, n)] by unfold psX; rw [if_neg hno, if_neg c3, if_neg c4]]
    have c5 : (X.length : Int) < m := by omega
    have A : Hid (∀ w1 : World, w1.heap = w.heap → _) := fun w1 e => rq_app (h.heap e) p n (ok_push h.ok (by omega) c3 (by omega)) 75
    clear h c3 hno c4
    go_enter Tryd.func49, Tryd.ntmps49
    go_wp2_with fail
    refine (C.out ()).mono ?_
    rintro e w' ⟨rfl, rfl⟩
    go_wp2
    go_quiet (fail)
    obtain ⟨a2, cap2, w2, hrun, q2, r2, d2, f2⟩ := A.out (World.drewN w' nq) rfl
    clear A
    go_wp2_with (at_builtin; refine wpList_run rfl _ _ _ rfl rfl rfl hrun ?_)
    go_ret
    exact ⟨rfl, _, q2, ⟨r2.fr.os, r2.fr.tape, r2.fr.output, r2.fr.size, r2.fr.block⟩, r2.nw⟩

/-- Without one: what the two appends and the store make of it. -/
theorem rq_del {w : World} {b m n' k : Nat} {a : Option Addr} {cap : Nat} {X : Its} {n : Int} (h : RQ w b (.slice a n' cap) m X) (e : ix (ids X) n = k) (ty ty' : TypeId) :
    ∃ g, a = some ⟨g, 0, none⟩ ∧ n' = X.length ∧ k < n' ∧ n' ≤ cap ∧ ∃ a1 c1 w1, (Builtin.append_ #[75, 75] ty #[.slice none 0 0, .slice (some ⟨g, 0, none⟩) k cap]).run Tryd.prog w = .ok (.slice a1 k c1) w1 ∧ w1.cell? ⟨b, 1, none⟩ = some (.slice a n' cap) ∧
      ∀ ad c, (k + 1 < cap → ad = ⟨g, (k + 1) * 2, none⟩) → ∃ a2 c2 w2, (Builtin.append_ #[75, 75] ty' #[.slice a1 k c1, .slice (some ad) (n' - (k + 1)) c]).run Tryd.prog w1 = .ok (.slice a2 (n' - 1) c2) w2 ∧
        RQ (w2.setCell ⟨b, 1, none⟩ (.slice a2 (n' - 1) c2)) b (.slice a2 (n' - 1) c2) m (del X n) ∧ RC w (w2.setCell ⟨b, 1, none⟩ (.slice a2 (n' - 1) c2)) b (.slice a n' cap) (.slice a2 (n' - 1) c2) ∧ w2.cell? ⟨b, 1, none⟩ = some (.slice a n' cap) ∧ w2.frozen? ⟨b, 1, none⟩ = false := by
  obtain ⟨hk, _, _, hd⟩ := at_ix h.ok.nd e
  obtain ⟨g, rfl, rfl, hcp, _, _⟩ := h.at hk
  have hl := h.ok.le
  have hm := h.m2
  have glt := (h.ob (g := g) rfl).2
  have cell : ∀ j, j < X.length * 2 → w.cell? ⟨g, j, none⟩ = (fl X)[j]? := fun j hj => h.own.cellAt j hj
  have l1 : (fl (X.take k)).length = k * 2 := by rw [fl_len, List.length_take]; omega
  have l2 : (fl (X.drop (k + 1))).length = (X.length - (k + 1)) * 2 := by rw [fl_len, List.length_drop]
  obtain ⟨v1, w1, run1, o1, g1, n1⟩ := run_appx w ty (World.ownsRow_nil w 0 82 2) ⟨g, 0, none⟩ k cap (fl (X.take k)) l1 (fun j u hj => by
    have hj2 := (List.getElem?_eq_some_iff.1 hj).1
    rw [Addr.add_lit, Nat.zero_add, cell j (by omega), ← hj, ← fl_take, List.getElem?_take, if_pos (by omega)]) (fl_one _) (by omega)
  rw [Nat.zero_add, List.nil_append] at o1
  obtain ⟨a1, c1, rfl⟩ := own2_shape o1
  have b1 : Below w.heap.size w w1 := ⟨g1.os, g1.tape, g1.output, g1.size, fun i hi => g1.block i hi (by simp [Value.ownBlock])⟩
  have h1 := h.below b1
  refine ⟨g, rfl, rfl, hk, hcp, a1, c1, w1, run1, h1.sb.cell 1, fun ad c had => ?_⟩
  obtain ⟨v2, w2, run2, o2, g2, n2⟩ := run_appx w1 ty' o1 ad (X.length - (k + 1)) c (fl (X.drop (k + 1))) l2 (fun j u hj => by
    have hj2 := (List.getElem?_eq_some_iff.1 hj).1
    rw [had (by omega), Addr.add_lit]
    rw [b1.cell (p := ⟨g, (k + 1) * 2 + j, none⟩) glt, cell _ (by omega), ← hj, ← fl_drop, List.getElem?_drop]) (fl_one _) (by omega)
  rw [← fl_app, ← hd, show k + (X.length - (k + 1)) = X.length - 1 by omega] at o2
  obtain ⟨a2, c2, rfl⟩ := own2_shape o2
  have new1 : ∀ i, (Value.slice a1 k c1).ownBlock = some i → w.heap.size ≤ i := fun i hi => by
    rcases n1 i hi with q | q
    · cases q
    · exact q
  have b2 : Below w.heap.size w w2 := b1.grown g2 g1.size (fun i hi => new1 i hi)
  have ln : (del X n).length = X.length - 1 := by rw [hd, List.length_append, List.length_take, List.length_drop]; omega
  have := rq_store h ((Fr.of_below b2).mono (Nat.le_refl _) (fun _ _ _ => by simp)) (v' := .slice a2 (X.length - 1) c2) (X' := del X n) (by rw [ln]; exact o2) (fun i hi => by
    rcases n2 i hi with q | q
    · exact Or.inr (new1 i q)
    · exact Or.inr (by have := g1.size; omega)) (ok_del h.ok n)
  exact ⟨a2, c2, w2, run2, this.1, this.2.1, this.2.2.1, this.2.2.2⟩

set_option maxRecDepth 100000 in
set_option maxHeartbeats 1000000 in
theorem rpdrop_any {b m : Nat} {v : Value} {X : Its} (n : Int) (w : World) (h : RQ w b v m X) :
    Calls Tryd.prog 54 #[.pointer (some ⟨b, 0, none⟩), .int .i64 n] w fun e w' => e = .returned (.int .i64 (drE X n)) ∧ ∃ v', RQ w' b v' m (del X n) ∧ RC w w' b v v' := by
  have HQ : Hid (RQ w b v m X) := h
  have C : Hid (∀ _ : Unit, _) := fun _ => rfind_any n w h
  by_cases c : n ∈ ids X
  · obtain ⟨k, e, _⟩ := ix_pos (ids X) n c
    rw [e] at C
    rw [show drE X n = 0 from if_pos c]
    obtain ⟨a, cap, rfl⟩ := h.shape
    have k1 : w.cell? ⟨b, 1, none⟩ = some (.slice a X.length cap) := h.sb.cell 1
    have hl : (X.length : Int) ≤ 1024 := by have := h.ok.le; have := h.m2; omega
    obtain ⟨g, rfl, _, hk, hcp, a1, c1, w1, run1, d1, T⟩ := rq_del h e 75 75
    have hk2 : (k : Int) < X.length := by omega
    have hcp2 : (X.length : Int) ≤ cap := by omega
    generalize X.length = l at *
    by_cases hcap : cap = k + 1
    · obtain ⟨a2, c2, w2, run2, q2, r2, d2, f2⟩ := T ⟨g, 0, none⟩ (cap - (k + 1)) (fun h => absurd h (by omega))
      have HQ2 : Hid (RQ _ b _ m (del X n) ∧ RC w _ b _ _) := ⟨q2, r2⟩
      clear h c e T hk q2 r2
      go_enter Tryd.func54, Tryd.ntmps54
      go_wp2_with fail
      refine (C.out ()).mono ?_
      rintro e w' ⟨rfl, rfl⟩
      go_wp2_with (first | (at_builtin; refine wpList_run rfl (.tmp 12) (.tmp 18) 75 rfl rfl rfl run1 ?_) | (at_builtin; refine wpList_run rfl (.tmp 21) (.tmp 28) 75 rfl rfl rfl run2 ?_))
      go_ret
      exact ⟨rfl, _, HQ2.out.1, HQ2.out.2⟩
    · obtain ⟨a2, c2, w2, run2, q2, r2, d2, f2⟩ := T ⟨g, (k + 1) * 2, none⟩ (cap - (k + 1)) (fun h => rfl)
      have HQ2 : Hid (RQ _ b _ m (del X n) ∧ RC w _ b _ _) := ⟨q2, r2⟩
      clear h c e T hk q2 r2
      go_enter Tryd.func54, Tryd.ntmps54
      go_wp2_with fail
      refine (C.out ()).mono ?_
      rintro e w' ⟨rfl, rfl⟩
      go_wp2_with (first | (at_builtin; refine wpList_run rfl (.tmp 12) (.tmp 18) 75 rfl rfl rfl run1 ?_) | (at_builtin; refine wpList_run rfl (.tmp 21) (.tmp 28) 75 rfl rfl rfl run2 ?_))
      go_ret
      exact ⟨rfl, _, HQ2.out.1, HQ2.out.2⟩
  · rw [ix_neg _ _ c] at C
    rw [show drE X n = 4 from if_neg c, del_miss c]
    clear h c
    go_enter Tryd.func54, Tryd.ntmps54
    go_wp2_with fail
    refine (C.out ()).mono ?_
    rintro e w' ⟨rfl, rfl⟩
    go_wp2
    go_ret
    exact ⟨rfl, v, HQ.out, RC.refl _ _ _⟩

set_option maxRecDepth 100000 in
set_option maxHeartbeats 1000000 in
theorem rpback_any {b m : Nat} {v : Value} {X : Its} (n : Int) (w : World) (h : RQ w b v m X) :
    Calls Tryd.prog 53 #[.pointer (some ⟨b, 0, none⟩), .int .i64 n] w fun e w' => e = .returned (.int .i64 (drE X n)) ∧ ∃ v', RQ w' b v' m (bkX X n) ∧ RC w w' b v v' := by
  have HQ : Hid (RQ w b v m X) := h
  have C : Hid (∀ _ : Unit, _) := fun _ => rprio_any n w h
  by_cases c : n ∈ ids X
  · have D : Hid (∀ _ : Unit, _) := fun _ => rpdrop_any n w h
    rw [show drE X n = 0 from if_pos c] at D
    rw [show drE X n = 0 from if_pos c, show bkX X n = del X n ++ [(prP X n, n)] from if_pos c]
    rw [decide_eq_true c] at C
    have A : Hid (∀ (w1 : World) (v1 : Value), RQ w1 b v1 m (del X n) → _) := fun w1 v1 h1 => rq_app h1 (prP X n) n (ok_push (ok_del h.ok n) (prP_rg h.ok n) (not_del X n) (by have := del_lt c; have := h.ok.le; omega)) 75
    generalize prP X n = p at *
    clear h c
    go_enter Tryd.func53, Tryd.ntmps53
    go_wp2_with fail
    refine (C.out ()).mono ?_
    rintro e w' ⟨rfl, rfl⟩
    go_wp2_with fail
    refine (D.out ()).mono ?_
    rintro e w1 ⟨rfl, v1, q1, r1⟩
    obtain ⟨a1, c1, rfl⟩ := q1.shape
    have k1 : w1.cell? ⟨b, 1, none⟩ = some (.slice a1 (del X n).length c1) := q1.sb.cell 1
    obtain ⟨a2, cap2, w2, hrun, q2, r2, d2, f2⟩ := A.out w1 _ q1
    have HQ2 : Hid (RQ _ b _ m (del X n ++ [(p, n)]) ∧ RC w1 _ b _ _) := ⟨q2, r2⟩
    have HR1 : Hid (RC w' w1 b v (.slice a1 (del X n).length c1)) := r1
    clear q1 q2 r1 r2 A
    generalize (del X n).length = l at *
    go_wp2_with (at_builtin; refine wpList_run rfl (.tmp 22) (.tmp 26) 75 rfl rfl rfl hrun ?_)
    go_ret
    exact ⟨rfl, _, HQ2.out.1, HR1.out.trans HQ2.out.2⟩
  · rw [show drE X n = 4 from if_neg c, show bkX X n = X from if_neg c]
    rw [decide_eq_false c] at C
    generalize prP X n = p at *
    clear h c
    go_enter Tryd.func53, Tryd.ntmps53
    go_wp2_with fail
    refine (C.out ()).mono ?_
    rintro e w' ⟨rfl, rfl⟩
    go_wp2
    go_ret
    exact ⟨rfl, v, HQ.out, RC.refl _ _ _⟩
end Go.Proofs.YtpmjojemcpgpiaaDoor
