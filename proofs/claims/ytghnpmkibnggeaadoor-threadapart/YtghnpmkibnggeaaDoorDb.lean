/- What the document's Exit, Aim, Place, Sleep and Wake (davitref11) answer and leave. -/
import Derived.Test.YtghnpmkibnggeaaDoorRows
import Derived.Test.YtghnpmkibnggeaaDoorDa
import Derived.WalkKit
import Derived.ProofKit
import Derived.OpenShut
import Derived.BigQuiet
namespace Go.Proofs.YtghnpmkibnggeaaDoor
open Go.ChangeShapes Go.WideShapes Go.ChangeAt Go.RowKit
open Mm Sl Tm

/-- An append whose outcome is given by an equation. -/
theorem wpList_rung {P : Program} {w w' : World} {ops : Array Oper} {rest : List Oper} {o : Oper} {a : Act} {Q : Exit → Act → World → Prop} {v u v' : Value}
    (hg : o.guard = none) (s x : Operand) (t : TypeId) (hop : o.op = Op.call { callee := Callee.builtin Builtin.append, args := #[s, x], argTypes := #[t, t] }) (hs : a.eval s = v) (hx : a.eval x = u)
    (hrun : (Builtin.append_ #[t, t] o.type #[v, u]).run P w = .ok v' w') (hK : wpList P ops Q rest (a.put o.dst v') w') : wpList P ops Q (o :: rest) a w := by
  refine wpList_plain hg fun K hK' => ?_
  unfold Oper.wp
  simp [execOp, hop, resolve, invoke, builtin, hs, hx, hrun, Result.andThen]
  exact hK' _ _ hK

theorem run_appt (w : World) (ty : TypeId) {v : Value} {n : Nat} {xs : List Value} (hown : w.ownsRow 0 46 7 v n xs) (ad : Addr) (m c : Nat) (news : List Value) (hl : news.length = m * 7) (hn : ∀ j u, news[j]? = some u → w.cell? (ad.add j) = some u) (h1 : ∀ u ∈ news, u.oneCell' = true) (hs : n + m ≤ 3000) :
    ∃ v' w', (Builtin.append_ #[47, 47] ty #[v, .slice (some ad) m c]).run Tryd.prog w = .ok v' w' ∧ w'.ownsRow 0 46 7 v' (n + m) (xs ++ news) ∧ w.grownBy w' v.ownBlock ∧ ∀ g, v'.ownBlock = some g → v.ownBlock = some g ∨ w.heap.size ≤ g := by
  obtain ⟨i0, hi, hz0, hz1, hz2⟩ := info_parts Tryd.infoTh
  exact run_appg w 47 ty 46 i0 _ 7 48 Tryd.underlying47 hi hz0 hz1 hz2 rfl (by decide) (by decide) hown ad m c news hl hn h1 hs

theorem rd_store {w w2 : World} {b c : Nat} {v v' : Value} {O O' : Nat → Bool} {X X' : Nat → Th} (h : RD w b v c O X) (f : Fr w.heap.size v.ownBlock.toList w w2) (o2 : w2.ownsRow 0 46 7 v' (dn O').length (fy (yl O' X'))) (nw : ∀ g, v'.ownBlock = some g → v.ownBlock = some g ∨ w.heap.size ≤ g) :
    RD (w2.setCell ⟨b, 1, none⟩ v') b v' c O' X' ∧ DC w (w2.setCell ⟨b, 1, none⟩ v') b v v' ∧ w2.cell? ⟨b, 1, none⟩ = some v ∧ w2.frozen? ⟨b, 1, none⟩ = false := by
  have nb : b ∉ v.ownBlock.toList := fun e => (h.ob (g := b) (by simpa using e)).1 rfl
  have sb := h.sb.keep f h.sb.lt nb
  refine ⟨⟨sb.set 1 v', ?_, h.c1, h.c2⟩, ⟨(f.mono (Nat.le_refl _) fun i _ hi e => hi (by simp [e])).setCell (Or.inr (by simp)) _, nw⟩, sb.cell 1, sb.free 1⟩
  exact owng_keep (B := w2.heap.size) (S := [b]) o2 ((Fr.refl _ _ _).setCell (Or.inr (by simp)) _) fun g e => ⟨owng_lt o2 e, by
    have := owng_ne o2 sb (by decide) e
    simp
    exact fun q => this q.symm⟩

theorem fy_front (A B : List (Nat × Th)) (j : Nat) (h : j < A.length * 7) : (fy (A ++ B))[j]? = (fy A)[j]? := by
  rw [fy_app, List.getElem?_append_left (by rw [fy_len]; exact h)]
theorem fy_back (A B : List (Nat × Th)) (k j : Nat) (h : A.length = k) : (fy (A ++ B))[k * 7 + j]? = (fy B)[j]? := by
  subst h
  rw [fy_app, List.getElem?_append_right (by rw [fy_len]; omega), fy_len]
  congr 1
  omega
theorem fy_back1 (A B : List (Nat × Th)) (x : Nat × Th) (k j : Nat) (h : A.length = k) : (fy (A ++ x :: B))[(k + 1) * 7 + j]? = (fy B)[j]? := by
  rw [show A ++ x :: B = (A ++ [x]) ++ B by simp]
  exact fy_back _ B (k + 1) j (by simp [h])

/-- Without one: what the two appends and the store make of it. -/
theorem rd_del {w : World} {b c n' i k : Nat} {a : Option Addr} {cap : Nat} {O : Nat → Bool} {X : Nat → Th} (h : RD w b (.slice a n' cap) c O X) (hi : i < 32) (ho : O (i + 1) = true) (ek : (lo O i).length = k) (ty ty' : TypeId) :
    ∃ g, a = some ⟨g, 0, none⟩ ∧ n' = (dn O).length ∧ k < n' ∧ n' ≤ cap ∧ ∃ a1 c1 w1, (Builtin.append_ #[47, 47] ty #[.slice none 0 0, .slice (some ⟨g, 0, none⟩) k cap]).run Tryd.prog w = .ok (.slice a1 k c1) w1 ∧ w1.cell? ⟨b, 1, none⟩ = some (.slice a n' cap) ∧
      ∀ ad c', (k + 1 < cap → ad = ⟨g, (k + 1) * 7, none⟩) → ∃ a2 c2 w2, (Builtin.append_ #[47, 47] ty' #[.slice a1 k c1, .slice (some ad) (n' - (k + 1)) c']).run Tryd.prog w1 = .ok (.slice a2 (n' - 1) c2) w2 ∧
        RD (w2.setCell ⟨b, 1, none⟩ (.slice a2 (n' - 1) c2)) b (.slice a2 (n' - 1) c2) c (st O (i + 1) false) (sx X i zt) ∧ DC w (w2.setCell ⟨b, 1, none⟩ (.slice a2 (n' - 1) c2)) b (.slice a n' cap) (.slice a2 (n' - 1) c2) ∧ w2.cell? ⟨b, 1, none⟩ = some (.slice a n' cap) ∧ w2.frozen? ⟨b, 1, none⟩ = false := by
  have hk := lo_lt hi ho
  rw [ek] at hk
  obtain ⟨g, rfl, rfl, hcp, _, _⟩ := h.at hk
  have hl := dn_le O
  have hy := yl_with O X hi ho
  have hyd := yl_del O X hi zt
  have ly := yl_len O X
  have ld := yl_len (st O (i + 1) false) (sx X i zt)
  have lA : ((lo O i).map fun j => (j, X j)).length = k := by simp [ek]
  generalize (lo O i).map (fun j => (j, X j)) = A at *
  generalize (Tm.hi O i).map (fun j => (j, X j)) = B at *
  have lB : B.length = (dn O).length - (k + 1) := by rw [hy] at ly; simp at ly; omega
  have ln : (dn (st O (i + 1) false)).length = (dn O).length - 1 := by rw [hyd] at ld; simp at ld; omega
  have glt := (h.ob (g := g) rfl).2
  have cell : ∀ j, j < (dn O).length * 7 → w.cell? ⟨g, j, none⟩ = (fy (A ++ (i, X i) :: B))[j]? := fun j hj => by rw [← hy]; exact h.own.cellAt j hj
  have l1 : (fy A).length = k * 7 := by rw [fy_len, lA]
  have l2 : (fy B).length = ((dn O).length - (k + 1)) * 7 := by rw [fy_len, lB]
  obtain ⟨v1, w1, run1, o1, g1, n1⟩ := run_appt w ty (World.ownsRow_nil w 0 46 7) ⟨g, 0, none⟩ k cap (fy A) l1 (fun j u hj => by
    have hj2 := (List.getElem?_eq_some_iff.1 hj).1
    rw [Addr.add_lit, Nat.zero_add, cell j (by omega), ← hj]
    exact fy_front A _ j (by omega)) (fy_one _) (by omega)
  rw [Nat.zero_add, List.nil_append] at o1
  obtain ⟨a1, c1, rfl⟩ := owng_shape o1
  have b1 : Below w.heap.size w w1 := ⟨g1.os, g1.tape, g1.output, g1.size, fun i hi => g1.block i hi (by simp [Value.ownBlock])⟩
  have h1 := h.below b1
  refine ⟨g, rfl, rfl, hk, hcp, a1, c1, w1, run1, h1.sb.cell 1, fun ad c' had => ?_⟩
  obtain ⟨v2, w2, run2, o2, g2, n2⟩ := run_appt w1 ty' o1 ad ((dn O).length - (k + 1)) c' (fy B) l2 (fun j u hj => by
    have hj2 := (List.getElem?_eq_some_iff.1 hj).1
    rw [had (by omega), Addr.add_lit]
    rw [b1.cell (p := ⟨g, (k + 1) * 7 + j, none⟩) glt, cell _ (by omega), ← hj]
    exact fy_back1 A B _ k j lA) (fy_one _) (by omega)
  rw [← fy_app, ← hyd, show k + ((dn O).length - (k + 1)) = (dn O).length - 1 by omega, ← ln] at o2
  obtain ⟨a2, c2, rfl⟩ := owng_shape o2
  have new1 : ∀ i, (Value.slice a1 k c1).ownBlock = some i → w.heap.size ≤ i := fun i hi => by
    rcases n1 i hi with q | q
    · cases q
    · exact q
  have b2 : Below w.heap.size w w2 := b1.grown g2 g1.size (fun i hi => new1 i hi)
  have := rd_store h ((Fr.of_below b2).mono (Nat.le_refl _) (fun _ _ _ => by simp)) o2 (fun i hi => by
    rcases n2 i hi with q | q
    · exact Or.inr (new1 i q)
    · exact Or.inr (by have := g1.size; omega))
  rw [ln] at this run2
  exact ⟨a2, c2, w2, run2, this.1, this.2.1, this.2.2.1, this.2.2.2⟩

set_option maxRecDepth 100000 in
set_option maxHeartbeats 1000000 in
theorem rdexit_any {b c : Nat} {v : Value} {O : Nat → Bool} {X : Nat → Th} (n : Int) (w : World) (h : RD w b v c O X) :
    Calls Tryd.prog 40 #[.pointer (some ⟨b, 0, none⟩), .int .i64 n] w fun e w' => e = .returned (.int .i64 (gE 32 O n)) ∧ ∃ v', RD w' b v' c (gO 32 O n) (exX O X n) ∧ DC w w' b v v' := by
  have HQ : Hid (RD w b v c O X) := h
  have C : Hid (∀ _ : Unit, _) := fun _ => rdfind_any n w h
  cases e : hs 32 O n with
  | true =>
    rw [fd_yes e] at C
    rw [show gE 32 O n = 0 by unfold gE; rw [e]; rfl, show gO 32 O n = st O n.toNat false by unfold gO; rw [e]; rfl, show exX O X n = sx X (n.toNat - 1) zt by unfold exX; rw [e]; rfl]
    obtain ⟨i, hi, rfl, e2, ho⟩ := hs_some e
    rw [e2] at C ⊢
    rw [show ((i : Int) + 1).toNat = i + 1 by omega]
    obtain ⟨a, cap, rfl⟩ := h.shape
    have k1 := h.k1
    have hl : ((dn O).length : Int) ≤ 32 := by have := dn_le O; omega
    obtain ⟨k, hk0⟩ : ∃ k, (lo O i).length = k := ⟨_, rfl⟩
    rw [hk0] at C
    obtain ⟨g, rfl, _, hk, hcp, a1, c1, w1, run1, d1, T⟩ := rd_del h hi ho hk0 47 47
    have hk2 : (k : Int) < (dn O).length := by omega
    have hcp2 : ((dn O).length : Int) ≤ cap := by omega
    generalize (dn O).length = l at *
    by_cases hcap : cap = k + 1
    · obtain ⟨a2, c2, w2, run2, q2, r2, d2, f2⟩ := T ⟨g, 0, none⟩ (cap - (k + 1)) (fun h => absurd h (by omega))
      have HQ2 : Hid (RD _ b _ c (st O (i + 1) false) (sx X i zt) ∧ DC w _ b _ _) := ⟨q2, r2⟩
      clear h e T hk q2 r2 hk0 e2 ho
      go_enter Tryd.func40, Tryd.ntmps40
      go_wp2_with fail
      refine (C.out ()).mono ?_
      rintro e w' ⟨rfl, rfl⟩
      go_wp2_with (first | (at_builtin; refine wpList_rung rfl (.tmp 12) (.tmp 18) 47 rfl rfl rfl run1 ?_) | (at_builtin; refine wpList_rung rfl (.tmp 21) (.tmp 28) 47 rfl rfl rfl run2 ?_))
      go_ret
      exact ⟨rfl, _, HQ2.out.1, HQ2.out.2⟩
    · obtain ⟨a2, c2, w2, run2, q2, r2, d2, f2⟩ := T ⟨g, (k + 1) * 7, none⟩ (cap - (k + 1)) (fun h => rfl)
      have HQ2 : Hid (RD _ b _ c (st O (i + 1) false) (sx X i zt) ∧ DC w _ b _ _) := ⟨q2, r2⟩
      clear h e T hk q2 r2 hk0 e2 ho
      go_enter Tryd.func40, Tryd.ntmps40
      go_wp2_with fail
      refine (C.out ()).mono ?_
      rintro e w' ⟨rfl, rfl⟩
      go_wp2_with (first | (at_builtin; refine wpList_rung rfl (.tmp 12) (.tmp 18) 47 rfl rfl rfl run1 ?_) | (at_builtin; refine wpList_rung rfl (.tmp 21) (.tmp 28) 47 rfl rfl rfl run2 ?_))
      go_ret
      exact ⟨rfl, _, HQ2.out.1, HQ2.out.2⟩
  | false =>
    rw [fd_no e] at C
    rw [show gE 32 O n = 4 by unfold gE; rw [e]; rfl, show gO 32 O n = O by unfold gO; rw [e]; rfl, show exX O X n = X by unfold exX; rw [e]; rfl]
    clear h e
    go_enter Tryd.func40, Tryd.ntmps40
    go_wp2_with fail
    refine (C.out ()).mono ?_
    rintro e w' ⟨rfl, rfl⟩
    go_wp2
    go_ret
    exact ⟨rfl, v, HQ.out, DC.refl _ _ _⟩

/-- With one of its cells turned. -/
theorem fy_set (A B : List (Nat × Th)) (x y : Nat × Th) (k j : Nat) (u : Value) (h : A.length = k) (hj : j < 7) (e : (sv x).set j u = sv y) : (fy (A ++ x :: B)).set (k * 7 + j) u = fy (A ++ y :: B) := by
  subst h
  rw [fy_app, fy_app, fy_cons, fy_cons, ← fy_len A, List.set_append_right _ _ (by omega), show (fy A).length + j - (fy A).length = j by omega, List.set_append_left _ _ (by show j < 7; exact hj), e]
/-- Behind a store into a field of a thread. -/
theorem rd_set {w : World} {b c n cap g i k : Nat} {O : Nat → Bool} {X : Nat → Th} (h : RD w b (.slice (some ⟨g, 0, none⟩) n cap) c O X) (hi : i < 32) (ho : O (i + 1) = true) (ek : (lo O i).length = k) (j : Nat) (hj : j < 7) (u : Value) (t : Th) (e : (sv (i, X i)).set j u = sv (i, t)) :
    RD (w.setCell ⟨g, k * 7 + j, none⟩ u) b (.slice (some ⟨g, 0, none⟩) n cap) c O (sx X i t) ∧ DC w (w.setCell ⟨g, k * 7 + j, none⟩ u) b (.slice (some ⟨g, 0, none⟩) n cap) (.slice (some ⟨g, 0, none⟩) n cap) := by
  have lA : ((lo O i).map fun j => (j, X j)).length = k := by simp [ek]
  obtain rfl : n = (dn O).length := by
    obtain ⟨_, _, e3⟩ := h.shape
    simp only [Value.slice.injEq] at e3
    exact e3.2.1
  have s := (h.own.stored (k * 7 + j) u).1
  rw [yl_with O X hi ho, fy_set _ _ _ _ k j u lA hj e, ← yl_upd O X hi ho t] at s
  have ng := (h.ob (g := g) rfl).1
  exact ⟨⟨h.sb.other (p := ⟨g, k * 7 + j, none⟩) ng u, s, h.c1, h.c2⟩, ⟨(Fr.refl _ _ _).setCell (Or.inr (by simp [Value.ownBlock])) _, fun _ q => Or.inl q⟩⟩
end Go.Proofs.YtghnpmkibnggeaaDoor
