/- What TimerOnce's last three loops keep, in plain facts; an append whose outcome is told by an equation. -/
import Derived.Test.YtadaghhgmflfdaaDoorZw
import Derived.WalkKit
import Derived.ProofKit
namespace Go.Proofs.YtadaghhgmflfdaaDoor
open Go.ChangeShapes Go.WideShapes Go.ChangeAt Go.RowKit
open Wm Zm Sl

theorem wpList_runz {P : Program} {w w' : World} {ops : Array Oper} {rest : List Oper} {o : Oper} {a : Act} {Q : Exit → Act → World → Prop} {v u v' : Value}
    (hg : o.guard = none) (s x : Operand) (t : TypeId) (hop : o.op = Op.call { callee := Callee.builtin Builtin.append, args := #[s, x], argTypes := #[t, t] }) (hs : a.eval s = v) (hx : a.eval x = u)
    (hrun : (Builtin.append_ #[t, t] o.type #[v, u]).run P w = .ok v' w') (hK : wpList P ops Q rest (a.put o.dst v') w') : wpList P ops Q (o :: rest) a w := by
  refine wpList_plain hg fun K hK' => ?_
  unfold Oper.wp
  simp [execOp, hop, resolve, invoke, builtin, hs, hx, hrun, Result.andThen]
  exact hK' _ _ hK

structure Fi (A : List Int) (K : Ks) (m : Int) (c fr : Nat) : Prop where
  ar : Ar A K
  sum : fr + tot K = A.length
  all : ∀ e, e < 3 → ∀ x ∈ K e, m ≤ x.1
  past : ∀ e, e < c → e < 3 → ∀ x ∈ K e, m + 1 ≤ x.1

theorem fi_start {A : List Int} {K : Ks} (h : Ar A K) (t : tot K = A.length) (d : ∀ e ∈ A, 0 ≤ e ∧ e ≤ 100) : Fi A K 0 0 0 :=
  ⟨h, by omega, fun e he x hx => (d x.1 (List.mem_of_getElem? (h e he x hx).2)).1, fun e he => by omega⟩
theorem fi_next {A : List Int} {K : Ks} {m : Int} {c fr : Nat} (h : Fi A K m c fr) (hd : duL m (K c) = []) : Fi A K m (c + 1) fr :=
  ⟨h.ar, h.sum, h.all, fun e he h3 x hx => by
    by_cases q : e = c
    · subst q
      have := List.filter_eq_nil_iff.1 hd x hx
      simp only [decide_eq_true_eq] at this
      omega
    · exact h.past e (by omega) h3 x hx⟩
theorem fi_tick {A : List Int} {K : Ks} {m : Int} {fr : Nat} (h : Fi A K m 3 fr) : Fi A K (m + 1) 0 fr :=
  ⟨h.ar, h.sum, fun e he x hx => h.past e he he x hx, fun e he => by omega⟩
theorem fi_end {A : List Int} {K : Ks} {fr : Nat} (h : Fi A K 101 0 fr) (d : ∀ e ∈ A, 0 ≤ e ∧ e ≤ 100) : fr = A.length := by
  have := ar_end h.ar (fun e he => (d e he).2) h.all
  have := h.sum
  omega
theorem fi_fire {A : List Int} {K : Ks} {m : Int} {c fr : Nat} (a : Al 3 K) (h : Fi A K m c fr) (hc : c < 3) {x : It} {R : List It} (hd : duL m (K c) = x :: R) :
    Fi A (up K c (rid x.2 (K c))) m c (fr + 1) ∧ (up K c (rid x.2 (K c)) c).length + 1 = (K c).length ∧ x.2.toNat - 1 < A.length ∧ (arl A).getD (x.2.toNat - 1) (0, 0) = (m, x.2) ∧ ∀ j, j < x.2.toNat - 1 → ((arl A).getD j (0, 0)).2 ≠ x.2 := by
  obtain ⟨hx, hle⟩ := List.mem_filter.1 (show x ∈ duL m (K c) by rw [hd]; simp)
  simp only [decide_eq_true_eq] at hle
  have hm : x.1 = m := by have := h.all c hc x hx; omega
  obtain ⟨h1, h2⟩ := h.ar c hc x hx
  obtain ⟨r1, r2⟩ := ar_fire a h.ar hc hx
  have hl : x.2.toNat - 1 < A.length := by
    rcases Nat.lt_or_ge (x.2.toNat - 1) A.length with q | q
    · exact q
    · rw [List.getElem?_eq_none q] at h2; cases h2
  have sub : ∀ e y, y ∈ up K c (rid x.2 (K c)) e → y ∈ K e := fun e y hy => by
    by_cases q : e = c
    · subst q
      rw [up_same] at hy
      exact (mem_rid.1 hy).1
    · rw [up_other _ q] at hy
      exact hy
  refine ⟨⟨r1, by have := h.sum; omega, fun e he y hy => h.all e he y (sub e y hy), fun e he h3 y hy => h.past e he h3 y (sub e y hy)⟩, ?_, hl, ?_, fun j hj => ?_⟩
  · rw [up_same]
    exact rid_len (a.srt c hc) (a.uni c hc) hx
  · rw [arl_get A hl, List.getD_eq_getElem?_getD, h2]
    simp only [Option.getD_some, Prod.mk.injEq]
    exact ⟨hm, by omega⟩
  · rw [arl_get A (by omega)]
    simp only
    omega
end Go.Proofs.YtadaghhgmflfdaaDoor
