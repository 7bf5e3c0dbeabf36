/- What the document's wheel's Drop and Add answer and leave. -/
import Derived.Test.YtadaghhgmflfdaaDoorRows
import Derived.Test.YtadaghhgmflfdaaDoorYa
import Derived.Test.YtadaghhgmflfdaaDoorWj
import Derived.WalkKit
import Derived.ProofKit
import Derived.OpenShut
import Derived.BigQuiet
namespace Go.Proofs.YtadaghhgmflfdaaDoor
open Go.ChangeShapes Go.WideShapes Go.ChangeAt Go.RowKit
open Wm

/-- An append of known outcome, for the walk. -/
theorem wpList_run {P : Program} {w w' : World} {ops : Array Oper} {rest : List Oper} {o : Oper} {a : Act} {Q : Exit → Act → World → Prop} {v u v' : Value}
    (hg : o.guard = none) (s x : Operand) (t : TypeId) (hop : o.op = Op.call { callee := Callee.builtin Builtin.append, args := #[s, x], argTypes := #[t, t] }) (hs : a.eval s = v) (hx : a.eval x = u)
    (hrun : (Builtin.append_ #[t, t] o.type #[v, u]).run P w = .ok v' w') (hK : wpList P ops Q rest (a.put o.dst v') w') : wpList P ops Q (o :: rest) a w := by
  refine wpList_plain hg fun K hK' => ?_
  unfold Oper.wp
  simp [execOp, hop, resolve, invoke, builtin, hs, hx, hrun, Result.andThen]
  exact hK' _ _ hK

theorem fr_nil_below {w w' : World} (h : Fr w.heap.size (ob (.slice none 0 0)) w w') : Below w.heap.size w w' := h.below (by simp [ob, Value.ownBlock])

/-- Without the k-th: what two appends and a store make of it. -/
theorem ddrop_chain {w : World} {s k cap : Nat} {now id : Int} {a : Option Addr} {L : List It} (h : DV w s now (.slice a L.length cap) L) (hl : L.length ≤ 1000) (hk : k < L.length) (hr : L.take k ++ L.drop (k + 1) = rid id L) :
    ∃ g, a = some ⟨g, 0, none⟩ ∧ k + 1 ≤ cap ∧ ∀ ad, (ad = if cap = k + 1 then some ⟨g, 0, none⟩ else some ⟨g, (k + 1) * 2, none⟩) → ∃ a1 c1 w1 a2 c2 w2, (∀ ty, (Builtin.append_ #[46, 46] ty #[.slice none 0 0, .slice a k cap]).run Tryd.prog w = .ok (.slice a1 k c1) w1) ∧ w1.cell? ⟨s, 1, none⟩ = some (.slice a L.length cap) ∧
      (∀ ty, (Builtin.append_ #[46, 46] ty #[.slice a1 k c1, .slice ad (L.length - (k + 1)) (cap - (k + 1))]).run Tryd.prog w1 = .ok (.slice a2 (L.length - 1) c2) w2) ∧ w2.cell? ⟨s, 1, none⟩ = some (.slice a L.length cap) ∧ w2.frozen? ⟨s, 1, none⟩ = false ∧
      Hid (∃ F', DD (w2.setCell ⟨s, 1, none⟩ (.slice a2 (L.length - 1) c2)) s now (rid id L) F' ∧ Mv w (w2.setCell ⟨s, 1, none⟩ (.slice a2 (L.length - 1) c2)) (s :: ob (.slice a L.length cap)) F') := by
  obtain ⟨g, e, _⟩ := h.own.cell hk
  have hcap : L.length ≤ cap := by
    rcases h.own.cases with ⟨e2, _⟩ | ⟨g2, c2, cur, e2, _, h1, _⟩
    · rw [e] at e2; cases e2
    · simp only [Value.slice.injEq] at e2
      omega
  refine ⟨g, e, by omega, fun ad had => ?_⟩
  have lt : (L.take k).length = k := by rw [List.length_take]; omega
  have ld : (L.drop (k + 1)).length = L.length - (k + 1) := List.length_drop
  obtain ⟨a1, c1, w1, r1, o1, f1, n1⟩ := app_any (own_nil 93 w) (src_take h.own (by omega : k ≤ L.length)) (by rw [lt]; simp; omega)
  simp only [List.length_nil, Nat.zero_add, List.nil_append, lt] at r1 o1 n1
  have b1 := fr_nil_below f1
  have h1 := h.below b1
  have sr : Src2 w (.slice ad (L.length - (k + 1)) (cap - (k + 1))) (L.drop (k + 1)) := src_drop h.own (by omega) ad ⟨fun q => (by rw [q] at e; cases e), fun g2 q => (by rw [e] at q; cases q; exact had)⟩ _ (fun q => (by rw [q] at e; cases e))
  obtain ⟨a2, c2, w2, r2, o2, f2, n2⟩ := app_any o1 (sr.below b1) (by rw [lt, ld]; omega)
  simp only [lt, ld, show k + (L.length - (k + 1)) = L.length - 1 by omega] at r2 o2 n2
  rw [hr] at o2
  have new1 : ∀ i ∈ ob (.slice a1 k c1), w.heap.size ≤ i := fun i hi => by
    rcases n1 i hi with q | q
    · simp [ob, Value.ownBlock] at q
    · exact q
  have b2 : Below w.heap.size w w2 := b1.trans ((f2.less b1.size).below new1)
  obtain ⟨q1, q2, q3, q4⟩ := dv_store h b2 o2 (fun i hi => by
    rcases n2 i hi with q | q
    · exact new1 i q
    · have := b1.size; omega) (srt_rid h.srt id) (uni_rid h.uni id)
  exact ⟨a1, c1, w1, a2, c2, w2, r1, h1.st.cell 1, r2, q3, q4, _, q1, q2⟩

set_option maxRecDepth 100000 in
set_option maxHeartbeats 2000000 in
theorem rdrop_any {w : World} {s : Nat} {now : Int} {L : List It} {F : List Nat} (id : Int) (h : DD w s now L F) (hl : L.length ≤ 1000) :
    Calls Tryd.prog 57 #[.pointer (some ⟨s, 0, none⟩), .int .i64 id] w fun e w' => e = .returned (.int .i64 (dpE L id)) ∧ ∃ F', DD w' s now (rid id L) F' ∧ Mv w w' F F' := by
  have C : Hid (∀ _ : Unit, _) := fun _ => rfind_any id h hl
  unfold dpE
  cases e : wn L id with
  | none =>
    rw [ix_none e] at C
    rw [Option.isSome_none, if_neg (by decide), rid_none (wn_none.1 e)]
    have H : Hid (DD w s now L F) := h
    clear h e
    go_enter Tryd.func57, Tryd.ntmps57
    go_wp2_with fail
    refine (C.out ()).mono ?_
    rintro e w' ⟨rfl, rfl⟩
    go_wp2
    go_ret
    exact ⟨rfl, F, H.out, Mv.refl _ _⟩
  | some d =>
    rw [ix_some e] at C
    rw [Option.isSome_some, if_pos rfl]
    obtain ⟨v, h, rfl⟩ := h
    obtain ⟨a, cap, rfl⟩ := h.own.shape
    have k1 : w.cell? ⟨s, 1, none⟩ = some (.slice a L.length cap) := h.st.cell 1
    have hin := wn_mem e
    have hlt := at_lt h.srt hin
    obtain ⟨g, rfl, hcp, T⟩ := ddrop_chain (id := id) h hl hlt (rid_is h.srt h.uni hin).symm
    generalize at_ L (d, id) = k at *
    generalize L.length = l at *
    have hk2 : (k : Int) < l := by omega
    have hl2 : (l : Int) ≤ 1000 := by omega
    have hcp2 : (k : Int) ≤ cap := by omega
    have hcp3 : (k : Int) + 1 ≤ cap := by omega
    have hcp4 : (k : Int) + 1 ≤ l := by omega
    have z9 : ((k : Int) + 1).toNat = k + 1 := by omega
    by_cases hcap : cap = k + 1
    · obtain ⟨a1, c1, w1, a2, c2, w2, r1, d1, r2, d2, f2, FF⟩ := T (some ⟨g, 0, none⟩) (by rw [if_pos hcap])
      clear h e T hlt hin
      have R1 := r1 46
      have R2 := r2 46
      clear r1 r2
      go_enter Tryd.func57, Tryd.ntmps57
      go_wp2_with fail
      refine (C.out ()).mono ?_
      rintro e w' ⟨rfl, rfl⟩
      go_wp2_with (first | (at_builtin; refine wpList_run rfl (.tmp 12) (.tmp 18) 46 rfl rfl rfl R1 ?_) | (at_builtin; refine wpList_run rfl (.tmp 21) (.tmp 28) 46 rfl rfl rfl R2 ?_))
      go_ret
      exact ⟨rfl, FF.out⟩
    · obtain ⟨a1, c1, w1, a2, c2, w2, r1, d1, r2, d2, f2, FF⟩ := T (some ⟨g, (k + 1) * 2, none⟩) (by rw [if_neg hcap])
      clear h e T hlt hin
      have R1 := r1 46
      have R2 := r2 46
      clear r1 r2
      go_enter Tryd.func57, Tryd.ntmps57
      go_wp2_with fail
      refine (C.out ()).mono ?_
      rintro e w' ⟨rfl, rfl⟩
      go_wp2_with (first | (at_builtin; refine wpList_run rfl (.tmp 12) (.tmp 18) 46 rfl rfl rfl R1 ?_) | (at_builtin; refine wpList_run rfl (.tmp 21) (.tmp 28) 46 rfl rfl rfl R2 ?_))
      go_ret
      exact ⟨rfl, FF.out⟩
end Go.Proofs.YtadaghhgmflfdaaDoor
