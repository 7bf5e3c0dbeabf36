/- What the loops of RunqRound keep: lemmas outside the walk. -/
import Derived.Test.YtpmjojemcpgpiaaUd
import Derived.Test.YtpmjojemcpgpiaaQr
namespace Go.Proofs.Ytpmjojemcpgpiaa
open Go.ChangeShapes Go.WideShapes Go.ChangeAt Go.RowKit
open Fm Qm

theorem one_pk {K : Ks} : pkN 1 K 0 = tpN (K 0) ∧ pkE 1 K 0 = tpE (K 0) ∧ pkK 1 K 0 0 = tnX (K 0) ∧ liL 1 K 0 = cat (K 0) := ⟨rfl, rfl, rfl, rfl⟩
theorem one_pr {K : Ks} (h : Al 1 K) {id : Int} (hi : id ∈ ids (K 0)) : rpN 1 K id = prP (K 0) id ∧ (Lit.int .i64 id).wf = true := by
  refine ⟨?_, h.wf 0 (by decide) id hi⟩
  unfold rpN
  rw [onc_some h (by decide) hi]
theorem tn_ids {m : Nat} {X0 X : Its} {k j : Nat} (h : Tn m X0 X k j) (h0 : ∀ x ∈ X0, 0 ≤ x.1 ∧ x.1 < 8) {id : Int} (hi : id ∈ ids X0) : id ∈ ids X := by
  obtain ⟨p, hp⟩ := (mem_ids X0 id).1 hi
  have hr := h0 _ hp
  simp only at hr
  have : id ∈ Qm.lv X0 p.toNat := (mem_lv _ _ _).2 (by rw [show ((p.toNat : Nat) : Int) = p by omega]; exact hp)
  have : id ∈ Qm.lv X p.toNat := by
    rw [h.lv p.toNat]
    by_cases c : p.toNat = k
    · rw [if_pos c, mem_rot, ← c]; exact this
    · rw [if_neg c]; exact this
  exact (mem_ids X id).2 ⟨_, (mem_lv _ _ _).1 this⟩
end Go.Proofs.Ytpmjojemcpgpiaa
