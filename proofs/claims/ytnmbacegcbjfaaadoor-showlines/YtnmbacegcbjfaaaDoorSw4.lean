/- Records as lines: the words of a line, one after another. -/
import Derived.Test.YtnmbacegcbjfaaaDoorRows
import Derived.Test.YtnmbacegcbjfaaaDoorSw3
import Derived.Test.YtnmbacegcbjfaaaDoorAbk
import Derived.Shelf.Abstract
import Derived.Shelf.RegionOpen
import Derived.WalkKit
import Derived.ProofKit
import Derived.OpenShut
import Derived.BigQuiet
import Derived.WalkSmall
import Derived.WalkSpells
namespace Go.Proofs.YtnmbacegcbjfaaaDoor
open Go.ChangeShapes Go.WideShapes Go.ChangeAt Go.RowKit
open Wd Mm
set_option linter.unusedVariables false
set_option linter.unusedSimpArgs false
set_option maxRecDepth 100000
open Sv
attribute [local go_sem] Oper.semAt_some

def mzc : Value → Value → Nat
  | .string b, .bool true => b.size + 1
  | _, _ => 0
theorem mzc_t (t : List UInt8) : mzc (.string (sb t)) (.bool true) = t.length + 1 := by
  show (sb t).size + 1 = _
  rw [sb_size]
theorem mzc_f (v : Value) : mzc v (.bool false) = 0 := by
  unfold mzc
  split
  · rename_i h; cases h
  · rfl
set_option maxHeartbeats 2000000 in
theorem words_it {s : List UInt8} {lb : Nat} (l : Nat) (J : Nat → World → Prop) (Jx : World → Prop) (W : World) (hs : s.length ≤ 1000) (hJ : ∀ k W, J k W → GW W ∧ W.cell? ⟨lb, 0, none⟩ = some (.string (sb s))) (hS : ∀ k W W', Sm W' W → J k W → J k W') (h0 : J 0 W)
    (hY : ∀ k W, k < (parts 32 s).length → J k W → YieldAt Fence.wide 2 Tryd.prog l #[.string (sb ((parts 32 s).getD k []))] W fun e W' => (e = .returned (.bool true) ∧ J (k + 1) W') ∨ (e = .returned (.bool false) ∧ Jx W')) :
    CallsIn Fence.wide 3 Tryd.prog 49 (#[.func (.yield l) #[] #[]] ++ #[.pointer (some ⟨lb, 0, none⟩)]) W fun e W' => (∃ v, e = .returned v) ∧ (J (parts 32 s).length W' ∨ Jx W') := by
  have c0 := (hJ 0 W h0).2
  have HY : Hid (∀ k W, k < (parts 32 s).length → J k W → _) := hY
  have HG : Hid (∀ k W, J k W → GW W) := fun k W h => (hJ k W h).1
  have HS : Hid (∀ k W W', Sm W' W → J k W → J k W') := hS
  have HL : Hid (s.length ≤ 1000) := hs
  have P0 : Hid (0 < (parts 32 s).length ∧ parts 32 s = (parts 32 s).drop 0) := ⟨List.length_pos_iff.2 (parts_ne 32 s), rfl⟩
  obtain ⟨P, hP⟩ : ∃ P, parts 32 s = P := ⟨_, rfl⟩
  have H0 : Hid (J 0 W) := h0
  have PS : Hid (parts 32 s = P) := hP
  rw [hP] at HY P0 ⊢
  clear hJ hY hS h0 hs hP
  refine callsIn_of_wp Tryd.func49 rfl trivial ?_ rfl
  simp only [Tryd.ntmps49, List.size_toArray, List.length_cons, List.length_nil, Nat.reduceAdd, Nat.reduceSub, Array.replicate_succ, Array.replicate_zero, List.push_toArray, List.append_toArray, List.nil_append, List.cons_append]
  gi_wp2
  gi_loopw [3, 4] (fun r m wr => (∃ (k : Nat) (t : List UInt8), r = .string (sb t) ∧ m = .bool true ∧ Hid (k < P.length ∧ parts 32 t = P.drop k ∧ t.length ≤ 1000) ∧ Hid (J k wr)) ∨ (∃ t : List UInt8, r = .string (sb t) ∧ m = .bool false ∧ Hid (J P.length wr))) (fun r m _ => mzc r m)
  case atStart => exact Or.inl ⟨0, s, rfl, rfl, ⟨P0.out.1, PS.out.trans P0.out.2, HL.out⟩, H0⟩
  case round =>
    rcases hrel with ⟨k, t, rfl, rfl, ht, hj⟩ | ⟨t, rfl, rfl, hj⟩
    · have C : Hid (∀ _ : Unit, _) := fun _ => scut_any t wr (HG.out k wr hj.out) (by have := ht.out.2.2; omega)
      have hk := ht.out.1
      have hd := ht.out.2.1
      rw [List.drop_eq_getElem_cons hk] at hd
      have hg : P.getD k [] = P[k] := by rw [List.getD_eq_getElem?_getD, List.getElem?_eq_getElem hk]; rfl
      rcases parts_cases 32 t with ⟨n1, n2⟩ | ⟨a, r, n1, n2, n3⟩
      · rw [cut_miss 32 t n1] at C
        rw [n2] at hd
        obtain ⟨e1, e2⟩ := List.cons.inj hd
        have e3 : k + 1 = P.length := by
          have := congrArg List.length e2
          simp at this
          omega
        have HY1 : Hid (∀ V, J k V → YieldAt Fence.wide 2 Tryd.prog l #[.string (sb t)] V fun e W' => (e = .returned (.bool true) ∧ J P.length W') ∨ (e = .returned (.bool false) ∧ Jx W')) := fun V h => by
          have := HY.out k V hk h
          rw [hg, ← e1, e3] at this
          exact this
        have ZM : Hid (∀ v, mzc v (.bool false) < mzc (.string (sb t)) (.bool true)) := fun v => by rw [mzc_f, mzc_t]; omega
        clear hd n1 n2 e1 e2 e3 hg hk
        gi_wp2_with fail
        refine ⟨trivial, (callsIn_wide.2 (C.out ())).mono ?_⟩
        rintro e V ⟨rfl, sm⟩
        obtain ⟨fn, tmps, assign, body, hy, hR⟩ := HY1.out V (HS.out k _ _ sm hj.out)
        clear sm
        gi_wp2
        refine hR.mono ?_
        rintro e W3 (⟨rfl, hJ3⟩ | ⟨rfl, hJx3⟩)
        · gi_wp2
          go_roundw
          case rel => exact Or.inr ⟨_, rfl, rfl, hJ3⟩
          case measure => exact ZM.out _
        · gi_wp2
          refine bodyPost_ret (results_none rfl _ _ _) rfl ?_
          exact ⟨⟨_, rfl⟩, .inr hJx3⟩
      · rw [n1, cut_hit 32 a r n2] at C
        rw [n3] at hd
        obtain ⟨e1, e2⟩ := List.cons.inj hd
        have e3 : k + 1 < P.length := by
          have := congrArg List.length e2
          have h2 := List.length_pos_iff.2 (parts_ne 32 r)
          simp at this
          omega
        have HY1 : Hid (∀ V, J k V → YieldAt Fence.wide 2 Tryd.prog l #[.string (sb a)] V fun e W' => (e = .returned (.bool true) ∧ J (k + 1) W') ∨ (e = .returned (.bool false) ∧ Jx W')) := fun V h => by
          have := HY.out k V hk h
          rw [hg, ← e1] at this
          exact this
        have HR : Hid (k + 1 < P.length ∧ parts 32 r = P.drop (k + 1) ∧ r.length ≤ 1000) := ⟨e3, e2, by have := ht.out.2.2; rw [n1] at this; simp at this; omega⟩
        have ZM : Hid (mzc (.string (sb r)) (.bool true) < mzc (.string (sb t)) (.bool true)) := by show _ < _; rw [mzc_t, mzc_t, n1]; simp; omega
        rw [← n1] at C
        clear hd n1 n2 e1 e2 e3 hg hk n3
        gi_wp2_with fail
        refine ⟨trivial, (callsIn_wide.2 (C.out ())).mono ?_⟩
        rintro e V ⟨rfl, sm⟩
        obtain ⟨fn, tmps, assign, body, hy, hR⟩ := HY1.out V (HS.out k _ _ sm hj.out)
        clear sm
        gi_wp2
        refine hR.mono ?_
        rintro e W3 (⟨rfl, hJ3⟩ | ⟨rfl, hJx3⟩)
        · gi_wp2
          go_roundw
          case rel => exact Or.inl ⟨k + 1, r, rfl, rfl, HR, hJ3⟩
          case measure => exact ZM.out
        · gi_wp2
          refine bodyPost_ret (results_none rfl _ _ _) rfl ?_
          exact ⟨⟨_, rfl⟩, .inr hJx3⟩
    · gi_wp2
      go_end0
      exact ⟨⟨_, rfl⟩, .inl hj.out⟩
end Go.Proofs.YtnmbacegcbjfaaaDoor
