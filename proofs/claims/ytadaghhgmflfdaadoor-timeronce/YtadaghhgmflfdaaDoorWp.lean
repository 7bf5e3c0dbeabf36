/- What a wheel's Next answers. -/
import Derived.Test.YtadaghhgmflfdaaDoorRows
import Derived.Test.YtadaghhgmflfdaaDoorWo
import Derived.WalkKit
import Derived.ProofKit
import Derived.OpenShut
import Derived.BigQuiet
import Derived.WalkMore
namespace Go.Proofs.YtadaghhgmflfdaaDoor
open Go.ChangeShapes Go.WideShapes Go.ChangeAt Go.RowKit
open Wm

/-- What Next answers. -/
def nxN (L : List It) : Int := match L with | [] => 0 | x :: _ => x.1
def nxE (L : List It) : Int := match L with | [] => 12 | _ :: _ => 0

theorem nx_is {now : Int} {L : List It} (h : Srt L) (t : Tks L) (hn : isT now) {j : Nat} (h0 : fst now L j = []) {x : It} {T : List It} (hx : rl (rm now) L j = x :: T) : nxN L = x.1 ∧ nxE L = 0 := by
  have m := mono_rm h t hn.1 hn.2
  have e1 : fst now L (j + 1) = x :: T := by rw [fst_succ, h0, hx]; rfl
  unfold fst at e1
  rw [cat_rooms _ _ _ m] at e1
  cases L with
  | nil => simp at e1
  | cons z L =>
    have hm : x ∈ (z :: L).filter (fun y => decide (rm now y < j + 1)) := by rw [e1]; exact List.mem_cons_self
    obtain ⟨q1, q2⟩ := List.mem_filter.1 hm
    have q2 : rm now x < j + 1 := by simpa using q2
    have q3 : rm now z ≤ rm now x := by
      rcases List.mem_cons.1 q1 with e | e
      · rw [e]; exact Nat.le_refl _
      · exact (List.pairwise_cons.1 m).1 x e
    rw [List.filter_cons_of_pos (by simp; omega)] at e1
    have e2 : z = x := by
      have := congrArg List.head? e1
      simpa using this
    subst e2
    exact ⟨rfl, rfl⟩

set_option maxRecDepth 100000 in
set_option maxHeartbeats 4000000 in
theorem next_any {w : World} {s : Nat} {now : Int} {L : List It} {F : List Nat} (h : WW w s now L F) (hl : L.length ≤ 1000) :
    Calls Tryd.prog 38 #[.pointer (some ⟨s, 0, none⟩)] w fun e w' => e = .returned (.tuple #[.int .i64 (nxN L), .int .i64 (nxE L)]) ∧ w' = w := by
  obtain ⟨mp, V, h, rfl⟩ := h
  obtain ⟨S, hS⟩ : ∃ S : Nat → Value, ∀ j, S j = V.getD j nv := ⟨_, fun _ => rfl⟩
  have CS : Hid (∀ j, j < 169 → w.cell? ⟨s, 2 + j, none⟩ = some (S j)) := fun j hj => by rw [hS]; exact h.wr.cr hj
  obtain ⟨E, hE⟩ : ∃ E : Nat → Prop, ∀ j, E j = (fst now L j = []) := ⟨_, fun _ => rfl⟩
  have E0 : Hid (E 0) := by rw [hE]; exact rfl
  obtain ⟨rn, hrn⟩ : ∃ rn, rn = nxN L := ⟨_, rfl⟩
  obtain ⟨re, hre⟩ : ∃ re, re = nxE L := ⟨_, rfl⟩
  rw [← hrn, ← hre]
  have CE : Hid (∀ j, j < 169 → E j → (∃ a n cap, S j = .slice a n cap ∧ (n : Int) ≤ 1000 ∧ 0 < (n : Int) ∧ re = 0 ∧ ∃ g, a = some ⟨g, 0, none⟩ ∧ w.cell? ⟨g, 1, none⟩ = some (.int .i64 rn)) ∨ (∃ a cap, S j = .slice a 0 cap ∧ E (j + 1))) := fun j hj ej => by
    rw [hE] at ej
    obtain ⟨a, cap, ev⟩ := h.wr.shape hj
    have o := h.wr.own j hj
    rw [ev] at o
    rw [hS, hE, ev]
    cases q : rl (rm now) L j with
    | nil => exact Or.inr ⟨a, cap, rfl, by rw [fst_succ, ej, q]; rfl⟩
    | cons x T =>
      obtain ⟨n1, n2⟩ := nx_is h.srt h.tks h.now ej q
      have hll := rl_len (rm now) L j
      obtain ⟨g, y, e, hg, hy, h1, h2⟩ := own_at o (i := 0) (by rw [q]; simp)
      rw [q] at hy hll
      simp at hy
      subst hy
      refine Or.inl ⟨a, _, cap, rfl, by simp at hll ⊢; omega, by simp, by rw [hre]; exact n2, g, e, ?_⟩
      rw [hrn, n1]
      simpa using h2
  have EE : Hid (E 169 → rn = 0 ∧ re = 12) := fun e => by
    rw [hE, fst_all h.srt h.tks h.now] at e
    rw [hrn, hre, e]
    exact ⟨rfl, rfl⟩
  have c2 := CS.out 0 (by decide)
  clear h hl hS hE hrn hre
  go_enter Tryd.func38, Tryd.ntmps38
  go_wp2_with fail
  go_step3
  go_wp2_with fail
  go_step3
  go_wp2_with fail
  go_loopw [4, 13] (fun v i wr => wr = w ∧ ∃ l : Nat, (l : Int) ≤ 21 ∧ i = .int .i64 l ∧ v = S (8 * l) ∧ Hid (E (8 * l))) (fun _ i _ => 21 - (intOf i).toNat)
  case atStart => exact ⟨rfl, 0, by omega, rfl, rfl, E0⟩
  case round =>
    obtain ⟨rfl, l, hl, rfl, rfl, e0⟩ := hrel
    clear c2
    by_cases h : (l : Int) < 21
    · go_wp2_with fail
      obtain ⟨wo, rfl⟩ : ∃ wo, wo = wr := ⟨_, rfl⟩
      go_loopw [4, 16] (fun v i wr => wr = wo ∧ ∃ k : Nat, (k : Int) ≤ 8 ∧ i = .int .i64 k ∧ v = S (8 * l + k) ∧ Hid (E (8 * l + k))) (fun _ i _ => 8 - (intOf i).toNat)
      case atStart => exact ⟨rfl, 0, by omega, rfl, rfl, e0⟩
      case round =>
        obtain ⟨rfl, k, hk, rfl, rfl, e1⟩ := hrel
        clear e0
        by_cases h5 : (k : Int) < 8
        · rcases CE.out (8 * l + k) (by omega) e1.out with ⟨a, n, cap, eS, n1, n2, rfl, g, rfl, cg⟩ | ⟨a, cap, eS, e2⟩
          · rw [eS]
            have n3 : ((n : Int) == 0) = false := by rw [beq_eq_false_iff_ne]; omega
            clear e1 eS
            go_wp2
            try rw [Exit.noGoto_ret]
            go_ret2
            exact ⟨rfl, rfl⟩
          · rw [eS]
            have c5 := CS.out (8 * l + k + 1) (by omega)
            rw [show 2 + (8 * l + k + 1) = 3 + l * 8 + k by omega] at c5
            have E2 : Hid (E (8 * l + k + 1)) := e2
            clear e1 eS e2
            go_wp2
            go_roundw
            case rel => exact ⟨trivial, k + 1, by omega, by go_num, rfl, E2⟩
            case measure => simp [intOf]; omega
        · obtain rfl : k = 8 := by omega
          have E2 : Hid (E (8 * (l + 1))) := e1.out
          go_wp2
          go_roundw
          case rel => exact ⟨trivial, l + 1, by omega, by go_num, rfl, E2⟩
          case measure => simp [intOf]; omega
    · obtain rfl : l = 21 := by omega
      rcases CE.out 168 (by decide) e0.out with ⟨a, n, cap, eS, n1, n2, rfl, g, rfl, cg⟩ | ⟨a, cap, eS, e2⟩
      · rw [show S (8 * 21) = _ from eS]
        have n3 : ((n : Int) == 0) = false := by rw [beq_eq_false_iff_ne]; omega
        clear e0 eS
        go_wp2
        try rw [Exit.noGoto_ret]
        go_ret2
        exact ⟨rfl, rfl⟩
      · rw [show S (8 * 21) = _ from eS]
        obtain ⟨rfl, rfl⟩ := EE.out e2
        clear e0 eS e2
        go_wp2
        try rw [Exit.noGoto_ret]
        go_ret2
        exact ⟨rfl, rfl⟩
end Go.Proofs.YtadaghhgmflfdaaDoor
