/- What the document's Next and Ints answer, for all masks and numbers, and for two lists that are alike. -/
import Derived.Test.YtojpeanakjefoaaDoorRows
import Derived.Test.YtojpeanakjefoaaDoorMl
import Derived.WalkKit
import Derived.ProofKit
import Derived.OpenShut
import Derived.BigQuiet
namespace Go.Proofs.YtojpeanakjefoaaDoor
open Go.ChangeShapes Go.WideShapes Go.ChangeAt Go.RowKit
open Mm

theorem nx_hit (m : Nat) (c : Int) (k : Nat) (hk : k < (ls m).length) (h : c < ((ls m).getD k 0 : Nat)) (hb : ∀ t, t < k → (((ls m).getD t 0 : Nat) : Int) ≤ c) :
    hd (nx m c) = (ls m).getD k 0 ∧ er (nx m c) = 0 := by
  have gk : (ls m).getD k 0 = (ls m)[k] := by rw [List.getD_eq_getElem?_getD, List.getElem?_eq_getElem hk]; rfl
  rw [gk] at h ⊢
  have f : ((ls m).filter fun k : Nat => decide (c < (k : Int))).head? = some (ls m)[k] := by
    rw [List.head?_filter, List.find?_eq_some_iff_getElem]
    refine ⟨decide_eq_true h, k, hk, rfl, fun j hj => ?_⟩
    have gj : (ls m).getD j 0 = (ls m)[j]'(by omega) := by rw [List.getD_eq_getElem?_getD, List.getElem?_eq_getElem (by omega)]; rfl
    have := hb j hj
    rw [gj] at this
    simp
    omega
  have n : ((ls m).filter fun k : Nat => decide (c < (k : Int))) ≠ [] := by
    intro e
    rw [e] at f
    cases f
  have e : nx m c = (ls m).filter fun k : Nat => decide (c < (k : Int)) := if_neg n
  rw [e]
  refine ⟨?_, if_neg n⟩
  unfold hd
  rw [List.headD_eq_head?_getD, f]
  rfl

theorem nx_none (m : Nat) (c : Int) (hb : ∀ t, t < (ls m).length → (((ls m).getD t 0 : Nat) : Int) ≤ c) : nx m c = ls m := by
  apply if_pos
  rw [List.filter_eq_nil_iff]
  intro x hx
  obtain ⟨j, hj, e⟩ := List.mem_iff_getElem.1 hx
  have := hb j hj
  rw [List.getD_eq_getElem?_getD, List.getElem?_eq_getElem hj, e] at this
  simp only [Option.getD_some] at this
  simp
  omega

set_option maxHeartbeats 1000000 in
theorem refnext_any (m : Nat) (c : Int) (w : World) (hm : m < 18446744073709551616) :
    Calls Tryd.prog 31 #[.int .u64 m, .int .i64 c] w fun e w' => e = .returned (.tuple #[.int .i64 (hd (nx m c) : Nat), .int .i64 (er (nx m c))]) ∧ Below w.heap.size w w' := by
  have CF : Hid (∀ w, _) := fun w => reffirst_any m w hm
  by_cases h0 : ls m = []
  · have CL : Hid (∀ w, _) := fun w => reflist_nil m w hm h0
    have e : nx m c = ls m := nx_none m c (by rw [h0]; intro t ht; simp at ht)
    rw [e]
    generalize hd (ls m) = x at *
    generalize er (ls m) = y at *
    clear hm h0 e
    go_enter Tryd.func31, Tryd.ntmps31
    go_wp2_with fail
    refine (CL.out _).mono ?_
    rintro e w' ⟨a, cap, rfl, hb⟩
    have HB : Hid (Below w.heap.size w w') := hb
    clear hb
    go_wp2
    go_loop [7] (fun i => i = .int .i64 0) (fun _ => 0)
    case atStart => rfl
    case round =>
      obtain rfl := hrel
      go_wp2_with fail
      refine (CF.out _).mono ?_
      rintro e w2 ⟨rfl, hb2⟩
      have HB2 : Hid (Below w.heap.size w w2) := HB.out.trans (hb2.mono HB.out.size)
      clear hb2
      go_wp2
      go_ret2
      exact ⟨rfl, HB2.out⟩
  · have CL : Hid (∀ w, _) := fun w => reflist_some m w hm h0
    have hl2 := ls_le m
    obtain ⟨n, hn⟩ : ∃ n, (ls m).length = n := ⟨_, rfl⟩
    have HN : Hid ((ls m).length = n) := hn
    have hn2 : (n : Int) ≤ 64 := by omega
    obtain ⟨X, hX⟩ : ∃ X, hd (nx m c) = X := ⟨_, rfl⟩
    obtain ⟨Y, hY⟩ : ∃ Y, er (nx m c) = Y := ⟨_, rfl⟩
    have HXY : Hid (hd (nx m c) = X ∧ er (nx m c) = Y) := ⟨hX, hY⟩
    rw [hX, hY]
    clear hm h0 hn hl2 hX hY
    go_enter Tryd.func31, Tryd.ntmps31
    go_wp2_with fail
    refine (CL.out _).mono ?_
    rintro e w' ⟨b, off, cap, rfl, hc, hb⟩
    have HB : Hid (Below w.heap.size w w') := hb
    have HC : Hid (∀ i, i < (ls m).length → w'.cell? ⟨b, off + i, none⟩ = some (.int .i64 ((ls m).getD i 0 : Nat))) := hc
    rw [HN.out]
    clear hb hc
    go_wp2
    go_loop [7] (fun i => ∃ k : Nat, (k : Int) ≤ n ∧ Hid (∀ t, t < k → (((ls m).getD t 0 : Nat) : Int) ≤ c) ∧ i = .int .i64 k) (fun i => n - (intOf i).toNat)
    case atStart => exact ⟨0, by omega, fun t ht => by omega, rfl⟩
    case round =>
      obtain ⟨k, hk, hS, rfl⟩ := hrel
      by_cases h : (k : Int) < n
      · have hkl : k < (ls m).length := by have := HN.out; omega
        have hc := HC.out k hkl
        by_cases hit : c < (((ls m).getD k 0 : Nat) : Int)
        · obtain ⟨e1, e2⟩ := nx_hit m c k hkl hit hS.out
          rw [HXY.out.1] at e1
          rw [HXY.out.2] at e2
          rw [← e1] at hc hit
          subst e2
          clear hkl e1 hS
          go_wp2
          go_ret2
          exact ⟨rfl, HB.out⟩
        · have hS2 : Hid (∀ t, t < k + 1 → (((ls m).getD t 0 : Nat) : Int) ≤ c) := fun t ht => by
            by_cases e : t = k
            · subst e; omega
            · exact hS.out t (by omega)
          generalize (ls m).getD k 0 = x at *
          clear hkl hS
          go_wp2
          go_round
          case rel => exact ⟨k + 1, by omega, hS2, by go_num⟩
          case measure => simp [intOf]; omega
      · have e : nx m c = ls m := nx_none m c (fun t ht => hS.out t (by have := HN.out; omega))
        have CF2 : Hid (∀ w, _) := fun w => CF.out w
        rw [← e, HXY.out.1, HXY.out.2] at CF2
        clear hS e
        go_wp2_with fail
        refine (CF2.out _).mono ?_
        rintro e w2 ⟨rfl, hb2⟩
        have HB2 : Hid (Below w.heap.size w w2) := HB.out.trans (hb2.mono HB.out.size)
        clear hb2
        go_wp2
        go_ret2
        exact ⟨rfl, HB2.out⟩

set_option maxHeartbeats 1000000 in
theorem ints_any (xs : List Int) (u v : Value) (w : World) (hl : (xs.length : Int) ≤ 1000) (hu : Row w u xs) (hv : Row w v xs) :
    Calls Tryd.prog 35 #[u, v] w fun e w' => e = .returned (.bool true) ∧ ∃ n, w' = w.drewN n := by
  by_cases h0 : xs = []
  · subst h0
    obtain ⟨a, cap, rfl⟩ : ∃ a cap, u = .slice a 0 cap := by
      rcases hu with ⟨_, a2, cap2, rfl⟩ | ⟨b2, off2, cap2, rfl, _⟩
      · exact ⟨a2, cap2, rfl⟩
      · exact ⟨_, cap2, rfl⟩
    obtain ⟨a2, cap2, rfl⟩ : ∃ a2 cap2, v = .slice a2 0 cap2 := by
      rcases hv with ⟨_, a2, cap2, rfl⟩ | ⟨b2, off2, cap2, rfl, _⟩
      · exact ⟨a2, cap2, rfl⟩
      · exact ⟨_, cap2, rfl⟩
    clear hl hv hu
    go_enter Tryd.func35, Tryd.ntmps35
    go_wp2
    go_loop [5] (fun i => i = .int .i64 0) (fun _ => 0)
    case atStart => rfl
    case round =>
      obtain rfl := hrel
      go_wp2
      go_ret
      exact ⟨rfl, 0, rfl⟩
  · rcases hu with ⟨g, _⟩ | ⟨b, off, cap, rfl, hc⟩
    · exact absurd g h0
    rcases hv with ⟨g, _⟩ | ⟨b2, off2, cap2, rfl, hc2⟩
    · exact absurd g h0
    have HC : Hid (∀ i, i < xs.length → w.cell? ⟨b, off + i, none⟩ = some (.int .i64 (xs.getD i 0))) := hc
    have HC2 : Hid (∀ i, i < xs.length → w.cell? ⟨b2, off2 + i, none⟩ = some (.int .i64 (xs.getD i 0))) := hc2
    obtain ⟨n, hn⟩ : ∃ n, xs.length = n := ⟨_, rfl⟩
    have HN : Hid (xs.length = n) := hn
    rw [hn] at hl ⊢
    clear hc hc2 hn h0
    go_enter Tryd.func35, Tryd.ntmps35
    go_wp2
    go_loopw [5] (fun i wr => ∃ k q : Nat, (k : Int) ≤ n ∧ wr = w.drewN q ∧ i = .int .i64 k) (fun i _ => n - (intOf i).toNat)
    case atStart => exact ⟨0, 0, by omega, rfl, rfl⟩
    case round =>
      obtain ⟨k, q, hk, rfl, rfl⟩ := hrel
      by_cases h : (k : Int) < n
      · have c1 := HC.out k (by have := HN.out; omega)
        have c2 := HC2.out k (by have := HN.out; omega)
        generalize xs.getD k 0 = x at *
        go_wp2
        go_quiet (fail)
        go_wp2
        go_roundw
        case rel => exact ⟨k + 1, _, by omega, rfl, by go_num⟩
        case measure => simp [intOf]; omega
      · go_wp2
        go_ret
        exact ⟨rfl, _, rfl⟩
end Go.Proofs.YtojpeanakjefoaaDoor
