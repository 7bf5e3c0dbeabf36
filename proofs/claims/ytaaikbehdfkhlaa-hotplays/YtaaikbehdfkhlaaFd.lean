/- What the document's queue answers and leaves (davitref03), for every queue. -/
import Derived.Test.YtaaikbehdfkhlaaRows
import Derived.Test.YtaaikbehdfkhlaaFm
import Derived.Test.YtaaikbehdfkhlaaFj
import Derived.Test.YtaaikbehdfkhlaaFg
import Derived.WalkKit
import Derived.ProofKit
import Derived.OpenShut
import Derived.BigQuiet
namespace Go.Proofs.Ytaaikbehdfkhlaa
open Go.ChangeShapes Go.WideShapes Go.ChangeAt Go.RowKit
open Fm

set_option maxHeartbeats 400000 in
theorem rhas_any (xs : List Int) (v : Value) (n : Int) (w : World) (hl : (xs.length : Int) ≤ 100000) (hr : Row w v xs) :
    Calls Try.prog 39 #[v, .int .i64 n] w fun e w' => e = .returned (.bool (decide (n ∈ xs))) ∧ w' = w := by
  rcases hr with ⟨rfl, a, cap, rfl⟩ | ⟨b, off, cap, rfl, _, hc⟩
  · rw [show decide (n ∈ ([] : List Int)) = false by simp]
    clear hl
    go_enter Try.func39, Try.ntmps39
    go_wp2
    go_loop [5] (fun i => i = .int .i64 0) (fun _ => 0)
    case atStart => rfl
    case round =>
      obtain rfl := hrel
      go_wp2
      go_ret
      exact ⟨rfl, rfl⟩
  · have HC : Hid (∀ i, i < xs.length → w.cell? ⟨b, off + i, none⟩ = some (.int .i64 (xs.getD i 0))) := hc
    obtain ⟨l, hn⟩ : ∃ l, xs.length = l := ⟨_, rfl⟩
    have HN : Hid (xs.length = l) := hn
    obtain ⟨R, hR⟩ : ∃ R, decide (n ∈ xs) = R := ⟨_, rfl⟩
    have HR : Hid (decide (n ∈ xs) = R) := hR
    rw [hn] at hl ⊢
    rw [hR]
    clear hc hn hR
    go_enter Try.func39, Try.ntmps39
    go_wp2
    go_loop [5] (fun i => ∃ k : Nat, (k : Int) ≤ l ∧ Hid (∀ j, j < k → xs.getD j 0 ≠ n) ∧ i = .int .i64 k) (fun i => l - (intOf i).toNat)
    case atStart => exact ⟨0, by omega, fun j hj => by omega, rfl⟩
    case round =>
      obtain ⟨k, hk, hM, rfl⟩ := hrel
      by_cases h : (k : Int) < l
      · have hc := HC.out k (by have := HN.out; omega)
        by_cases e : xs.getD k 0 = n
        · have s : R = true := by
            rw [← HR.out]
            exact decide_eq_true ((mem_getD xs n).2 ⟨k, by have := HN.out; omega, e⟩)
          subst s
          rw [e] at hc
          clear e
          go_wp2
          go_ret
          exact ⟨rfl, rfl⟩
        · have s : Hid (∀ j, j < k + 1 → xs.getD j 0 ≠ n) := fun j hj => by
            by_cases d : j = k
            · subst d; exact e
            · exact hM.out j (by omega)
          generalize xs.getD k 0 = c at *
          have e2 : (c == n) = false := by simpa using e
          clear e
          go_wp2
          go_round
          case rel => exact ⟨k + 1, by omega, s, by go_num⟩
          case measure => simp [intOf]; omega
      · have s : R = false := by
          rw [← HR.out]
          refine decide_eq_false fun hm => ?_
          obtain ⟨j, hj, e⟩ := (mem_getD xs n).1 hm
          exact hM.out j (by have := HN.out; omega) e
        subst s
        go_wp2
        go_ret
        exact ⟨rfl, rfl⟩

theorem wo_snoc (xs : List Int) (x n : Int) : wo (xs ++ [x]) n = if x = n then wo xs n else wo xs n ++ [x] := by
  unfold wo
  rw [List.filter_append]
  by_cases h : x = n <;> simp [h]

set_option maxHeartbeats 1000000 in
theorem without_any (xs : List Int) (v : Value) (n : Int) (w : World) (hl : (xs.length : Int) ≤ 100000) (hr : Row w v xs) :
    Calls Try.prog 44 #[v, .int .i64 n] w fun e w' => ∃ v', e = .returned v' ∧ Gt w w' v' (wo xs n) := by
  obtain ⟨i0, hi, hz0, hz1, hz2⟩ := info_parts Try.info3
  rcases hr with ⟨rfl, a, cap, rfl⟩ | ⟨b, off, cap, rfl, hb, hc⟩
  · rw [show wo [] n = [] from rfl]
    clear hl hi hz0 hz1 hz2
    go_enter Try.func44, Try.ntmps44
    go_wp2
    go_loop [6, 5] (fun i v => i = .int .i64 0 ∧ v = .slice none 0 0) (fun _ _ => 0)
    case atStart => exact ⟨rfl, rfl⟩
    case round =>
      obtain ⟨rfl, rfl⟩ := hrel
      go_wp2
      go_ret
      exact ⟨_, rfl, gt_start w⟩
  · have HC : Hid (∀ wr, Below w.heap.size w wr → ∀ i, i < xs.length → wr.cell? ⟨b, off + i, none⟩ = some (.int .i64 (xs.getD i 0))) := fun wr hB i hi => (hB.cell (p := ⟨b, off + i, none⟩) hb).trans (hc i hi)
    obtain ⟨l, hn⟩ : ∃ l, xs.length = l := ⟨_, rfl⟩
    have HN : Hid (xs.length = l) := hn
    obtain ⟨W, hW⟩ : ∃ W, wo xs n = W := ⟨_, rfl⟩
    have HW : Hid (wo xs n = W) := hW
    rw [hn] at hl ⊢
    rw [hW]
    clear hc hn hW hb
    go_enter Try.func44, Try.ntmps44
    go_wp2
    go_loopw [5, 6] (fun v i wr => ∃ (k : Nat) (G : List Int), (k : Int) ≤ l ∧ i = .int .i64 k ∧ Gt w wr v G ∧ Hid (wo (xs.take k) n = G) ∧ (G.length : Int) ≤ k) (fun _ i _ => l - (intOf i).toNat)
    case atStart => exact ⟨0, [], by omega, rfl, gt_start w, rfl, by simp⟩
    case round =>
      obtain ⟨k, G, hk, rfl, g, hG, hgl⟩ := hrel
      by_cases h : (k : Int) < l
      · have hc := HC.out _ g.bel k (by have := HN.out; omega)
        have hs : wo (xs.take (k + 1)) n = if xs.getD k 0 = n then wo (xs.take k) n else wo (xs.take k) n ++ [xs.getD k 0] := by rw [take_snoc xs k (by have := HN.out; omega), wo_snoc]
        rw [hG.out] at hs
        generalize xs.getD k 0 = x at *
        by_cases e : x = n
        · subst e
          have HS : Hid (wo (xs.take (k + 1)) x = G) := by rw [hs, if_pos rfl]; exact rfl
          clear hs
          go_wp2
          go_roundw
          case rel => exact ⟨k + 1, G, by omega, by go_num, g, HS, by omega⟩
          case measure => simp [intOf]; omega
        · have HS : Hid (wo (xs.take (k + 1)) n = G ++ [x]) := by rw [hs, if_neg e]; exact rfl
          have e2 : (x != n) = true := by simpa using e
          have hsz := g.bel.size
          clear hs e
          go_wp2_with (at_builtin; refine wpList_append_own _ rfl _ _ 45 rfl w.heap.size 3 i0 (.int .i64 0) 1 8 Try.underlying45 hi hz0 hz1 hz2 rfl (by decide) _ _ _ rfl (g.own.alloc _) ⟨_, 0, none⟩ 1 1 [.int .i64 x] rfl rfl ?c1 ?c2 ?c3 ?c4 ?c5 ?_)
          case c1 =>
            intro j u hj
            match j, hj with
            | 0, hj => simp at hj; subst hj; simp [Addr.add]
          case c2 => intro u hu; simp at hu; subst hu; rfl
          case c3 => unfold maxLen; omega
          case c4 => omega
          case c5 => simp; omega
          intro v' w1 hown' hgrow _
          have G2 := gt_app g hown' hgrow
          clear hown' hgrow
          go_wp2
          go_roundw
          case rel => exact ⟨k + 1, G ++ [x], by omega, by go_num, G2, HS, by simp; omega⟩
          case measure => simp [intOf]; omega
      · have e : G = W := by
          rw [← hG.out, ← HW.out, List.take_of_length_le (by have := HN.out; omega)]
        subst e
        go_wp2
        go_ret
        exact ⟨_, rfl, g⟩
end Go.Proofs.Ytaaikbehdfkhlaa
