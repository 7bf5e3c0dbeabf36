/- The document's queue by priorities as it lies in memory; what its New, find, Prio, Push, Drop and Back answer and leave. -/
import Derived.Test.YtpmjojemcpgpiaaDoorRows
import Derived.Test.YtpmjojemcpgpiaaDoorFw
import Derived.Test.YtpmjojemcpgpiaaDoorFg
import Derived.Test.YtpmjojemcpgpiaaDoorXm
import Derived.WalkKit
import Derived.ProofKit
import Derived.OpenShut
import Derived.BigQuiet
import Derived.ArgAppend
namespace Go.Proofs.YtpmjojemcpgpiaaDoor
open Go.ChangeShapes Go.WideShapes Go.ChangeAt Go.RowKit
open Fm Qm

theorem Tryd.infoItem : (Tryd.prog.info? 82).map (fun i => (i.zero, i.size, i.bytes)) = some (some (.agg #[.int .i64 0, .int .i64 0]), 2, 16) := by kernel_rfl

/-- An append onto a slice of one's own: what it holds then, and where it lies: where it lay, or in a new block. -/
theorem run_appx (w : World) (ty : TypeId) {v : Value} {n : Nat} {xs : List Value} (hown : w.ownsRow 0 82 2 v n xs) (ad : Addr) (m c : Nat) (news : List Value) (hl : news.length = m * 2) (hn : ∀ j u, news[j]? = some u → w.cell? (ad.add j) = some u) (h1 : ∀ u ∈ news, u.oneCell' = true) (hs : n + m ≤ 3000) :
    ∃ v' w', (Builtin.append_ #[75, 75] ty #[v, .slice (some ad) m c]).run Tryd.prog w = .ok v' w' ∧ w'.ownsRow 0 82 2 v' (n + m) (xs ++ news) ∧ w.grownBy w' v.ownBlock ∧ ∀ g, v'.ownBlock = some g → v.ownBlock = some g ∨ w.heap.size ≤ g := by
  obtain ⟨i0, hi, hz0, hz1, hz2⟩ := info_parts Tryd.infoItem
  rcases hown.2 with ⟨rfl, rfl⟩ | ⟨g, cap, cur, rfl, _, hg, hnc, hcm, hcs, htake⟩
  · obtain rfl : xs = [] := List.eq_nil_of_length_eq_zero (by have := hown.1; omega)
    obtain ⟨v', w', hrun, r1, r2, _⟩ := run_append_own (P := Tryd.prog) w w.heap.size 75 ty 82 i0 _ 2 16 Tryd.underlying75 hi hz0 hz1 hz2 rfl (by decide) (.slice none 0 0) 0 [] (World.ownsRow_nil w _ _ 2) ad m c news hl hn h1 (by unfold maxLen; omega) (by omega) (Nat.le_refl _)
    refine ⟨v', w', hrun, ⟨r1.1, ?_⟩, r2, fun g hgo => ?_⟩
    · rcases r1.2 with h | ⟨g, cap, cur, hv, _, rest⟩
      · exact Or.inl h
      · exact Or.inr ⟨g, cap, cur, hv, Nat.zero_le _, rest⟩
    · rcases r1.2 with ⟨rfl, _⟩ | ⟨g', cap, cur, rfl, hb, _⟩
      · cases hgo
      · simp [Value.ownBlock] at hgo
        exact Or.inr (by omega)
  · by_cases room : n + m ≤ cap
    · obtain ⟨w', hrun, r1, r2⟩ := run_append_fits (P := Tryd.prog) w 0 75 ty 82 i0 2 Tryd.underlying75 hi hz1 g n cap xs hown ad m c news hl hn h1 room
      exact ⟨_, w', hrun, r1, r2, fun g' h => Or.inl h⟩
    · obtain ⟨v', w', hrun, r1, r2⟩ := run_append_arg_grows (P := Tryd.prog) w 75 ty 82 i0 _ 2 16 Tryd.underlying75 hi hz0 hz1 hz2 rfl (by decide) ⟨g, 0, none⟩ n cap xs hown.1 (fun j u hj => by
          have hj2 := (List.getElem?_eq_some_iff.1 hj).1
          rw [Addr.add_lit, Nat.zero_add, hown.cellAt j (by rw [← hown.1]; exact hj2)]
          exact hj) ad m c news hl hn (by omega) (by unfold maxLen; omega) (by omega)
      refine ⟨v', w', hrun, ⟨r1.1, ?_⟩, ⟨r2.os, r2.tape, r2.output, r2.size, fun k hk _ => r2.block k hk (by simp)⟩, fun g' hgo => ?_⟩
      · rcases r1.2 with h | ⟨g, cap, cur, hv, _, rest⟩
        · exact Or.inl h
        · exact Or.inr ⟨g, cap, cur, hv, Nat.zero_le _, rest⟩
      · rcases r1.2 with ⟨rfl, _⟩ | ⟨g', cap, cur, rfl, hb, _⟩
        · cases hgo
        · simp [Value.ownBlock] at hgo
          exact Or.inr (by omega)

/-- The queue at block b, its list v, for m things, holds X. -/
structure RQ (w : World) (b : Nat) (v : Value) (m : Nat) (X : Its) : Prop where
  sb : Blk w b [.int .i64 (m : Int), v] 77
  own : w.ownsRow 0 82 2 v X.length (fl X)
  ok : Ok m X
  m2 : m ≤ 1024

/-- What a call of the queue at block b leaves: all but it and its list; its list lies where it lay, or in a new block. -/
structure RC (w w' : World) (b : Nat) (v v' : Value) : Prop where
  fr : Fr w.heap.size (b :: v.ownBlock.toList) w w'
  nw : ∀ g, v'.ownBlock = some g → v.ownBlock = some g ∨ w.heap.size ≤ g

theorem RC.refl (w : World) (b : Nat) (v : Value) : RC w w b v v := ⟨Fr.refl _ _ _, fun _ h => Or.inl h⟩
theorem RC.trans {w w1 w2 : World} {b : Nat} {v v1 v2 : Value} (h : RC w w1 b v v1) (k : RC w1 w2 b v1 v2) : RC w w2 b v v2 := by
  have hs := h.fr.size
  refine ⟨h.fr.trans (k.fr.mono hs fun i hi hn e => ?_), fun g hg => ?_⟩
  · rcases List.mem_cons.1 e with e | e
    · exact hn (by simp [e])
    · rcases h.nw i (by simpa using e) with e2 | e2
      · exact hn (by simp [e2])
      · omega
  · rcases k.nw g hg with e | e
    · exact h.nw g e
    · exact Or.inr (by omega)
theorem RC.from {w w1 w2 : World} {b : Nat} {v v' : Value} (h : Below w.heap.size w w1) (k : RC w1 w2 b v v') : RC w w2 b v v' :=
  ⟨((Fr.of_below h).mono (Nat.le_refl _) (fun _ _ _ => by simp)).trans (k.fr.less h.size), fun g hg => (k.nw g hg).imp id (fun e => Nat.le_trans h.size e)⟩

theorem RQ.ob {w : World} {b : Nat} {v : Value} {m : Nat} {X : Its} (h : RQ w b v m X) {g : Nat} (e : v.ownBlock = some g) : b ≠ g ∧ g < w.heap.size := by
  rcases h.own.2 with ⟨rfl, _⟩ | ⟨g', cap, cur, rfl, _, hg, _⟩
  · cases e
  · simp [Value.ownBlock] at e
    subst e
    refine ⟨fun q => ?_, lt_of_block hg⟩
    subst q
    have := (show w.heap[b]? = _ from h.sb).symm.trans hg
    simp at this
theorem RQ.keep {B : Nat} {S : List Nat} {w w' : World} {b : Nat} {v : Value} {m : Nat} {X : Its} (h : RQ w b v m X) (f : Fr B S w w') (hb : b < B ∧ b ∉ S) (hg : ∀ g, v.ownBlock = some g → g < B ∧ g ∉ S) : RQ w' b v m X := by
  refine ⟨h.sb.keep f hb.1 hb.2, ⟨h.own.1, ?_⟩, h.ok, h.m2⟩
  rcases h.own.2 with hn | ⟨g, cap, cur, rfl, h0, hh, rest⟩
  · exact Or.inl hn
  · obtain ⟨g1, g2⟩ := hg g rfl
    exact Or.inr ⟨g, cap, cur, rfl, h0, (f.block g g1 g2).trans hh, rest⟩
theorem RQ.below {w w' : World} {b : Nat} {v : Value} {m : Nat} {X : Its} (h : RQ w b v m X) (f : Below w.heap.size w w') : RQ w' b v m X :=
  h.keep (Fr.of_below f) ⟨h.sb.lt, by simp⟩ fun g e => ⟨(h.ob e).2, by simp⟩
theorem RQ.heap {w w1 : World} {b : Nat} {v : Value} {m : Nat} {X : Its} (h : RQ w b v m X) (e : w1.heap = w.heap) : RQ w1 b v m X :=
  ⟨h.sb.heap e, ⟨h.own.1, by rw [e]; exact h.own.2⟩, h.ok, h.m2⟩
theorem RQ.shape {w : World} {b : Nat} {v : Value} {m : Nat} {X : Its} (h : RQ w b v m X) : ∃ a cap, v = .slice a X.length cap := by
  rcases h.own.2 with ⟨rfl, e⟩ | ⟨g, cap, cur, rfl, _⟩
  · exact ⟨none, 0, by rw [e]⟩
  · exact ⟨_, cap, rfl⟩
theorem RQ.at {w : World} {b : Nat} {a : Option Addr} {n cap m : Nat} {X : Its} (h : RQ w b (.slice a n cap) m X) {k : Nat} (hk : k < X.length) : ∃ g, a = some ⟨g, 0, none⟩ ∧ n = X.length ∧ n ≤ cap ∧ w.cell? ⟨g, k * 2, none⟩ = some (.int .i64 (X.getD k (0, 0)).1) ∧ w.cell? ⟨g, k * 2 + 1, none⟩ = some (.int .i64 (X.getD k (0, 0)).2) := by
  rcases h.own.2 with ⟨e, e2⟩ | ⟨g, cap', cur, e, _, _, hc, _⟩
  · omega
  · simp only [Value.slice.injEq] at e
    obtain ⟨rfl, rfl, rfl⟩ := e
    have f := fl_at X k hk
    exact ⟨g, rfl, rfl, hc, by rw [h.own.cellAt _ (by omega)]; exact f.1, by rw [h.own.cellAt _ (by omega)]; exact f.2⟩

theorem rpnew_any (m : Nat) (w : World) (h1 : (1 : Int) ≤ m) (h2 : (m : Int) ≤ 1024) :
    Calls Tryd.prog 22 #[.int .i64 (m : Int)] w fun e w' => e = .returned (.tuple #[.pointer (some ⟨w.heap.size, 0, none⟩), .int .i64 0]) ∧ RQ w' w.heap.size (.slice none 0 0) m [] ∧ Below w.heap.size w w' ∧ w'.heap.size = w.heap.size + 1 := by
  go_enter Tryd.func22, Tryd.ntmps22
  go_wp2
  go_ret2
  exact ⟨rfl, ⟨Blk.new w [.int .i64 (m : Int), .slice none 0 0] _, World.ownsRow_nil _ _ _ _, ok_nil m, by omega⟩, (Below.refl _ w).alloc (Nat.le_refl _) _, by simp⟩
theorem rpnew_bad (m : Int) (w : World) (h : m < 1 ∨ 1024 < m) :
    Calls Tryd.prog 22 #[.int .i64 m] w fun e w' => e = .returned (.tuple #[.pointer none, .int .i64 2]) ∧ w' = w := by
  rcases h with h | h
  · go_enter Tryd.func22, Tryd.ntmps22
    go_wp2
    go_ret2
    exact ⟨rfl, rfl⟩
  · have h2 : (1 : Int) ≤ m := by omega
    go_enter Tryd.func22, Tryd.ntmps22
    go_wp2
    go_ret2
    exact ⟨rfl, rfl⟩

set_option maxHeartbeats 1000000 in
theorem rfind_any {b m : Nat} {v : Value} {X : Its} (n : Int) (w : World) (h : RQ w b v m X) :
    Calls Tryd.prog 55 #[.pointer (some ⟨b, 0, none⟩), .int .i64 n] w fun e w' => e = .returned (.int .i64 (ix (ids X) n)) ∧ w' = w := by
  obtain ⟨a, cap, rfl⟩ := h.shape
  have c1 : w.cell? ⟨b, 1, none⟩ = some (.slice a X.length cap) := h.sb.cell 1
  have HQ : Hid (RQ w b (.slice a X.length cap) m X) := h
  have hl : (X.length : Int) ≤ 1024 := by have := h.ok.le; have := h.m2; omega
  obtain ⟨R, hR⟩ : ∃ R, ix (ids X) n = R := ⟨_, rfl⟩
  have HR : Hid (ix (ids X) n = R) := hR
  obtain ⟨l, hl2⟩ : ∃ l, X.length = l := ⟨_, rfl⟩
  have HN : Hid (X.length = l) := hl2
  rw [hR]
  rw [hl2] at c1 hl HQ
  clear h hR hl2
  go_enter Tryd.func55, Tryd.ntmps55
  go_wp2
  go_loop [5] (fun i => ∃ k : Nat, (k : Int) ≤ l ∧ Hid (∀ j, j < k → (ids X).getD j 0 ≠ n) ∧ i = .int .i64 k) (fun i => l - (intOf i).toNat)
  case atStart => exact ⟨0, by omega, fun j hj => by omega, rfl⟩
  case round =>
    obtain ⟨k, hk, hM, rfl⟩ := hrel
    by_cases c : (k : Int) < l
    · obtain ⟨g, rfl, _, hcp, _, hc⟩ := HQ.out.at (k := k) (by have := HN.out; omega)
      rw [← ids_at] at hc
      by_cases e : n = (ids X).getD k 0
      · have s : R = k := by
          rw [← HR.out]
          exact ix_hit _ _ _ (by rw [ids_len]; have := HN.out; omega) e.symm hM.out
        subst s
        generalize (ids X).getD k 0 = x at *
        subst e
        go_wp2
        go_ret
        exact ⟨rfl, rfl⟩
      · have s : Hid (∀ j, j < k + 1 → (ids X).getD j 0 ≠ n) := fun j hj => by
          by_cases d : j = k
          · subst d; exact fun q => e q.symm
          · exact hM.out j (by omega)
        generalize (ids X).getD k 0 = x at *
        have e2 : (x == n) = false := by simp; exact fun q => e q.symm
        clear e
        go_wp2
        go_round
        case rel => exact ⟨k + 1, by omega, s, by go_num⟩
        case measure => simp [intOf]; omega
    · have s : R = -1 := by
        rw [← HR.out]
        exact ix_miss _ _ fun j hj => hM.out j (by rw [ids_len] at hj; have := HN.out; omega)
      subst s
      go_wp2
      go_ret
      exact ⟨rfl, rfl⟩

set_option maxHeartbeats 1000000 in
theorem rprio_any {b m : Nat} {v : Value} {X : Its} (n : Int) (w : World) (h : RQ w b v m X) :
    Calls Tryd.prog 33 #[.pointer (some ⟨b, 0, none⟩), .int .i64 n] w fun e w' => e = .returned (.tuple #[.int .i64 (prP X n), .bool (decide (n ∈ ids X))]) ∧ w' = w := by
  have C : Hid (∀ _ : Unit, _) := fun _ => rfind_any n w h
  by_cases c : n ∈ ids X
  · obtain ⟨k, e, _⟩ := ix_pos (ids X) n c
    obtain ⟨hk, _, hp, _⟩ := at_ix h.ok.nd e
    rw [e] at C
    rw [decide_eq_true c, ← hp]
    obtain ⟨a, cap, rfl⟩ := h.shape
    have c1 : w.cell? ⟨b, 1, none⟩ = some (.slice a X.length cap) := h.sb.cell 1
    obtain ⟨g, rfl, _, hcp, hc, _⟩ := h.at hk
    have hkl : (k : Int) < X.length := by omega
    generalize (X.getD k (0, 0)).1 = x at *
    generalize X.length = l at *
    clear h c e hp hk
    go_enter Tryd.func33, Tryd.ntmps33
    go_wp2_with fail
    refine (C.out ()).mono ?_
    rintro e w' ⟨rfl, rfl⟩
    go_wp2
    go_ret2
    exact ⟨rfl, rfl⟩
  · rw [ix_neg _ _ c] at C
    rw [decide_eq_false c, prP_miss c]
    clear h c
    go_enter Tryd.func33, Tryd.ntmps33
    go_wp2_with fail
    refine (C.out ()).mono ?_
    rintro e w' ⟨rfl, rfl⟩
    go_wp2
    go_ret2
    exact ⟨rfl, rfl⟩
end Go.Proofs.YtpmjojemcpgpiaaDoor
