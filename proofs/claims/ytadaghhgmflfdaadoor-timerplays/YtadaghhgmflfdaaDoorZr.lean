/- What the document's New of timers answers, for every number of cores; its Move. -/
import Derived.Test.YtadaghhgmflfdaaDoorRows
import Derived.Test.YtadaghhgmflfdaaDoorZq
import Derived.WalkKit
import Derived.ProofKit
import Derived.OpenShut
import Derived.BigQuiet
import Derived.Deep.RegionHeld3
namespace Go.Proofs.YtadaghhgmflfdaaDoor
open Go.ChangeShapes Go.WideShapes Go.ChangeAt Go.RowKit
open Wm Zm Sl

theorem Tryd.infoDW : (Tryd.prog.info? 49).map (fun i => (i.zero, i.size, i.bytes)) = some (some (.pointer none), 1, 8) := by kernel_rfl
def ptr (A : Nat → Nat) (c : Nat) : Value := .pointer (some ⟨A c, 0, none⟩)

theorem own_keep {w w' : World} {base : Nat} {t : TypeId} {sz n : Nat} {v : Value} {xs : List Value} (h : w.ownsRow base t sz v n xs) (e : ∀ g, v.ownBlock = some g → w'.heap[g]? = w.heap[g]?) : w'.ownsRow base t sz v n xs := by
  refine ⟨h.1, ?_⟩
  rcases h.2 with hn | ⟨g, cap, cur, rfl, h0, hh, rest⟩
  · exact Or.inl hn
  · exact Or.inr ⟨g, cap, cur, rfl, h0, (e g rfl).trans hh, rest⟩
theorem own_blk {w : World} {base : Nat} {t : TypeId} {sz n : Nat} {v : Value} {xs : List Value} (h : w.ownsRow base t sz v n xs) {g : Nat} (e : v.ownBlock = some g) : ∃ cs : List Value, Blk w g cs t := by
  rcases h.2 with ⟨rfl, _⟩ | ⟨g', cap, cur, rfl, _, hg, _⟩
  · cases e
  · simp [Value.ownBlock] at e
    subst e
    exact ⟨cur.toList, by unfold Blk; rw [hg]⟩
theorem DD.blk {w : World} {s : Nat} {now : Int} {L : List It} {F : List Nat} (h : DD w s now L F) : ∃ cs, Blk w s cs 48 := by
  obtain ⟨v, h, rfl⟩ := h
  exact ⟨_, h.st⟩

structure XN (w wr : World) (k : Nat) (v : Value) (A : Nat → Nat) : Prop where
  bel : Below w.heap.size w wr
  st : Blk wr w.heap.size [v] 52
  own : wr.ownsRow (w.heap.size + 1) 49 1 v k ((List.range k).map (ptr A))
  qs : ∀ c, c < k → DD wr (A c) 0 [] [A c]
  lo : ∀ c, c < k → w.heap.size ≤ A c
  inj : ∀ c d, c < k → d < k → A c = A d → c = d

set_option maxRecDepth 100000 in
theorem xn_step {w wr w1 : World} {k : Nat} {v : Value} {A : Nat → Nat} (h : XN w wr k v A) (hk : k < 64) (q : DD w1 wr.heap.size 0 [] [wr.heap.size]) (f : Below wr.heap.size wr w1) (ty : TypeId) :
    ∃ a' cap' w2, (Builtin.append_ #[50, 50] ty #[v, .slice (some ⟨w1.heap.size, 0, none⟩) 1 1]).run Tryd.prog (w1.alloc (.cells #[.pointer (some ⟨wr.heap.size, 0, none⟩)] 49)) = .ok (.slice a' (k + 1) cap') w2 ∧
      (∃ A', XN w (w2.setCell ⟨w.heap.size, 0, none⟩ (.slice a' (k + 1) cap')) (k + 1) (.slice a' (k + 1) cap') A') ∧ w2.cell? ⟨w.heap.size, 0, none⟩ = some v ∧ w2.frozen? ⟨w.heap.size, 0, none⟩ = false := by
  obtain ⟨i0, hi, hz0, hz1, hz2⟩ := info_parts Tryd.infoDW
  have nb : Blk (w1.alloc (.cells #[.pointer (some ⟨wr.heap.size, 0, none⟩)] 49)) w1.heap.size [.pointer (some ⟨wr.heap.size, 0, none⟩)] 49 := Blk.new w1 _ _
  have fa : Below wr.heap.size wr (w1.alloc (.cells #[.pointer (some ⟨wr.heap.size, 0, none⟩)] 49)) := f.alloc f.size _
  have qa' := q.below ((Below.refl _ w1).alloc (Nat.le_refl _) (.cells #[.pointer (some ⟨wr.heap.size, 0, none⟩)] 49))
  generalize w1.alloc (.cells #[.pointer (some ⟨wr.heap.size, 0, none⟩)] 49) = wa at *
  have hsz := h.st.lt
  have oa := own_keep h.own fun g e => fa.block g (h.own.lt g e).2
  have lta := fa.size
  obtain ⟨v', w2, hrun, o2, g2, _⟩ := run_append_own (P := Tryd.prog) wa (w.heap.size + 1) 50 ty 49 i0 _ 1 8 Tryd.underlying50 hi hz0 hz1 hz2 rfl (by decide) v k _ oa ⟨w1.heap.size, 0, none⟩ 1 1 [.pointer (some ⟨wr.heap.size, 0, none⟩)] rfl (fun j u hj => by
    rw [Addr.add_lit, Nat.zero_add, nb.cell]
    exact hj) (fun u hu => by simp at hu; subst hu; rfl) (by unfold maxLen; omega) (by omega) (by omega)
  have F : Fr wa.heap.size v.ownBlock.toList wa w2 := (Fr.refl _ _ _).grown g2 (Nat.le_refl _) (fun j e => Or.inr (by simp [e]))
  have sta := h.st.keep (Fr.of_below fa) h.st.lt (by simp)
  have ng : ∀ g, v.ownBlock = some g → w.heap.size + 1 ≤ g ∧ g < wr.heap.size := fun g e => h.own.lt g e
  have st2 := sta.keep F sta.lt fun e => by have := ng _ (by simpa using e); omega
  obtain ⟨a', cap', rfl⟩ : ∃ a' cap', v' = .slice a' (k + 1) cap' := by
    rcases o2.2 with ⟨_, e⟩ | ⟨g, cap, cur, e, _⟩
    · omega
    · exact ⟨_, cap, e⟩
  refine ⟨a', cap', w2, hrun, ⟨fun c => if c = k then wr.heap.size else A c, ?_⟩, st2.cell 0, st2.free 0⟩
  have fs : Fr w2.heap.size [w.heap.size] w2 (w2.setCell ⟨w.heap.size, 0, none⟩ (.slice a' (k + 1) cap')) := (Fr.refl _ _ _).setCell (Or.inr (by simp)) _
  have Q2 : ∀ b, DD wa b 0 [] [b] → b ≠ w.heap.size → DD (w2.setCell ⟨w.heap.size, 0, none⟩ (.slice a' (k + 1) cap')) b 0 [] [b] := fun b hq hb => by
    have q2 : DD w2 b 0 [] [b] := hq.keep F (Nat.le_refl _) fun g hg e => by
      simp only [List.mem_singleton] at hg
      subst hg
      obtain ⟨cs, hcs⟩ := own_blk oa (g := g) (by simpa using e)
      obtain ⟨ds, hds⟩ := hq.blk
      exact hds.ne hcs (by decide) rfl
    exact q2.keep fs (Nat.le_refl _) (by simpa using hb)
  refine ⟨?_, st2.set 0 _, own_keep ?_ fun g e => Below.heap_setCell _ _ _ _ ?_, fun c hc => ?_, fun c hc => ?_, fun c d hc hd e => ?_⟩
  · exact ((h.bel.trans (fa.mono (by omega))).trans ((F.less (by omega : w.heap.size ≤ wa.heap.size)).below fun j hj => by have := ng j (by simpa using hj); omega)).setCell (p := ⟨w.heap.size, 0, none⟩) (Nat.le_refl _) _
  · have e : (List.range (k + 1)).map (ptr fun c => if c = k then wr.heap.size else A c) = (List.range k).map (ptr A) ++ [.pointer (some ⟨wr.heap.size, 0, none⟩)] := by
      rw [List.range_succ, List.map_append]
      congr 1
      · apply List.map_congr_left
        intro c hc
        have := List.mem_range.1 hc
        unfold ptr
        dsimp only
        rw [if_neg (by omega)]
      · simp [ptr]
    rw [e]
    exact o2
  · have := (o2.lt g e).1
    simp
    omega
  · by_cases e : c = k
    · simp only [if_pos e]
      exact Q2 _ qa' (by omega)
    · simp only [if_neg e]
      have q0 := h.qs c (by omega)
      obtain ⟨ds, hds⟩ := q0.blk
      exact Q2 _ (q0.below fa) (hds.ne h.st (by decide))
  · by_cases e : c = k
    · rw [if_pos e]; omega
    · rw [if_neg e]; exact h.lo c (by omega)
  · by_cases e1 : c = k
    · by_cases e2 : d = k
      · omega
      · rw [if_pos e1, if_neg e2] at e
        have := (h.qs d (by omega)).lt (g := A d) (by simp)
        omega
    · by_cases e2 : d = k
      · rw [if_neg e1, if_pos e2] at e
        have := (h.qs c (by omega)).lt (g := A c) (by simp)
        omega
      · rw [if_neg e1, if_neg e2] at e
        exact h.inj c d (by omega) (by omega) e

theorem xn_end {w wr : World} {n : Nat} {v : Value} {A : Nat → Nat} (h : XN w wr n v A) (h1 : 1 ≤ n) (h2 : n ≤ 64) : ∃ F, RX wr w.heap.size n 0 (fun _ => []) F ∧ (∀ g ∈ F, w.heap.size ≤ g) ∧ Below w.heap.size w wr := by
  rcases h.own.2 with ⟨_, e⟩ | ⟨g, cap, cur, rfl, h0, hh, hnc, _, hcs, ht⟩
  · omega
  · have gb : Blk wr g cur.toList 49 := by unfold Blk; rw [hh]
    refine ⟨footR w.heap.size g n fun c => [A c], ⟨g, cap, A, fun c => [A c], ⟨h.st, ⟨cur.toList, gb, fun c hc => ?_⟩, h.qs, fun c d hc hd hn x hx => ?_, fun c hc x hx => ?_, h1, h2⟩, rfl⟩, fun x hx => ?_, h.bel⟩
    · have e : (cur.toList.take (n * 1))[c]? = cur.toList[c]? := by rw [List.getElem?_take]; rw [if_pos (by omega)]
      rw [← e, ht, List.getElem?_map, List.getElem?_range hc]
      rfl
    · simp at hx ⊢
      rw [hx]
      exact fun e => hn (h.inj c d hc hd e)
    · simp only [List.mem_singleton] at hx
      subst hx
      obtain ⟨ds, hds⟩ := (h.qs c hc).blk
      simp only [List.mem_cons, List.not_mem_nil, or_false, not_or]
      exact ⟨hds.ne h.st (by decide), hds.ne gb (by decide)⟩
    · rcases mem_footR.1 hx with q | ⟨c, hc, q⟩
      · simp only [List.mem_cons, List.not_mem_nil, or_false] at q
        omega
      · simp only [List.mem_singleton] at q
        rw [q]
        exact h.lo c hc

set_option maxRecDepth 100000 in
set_option maxHeartbeats 1000000 in
theorem xnew_any (n : Nat) (w : World) (h1 : (1 : Int) ≤ n) (h2 : (n : Int) ≤ 64) :
    Calls Tryd.prog 7 #[.int .i64 (n : Int)] w fun e w' => e = .returned (.tuple #[.pointer (some ⟨w.heap.size, 0, none⟩), .int .i64 0]) ∧ ∃ F, RX w' w.heap.size n 0 (fun _ => []) F ∧ (∀ g ∈ F, w.heap.size ≤ g) ∧ Below w.heap.size w w' := by
  have C : Hid (∀ w, _) := fun w => rnew_yes 0 w (by decide)
  have P0 : XN w (w.alloc (.cells #[.slice none 0 0] 52)) 0 (.slice none 0 0) (fun _ => 0) :=
    ⟨(Below.refl _ w).alloc (Nat.le_refl _) _, Blk.new w [.slice none 0 0] _, World.ownsRow_nil _ _ _ _, fun c hc => by omega, fun c hc => by omega, fun c d hc => by omega⟩
  go_enter Tryd.func7, Tryd.ntmps7
  go_wp2
  go_loopw [5] (fun i wr => ∃ (k : Nat) (v : Value) (A : Nat → Nat), (k : Int) ≤ n ∧ i = .int .i64 (k : Int) ∧ XN w wr k v A) (fun i _ => n - (intOf i).toNat)
  case atStart => exact ⟨0, _, _, by omega, rfl, P0⟩
  case round =>
    obtain ⟨k, v, A, hk, rfl, P⟩ := hrel
    by_cases c : (k : Int) < n
    · have C1 : Hid (∀ _ : Unit, _) := fun _ => C.out wr
      have ST : Hid (∀ w1 : World, _ → _ → _) := fun w1 q f => xn_step (w1 := w1) P (by omega) q f 50
      have cb : Hid (∀ w1 : World, Below wr.heap.size wr w1 → w1.cell? ⟨w.heap.size, 0, none⟩ = some v) := fun w1 f => (P.st.keep (Fr.of_below f) P.st.lt (by simp)).cell 0
      obtain ⟨va, vc, hv⟩ : ∃ va vc, v = .slice va k vc := by
        rcases P.own.2 with ⟨e, e2⟩ | ⟨g, cap, cur, e, _⟩
        · subst e2; exact ⟨none, 0, e⟩
        · exact ⟨_, cap, e⟩
      subst hv
      clear P P0
      go_wp2_with fail
      refine (C1.out ()).mono ?_
      rintro e w1 ⟨rfl, q, f⟩
      have c1 := cb.out w1 f
      obtain ⟨a', cap', w2, hrun, ⟨A', N2⟩, c2, f2⟩ := ST.out w1 q f
      clear q f
      go_wp2_with (at_builtin; refine wpList_run rfl (.tmp 29) (.tmp 31) _ rfl rfl rfl hrun ?_)
      go_roundw
      case rel => exact ⟨k + 1, _, _, by omega, by go_num, N2⟩
      case measure => simp [intOf]; omega
    · obtain rfl : k = n := by omega
      have e : Hid _ := xn_end P (by omega) (by omega)
      clear P P0
      go_wp2
      go_ret2
      exact ⟨rfl, e.out⟩

theorem xnew_bad (c : Int) (w : World) (h : c < 1 ∨ 64 < c) :
    Calls Tryd.prog 7 #[.int .i64 c] w fun e w' => e = .returned (.tuple #[.pointer none, .int .i64 2]) ∧ w' = w := by
  rcases h with h | h
  · go_enter Tryd.func7, Tryd.ntmps7
    go_wp2
    go_ret2
    exact ⟨rfl, rfl⟩
  · have h2 : (1 : Int) ≤ c := by omega
    go_enter Tryd.func7, Tryd.ntmps7
    go_wp2
    go_ret2
    exact ⟨rfl, rfl⟩
end Go.Proofs.YtadaghhgmflfdaaDoor
