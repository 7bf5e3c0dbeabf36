/- What the document's wheel's Go, Next, List and Due answer and leave. -/
import Derived.Test.YtadaghhgmflfdaaDoorRows
import Derived.Test.YtadaghhgmflfdaaDoorYa
import Derived.Test.YtadaghhgmflfdaaDoorFj
import Derived.WalkKit
import Derived.ProofKit
import Derived.OpenShut
import Derived.BigQuiet
namespace Go.Proofs.YtadaghhgmflfdaaDoor
open Go.ChangeShapes Go.WideShapes Go.ChangeAt Go.RowKit
open Wm

theorem rnow_cell {w : World} {s : Nat} {now : Int} {L : List It} {F : List Nat} (h : DD w s now L F) : w.cell? ⟨s, 0, none⟩ = some (.int .i64 now) := by
  obtain ⟨v, h, rfl⟩ := h
  exact h.st.cell 0
theorem rlist_cell {w : World} {s : Nat} {now : Int} {L : List It} {F : List Nat} (h : DD w s now L F) : ∃ a cap, w.cell? ⟨s, 1, none⟩ = some (.slice a L.length cap) := by
  obtain ⟨v, h, rfl⟩ := h
  obtain ⟨a, cap, e⟩ := h.own.shape
  exact ⟨a, cap, by rw [← e]; exact h.st.cell 1⟩

set_option maxRecDepth 100000 in
theorem rgo_any {w : World} {s : Nat} {now : Int} {L : List It} {F : List Nat} (n : Int) (h : DD w s now L F) :
    Calls Tryd.prog 58 #[.pointer (some ⟨s, 0, none⟩), .int .i64 n] w fun e w' => e = .returned (.int .i64 (goE now n)) ∧ DD w' s (goN now n) L F ∧ Mv w w' F F := by
  have c0 := rnow_cell h
  unfold goE goN
  by_cases c : n < now ∨ 1152921504606846976 < n
  · rw [if_pos c, if_pos c]
    have H : Hid (DD w s now L F) := h
    clear h
    by_cases c1 : n < now
    · clear c
      go_enter Tryd.func58, Tryd.ntmps58
      go_wp2
      go_ret
      exact ⟨rfl, H.out, Mv.refl _ _⟩
    · have c2 : 1152921504606846976 < n := by omega
      clear c
      go_enter Tryd.func58, Tryd.ntmps58
      go_wp2
      go_ret
      exact ⟨rfl, H.out, Mv.refl _ _⟩
  · rw [if_neg c, if_neg c]
    have c1 : ¬ n < now := by omega
    have c2 : n ≤ 1152921504606846976 := by omega
    obtain ⟨v, h, rfl⟩ := h
    have z0 := h.st.free 0
    have FF : Hid (DD (w.setCell ⟨s, 0, none⟩ (.int .i64 n)) s n L (s :: ob v) ∧ Mv w (w.setCell ⟨s, 0, none⟩ (.int .i64 n)) (s :: ob v) (s :: ob v)) := by
      have Fr1 : Fr w.heap.size [s] w (w.setCell ⟨s, 0, none⟩ (.int .i64 n)) := (Fr.refl _ _ _).setCell (Or.inr (by simp)) _
      refine ⟨⟨v, ⟨h.st.set 0 _, h.own.keep Fr1 fun g hg => ⟨h.own.lt hg, ?_⟩, h.srt, h.uni⟩, rfl⟩, Fr1.mono (Nat.le_refl _) fun k _ hk hm => hk (by simp at hm; simp [hm]), fun g hg => Or.inl hg⟩
      simp
      exact fun e => h.nb (by rw [← e]; exact mem_ob.2 hg)
    clear h c
    go_enter Tryd.func58, Tryd.ntmps58
    go_wp2
    go_ret
    exact ⟨rfl, FF.out⟩

theorem rnext_any {w : World} {s : Nat} {now : Int} {L : List It} {F : List Nat} (h : DD w s now L F) :
    Calls Tryd.prog 40 #[.pointer (some ⟨s, 0, none⟩)] w fun e w' => e = .returned (.tuple #[.int .i64 (nxN L), .int .i64 (nxE L)]) ∧ w' = w := by
  obtain ⟨v, h, rfl⟩ := h
  obtain ⟨a, cap, rfl⟩ := h.own.shape
  have c1 : w.cell? ⟨s, 1, none⟩ = some (.slice a L.length cap) := h.st.cell 1
  cases L with
  | nil =>
    clear h
    go_enter Tryd.func40, Tryd.ntmps40
    go_wp2
    go_ret2
    exact ⟨rfl, rfl⟩
  | cons x T =>
    obtain ⟨g, y, rfl, hy, h1, h2⟩ := h.at (i := 0) (by simp)
    simp at hy
    subst hy
    simp only [Nat.zero_mul, Nat.zero_add] at h2
    show Calls _ _ _ _ fun e w' => e = .returned (.tuple #[.int .i64 x.1, .int .i64 0]) ∧ w' = w
    rw [List.length_cons] at c1
    generalize T.length = n at *
    have n1 : ((n : Int) + 1 == 0) = false := by rw [beq_eq_false_iff_ne]; omega
    have n2 : (0 : Int) < (n : Int) + 1 := by omega
    generalize x.1 = x1 at *
    clear h h1
    go_enter Tryd.func40, Tryd.ntmps40
    go_wp2
    go_ret2
    exact ⟨rfl, rfl⟩

set_option maxRecDepth 100000 in
set_option maxHeartbeats 2000000 in
theorem rlist_any {w : World} {s : Nat} {now : Int} {L : List It} {F : List Nat} (h : DD w s now L F) (hl : L.length ≤ 1000) :
    Calls Tryd.prog 44 #[.pointer (some ⟨s, 0, none⟩)] w fun e w' => ∃ v, e = .returned v ∧ Gt w w' v (ids L) := by
  obtain ⟨i0, hi, hz0, hz1, hz2⟩ := info_parts Tryd.info3
  obtain ⟨v, h, rfl⟩ := h
  obtain ⟨a, cap, rfl⟩ := h.own.shape
  obtain ⟨H, hH⟩ : ∃ H : Nat → List Int, ∀ i, H i = ids (L.take i) := ⟨_, fun _ => rfl⟩
  have ST : Hid (∀ (wr : World) (i : Nat), Below w.heap.size w wr → i < L.length → ∃ (g : Nat) (x : Int), a = some ⟨g, 0, none⟩ ∧ wr.cell? ⟨g, i * 2, none⟩ = some (.int .i64 x) ∧ Hid (H (i + 1) = H i ++ [x])) := fun wr i hb hi => by
    obtain ⟨g, y, e, hy, h1, h2⟩ := (h.below hb).at hi
    refine ⟨g, y.2, e, h1, ?_⟩
    show H (i + 1) = H i ++ [y.2]
    rw [hH, hH, ids_take L hy]
  have CC : Hid (∀ wr : World, Below w.heap.size w wr → wr.cell? ⟨s, 1, none⟩ = some (.slice a L.length cap)) := fun wr hb => (h.below hb).st.cell 1
  have HL : Hid (∀ i, (H i).length ≤ 1000) := fun i => by rw [hH]; unfold ids; simp; omega
  have H0 : Gt w w (.slice none 0 0) (H 0) := by rw [hH]; exact gt_start w
  have HE : Hid (H L.length = ids L) := by
    rw [hH, List.take_length]
    exact rfl
  obtain ⟨E, hE⟩ : ∃ E, E = ids L := ⟨_, rfl⟩
  rw [← hE] at HE ⊢
  generalize L.length = n at *
  have nl : (n : Int) ≤ 1000 := by omega
  clear h hH hE hl
  go_enter Tryd.func44, Tryd.ntmps44
  go_wp2
  go_loopw [3, 4] (fun v i wr => ∃ k : Nat, (k : Int) ≤ n ∧ i = .int .i64 k ∧ Gt w wr v (H k)) (fun _ i _ => n - (intOf i).toNat)
  case atStart => exact ⟨0, by omega, rfl, H0⟩
  case round =>
    clear H0
    obtain ⟨k, hk, rfl, gt⟩ := hrel
    have c1 := CC.out wr gt.bel
    by_cases e : (k : Int) < n
    · obtain ⟨g, x, rfl, k1, HS⟩ := ST.out wr k gt.bel (by omega)
      have s : Hid (H k ++ [x] = H (k + 1)) := HS.out.symm
      have hgl : (((H k).length : Nat) : Int) ≤ 1000 := by have := HL.out k; omega
      have hsz := gt.bel.size
      clear HS
      go_wp2_with (at_builtin; refine wpList_append_own _ rfl _ _ 40 rfl w.heap.size 3 i0 (.int .i64 0) 1 8 Tryd.underlying40 hi hz0 hz1 hz2 rfl (by decide) _ _ _ rfl (gt.own.alloc _) ⟨_, 0, none⟩ 1 1 [.int .i64 x] rfl rfl ?c1 ?c2 ?c3 ?c4 ?c5 ?_)
      case c1 =>
        intro j u hj
        match j, hj with
        | 0, hj => simp at hj; subst hj; simp [Addr.add]
      case c2 => intro u hu; simp at hu; subst hu; rfl
      case c3 => unfold maxLen; omega
      case c4 => omega
      case c5 => simp; omega
      intro v' w2 hown' hgrow _
      have G3 := gt_app gt hown' hgrow
      rw [s.out] at G3
      clear hown' hgrow gt
      go_wp2
      go_roundw
      case rel => exact ⟨k + 1, by omega, by go_num, G3⟩
      case measure => simp [intOf]; omega
    · obtain rfl : k = n := by omega
      rw [HE.out] at gt
      go_wp2
      go_ret
      exact ⟨_, rfl, gt⟩

theorem du_take (now : Int) (L : List It) {i : Nat} {x : It} (h : L[i]? = some x) : ids (duL now (L.take (i + 1))) = if x.1 ≤ now then ids (duL now (L.take i)) ++ [x.2] else ids (duL now (L.take i)) := by
  obtain ⟨hl, e⟩ := List.getElem?_eq_some_iff.1 h
  unfold ids duL
  rw [List.take_succ_eq_append_getElem hl, e, List.filter_append, List.map_append, List.filter_cons, List.filter_nil]
  by_cases c : x.1 ≤ now
  · rw [if_pos c, if_pos (by simpa using c)]
    rfl
  · rw [if_neg c, if_neg (by simpa using c)]
    simp

set_option maxRecDepth 100000 in
set_option maxHeartbeats 2000000 in
theorem rdue_any {w : World} {s : Nat} {now : Int} {L : List It} {F : List Nat} (h : DD w s now L F) (hl : L.length ≤ 1000) :
    Calls Tryd.prog 46 #[.pointer (some ⟨s, 0, none⟩)] w fun e w' => ∃ v, e = .returned v ∧ Gt w w' v (ids (duL now L)) := by
  obtain ⟨i0, hi, hz0, hz1, hz2⟩ := info_parts Tryd.info3
  obtain ⟨v, h, rfl⟩ := h
  obtain ⟨a, cap, rfl⟩ := h.own.shape
  obtain ⟨H, hH⟩ : ∃ H : Nat → List Int, ∀ i, H i = ids (duL now (L.take i)) := ⟨_, fun _ => rfl⟩
  have ST : Hid (∀ (wr : World) (i : Nat), Below w.heap.size w wr → i < L.length → ∃ (g : Nat) (x y : Int), a = some ⟨g, 0, none⟩ ∧ wr.cell? ⟨g, i * 2, none⟩ = some (.int .i64 x) ∧ wr.cell? ⟨g, i * 2 + 1, none⟩ = some (.int .i64 y) ∧ Hid (H (i + 1) = if y ≤ now then H i ++ [x] else H i)) := fun wr i hb hi => by
    obtain ⟨g, y, e, hy, h1, h2⟩ := (h.below hb).at hi
    refine ⟨g, y.2, y.1, e, h1, h2, ?_⟩
    show H (i + 1) = if y.1 ≤ now then H i ++ [y.2] else H i
    rw [hH, hH, du_take now L hy]
  have CC : Hid (∀ wr : World, Below w.heap.size w wr → wr.cell? ⟨s, 1, none⟩ = some (.slice a L.length cap) ∧ wr.cell? ⟨s, 0, none⟩ = some (.int .i64 now)) := fun wr hb => ⟨(h.below hb).st.cell 1, (h.below hb).st.cell 0⟩
  have HL : Hid (∀ i, (H i).length ≤ 1000) := fun i => by
    rw [hH]
    unfold ids duL
    have := List.length_filter_le (fun x : It => decide (x.1 ≤ now)) (L.take i)
    rw [List.length_take] at this
    rw [List.length_map]
    omega
  have H0 : Gt w w (.slice none 0 0) (H 0) := by rw [hH]; exact gt_start w
  have HE : Hid (H L.length = ids (duL now L)) := by
    rw [hH, List.take_length]
    exact rfl
  obtain ⟨E, hE⟩ : ∃ E, E = ids (duL now L) := ⟨_, rfl⟩
  rw [← hE] at HE ⊢
  generalize L.length = n at *
  have nl : (n : Int) ≤ 1000 := by omega
  clear h hH hE hl
  go_enter Tryd.func46, Tryd.ntmps46
  go_wp2
  go_loopw [3, 4] (fun v i wr => ∃ k : Nat, (k : Int) ≤ n ∧ i = .int .i64 k ∧ Gt w wr v (H k)) (fun _ i _ => n - (intOf i).toNat)
  case atStart => exact ⟨0, by omega, rfl, H0⟩
  case round =>
    clear H0
    obtain ⟨k, hk, rfl, gt⟩ := hrel
    obtain ⟨c1, c0⟩ := CC.out wr gt.bel
    by_cases e : (k : Int) < n
    · obtain ⟨g, x, y, rfl, k1, k2, HS⟩ := ST.out wr k gt.bel (by omega)
      by_cases hy : y ≤ now
      · have s : Hid (H k ++ [x] = H (k + 1)) := by
          have := HS.out
          rw [if_pos hy] at this
          exact this.symm
        have hgl : (((H k).length : Nat) : Int) ≤ 1000 := by have := HL.out k; omega
        have hsz := gt.bel.size
        clear HS
        go_wp2_with fail
        go_quiet (fail)
        have gd : Gt w (wr.drewN nq) u3 (H k) := ⟨gt.own, gt.bel.os, gt.bel.tape, gt.bel.output, gt.bel.size, gt.bel.block⟩
        go_wp2_with (at_builtin; refine wpList_append_own _ rfl _ _ 40 rfl w.heap.size 3 i0 (.int .i64 0) 1 8 Tryd.underlying40 hi hz0 hz1 hz2 rfl (by decide) _ _ _ rfl (gd.own.alloc _) ⟨_, 0, none⟩ 1 1 [.int .i64 x] rfl rfl ?c1 ?c2 ?c3 ?c4 ?c5 ?_)
        case c1 =>
          intro j u hj
          match j, hj with
          | 0, hj => simp at hj; subst hj; exact (Blk.new _ [_] _).cell 0
        case c2 => intro u hu; simp at hu; subst hu; rfl
        case c3 => unfold maxLen; omega
        case c4 => omega
        case c5 => simp; omega
        intro v' w2 hown' hgrow _
        have G3 := gt_app gd hown' hgrow
        rw [s.out] at G3
        clear hown' hgrow gt gd
        go_wp2
        go_roundw
        case rel => exact ⟨k + 1, by omega, by go_num, G3⟩
        case measure => simp [intOf]; omega
      · have s : Hid (H k = H (k + 1)) := by
          have := HS.out
          rw [if_neg hy] at this
          exact this.symm
        clear HS
        go_wp2_with fail
        go_quiet (fail)
        have gd : Gt w (wr.drewN nq) u3 (H (k + 1)) := by
          rw [← s.out]
          exact ⟨gt.own, gt.bel.os, gt.bel.tape, gt.bel.output, gt.bel.size, gt.bel.block⟩
        go_wp2
        go_roundw
        case rel => exact ⟨k + 1, by omega, by go_num, gd⟩
        case measure => simp [intOf]; omega
    · obtain rfl : k = n := by omega
      rw [HE.out] at gt
      go_wp2
      go_ret
      exact ⟨_, rfl, gt⟩
end Go.Proofs.YtadaghhgmflfdaaDoor
