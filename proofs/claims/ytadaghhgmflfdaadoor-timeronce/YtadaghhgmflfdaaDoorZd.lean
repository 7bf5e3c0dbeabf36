/- What timer's New answers, for every number of cores. -/
import Derived.Test.YtadaghhgmflfdaaDoorRows
import Derived.Test.YtadaghhgmflfdaaDoorZc
import Derived.WalkKit
import Derived.ProofKit
import Derived.OpenShut
import Derived.BigQuiet
namespace Go.Proofs.YtadaghhgmflfdaaDoor
open Go.ChangeShapes Go.WideShapes Go.ChangeAt Go.RowKit
open Wm Zm Sl

theorem Tryd.infoPW : (Tryd.prog.info? 71).map (fun i => (i.zero, i.size, i.bytes)) = some (some (.pointer none), 1, 8) := by kernel_rfl

/-- The table while wheels are made: the first k are there. -/
def wtab (S : Nat → Nat) (n k : Nat) : List Value := (List.range n).map fun c => if c < k then .pointer (some ⟨S c, 0, none⟩) else .pointer none
theorem wtab_get (S : Nat → Nat) (n k c : Nat) (h : c < n) : (wtab S n k)[c]? = some (if c < k then .pointer (some ⟨S c, 0, none⟩) else .pointer none) := by
  unfold wtab
  rw [List.getElem?_map, List.getElem?_range h]
  rfl
theorem wtab_set (S : Nat → Nat) (n k s : Nat) (_ : k < n) : (wtab S n k).set k (.pointer (some ⟨s, 0, none⟩)) = wtab (upd S k s) n (k + 1) := by
  apply List.ext_getElem?
  intro c
  by_cases hc : c < n
  · rw [wtab_get _ _ _ _ hc, List.getElem?_set]
    by_cases e : k = c
    · subst e
      rw [if_pos rfl, if_pos (by simpa [wtab] using hc), if_pos (by omega), upd_same]
    · rw [if_neg e, wtab_get _ _ _ _ hc, upd_other _ (fun q => e q.symm)]
      by_cases q : c < k
      · rw [if_pos q, if_pos (by omega)]
      · rw [if_neg q, if_neg (by omega)]
  · rw [List.getElem?_eq_none (by simp [wtab]; omega), List.getElem?_eq_none (by simp [wtab]; omega)]
theorem wtab_all (S : Nat → Nat) (n : Nat) : wtab S n n = (List.range n).map fun c => .pointer (some ⟨S c, 0, none⟩) := by
  unfold wtab
  apply List.map_congr_left
  intro c hc
  rw [if_pos (List.mem_range.1 hc)]
theorem made_wptr (S : Nat → Nat) (n : Nat) : madeCells #[Value.pointer none] n = (wtab S n 0).toArray := by
  apply Array.ext
  · simp [size_madeCells, wtab]
  · intro i h1 h2
    simp [madeCells, wtab, Nat.mod_one]

structure TN (w wr : World) (t sb sg tb mb n k : Nat) (S : Nat → Nat) : Prop where
  bel : Below w.heap.size w wr
  lo : ∀ g ∈ [t, sb, sg, tb, mb], w.heap.size ≤ g
  st : Blk wr t [.pointer (some ⟨sb, 0, none⟩), .slice (some ⟨tb, 0, none⟩) n n, .map (some mb)] 70
  tab : Blk wr tb (wtab S n k) 71
  sl : ∃ W, T wr sb sg 48 W fun _ => false
  mp : MQ 3 wr mb 0 fun _ => none
  ws : ∀ c, c < k → WW wr (S c) 0 [] [S c]
  dis : ∀ c d, c < k → d < k → c ≠ d → S c ≠ S d
  nb : ∀ c, c < k → S c ∉ [t, sb, sg, tb, mb] ∧ w.heap.size ≤ S c

theorem TN.lt {w wr : World} {t sb sg tb mb n k : Nat} {S : Nat → Nat} (h : TN w wr t sb sg tb mb n k S) {g : Nat} (hg : g ∈ [t, sb, sg, tb, mb]) : g < wr.heap.size := by
  obtain ⟨W, s⟩ := h.sl
  simp only [List.mem_cons, List.not_mem_nil, or_false] at hg
  rcases hg with rfl | rfl | rfl | rfl | rfl
  · exact h.st.lt
  · exact s.sb.lt
  · exact s.sg.lt
  · exact h.tab.lt
  · exact h.mp.lt

theorem tn_step {w wr w1 : World} {t sb sg tb mb n k : Nat} {S : Nat → Nat} (h : TN w wr t sb sg tb mb n k S) (hk : k < n) (q : WW w1 wr.heap.size 0 [] [wr.heap.size]) (f : Below wr.heap.size wr w1) :
    TN w (w1.setCell ⟨tb, k, none⟩ (.pointer (some ⟨wr.heap.size, 0, none⟩))) t sb sg tb mb n (k + 1) (upd S k wr.heap.size) := by
  obtain ⟨W, s⟩ := h.sl
  have hw := h.bel.size
  have hz := f.size
  have f1 := Fr.of_below f
  have n1 : t ≠ tb := h.st.ne h.tab (by decide)
  have n2 : sb ≠ tb := s.sb.ne h.tab (by decide)
  have n3 : sg ≠ tb := s.sg.ne h.tab (by decide)
  have n4 : mb ≠ tb := h.mp.blk h.tab
  have fs : Fr w1.heap.size [tb] w1 (w1.setCell ⟨tb, k, none⟩ (.pointer (some ⟨wr.heap.size, 0, none⟩))) := (Fr.refl _ _ _).setCell (Or.inr (by simp)) _
  have ltb := h.lt (g := tb) (by simp)
  have mem1 := h.lo tb (by simp)
  refine ⟨(h.bel.trans (f.mono hw)).setCell (p := ⟨tb, k, none⟩) mem1 _, h.lo, (h.st.keep f1 h.st.lt (by simp)).other (p := ⟨tb, k, none⟩) n1 _, ?_, ⟨W, ?_⟩, ?_, fun c hc => ?_, fun c d hc hd hn => ?_, fun c hc => ?_⟩
  · rw [← wtab_set _ _ _ _ hk]
    exact (h.tab.keep f1 h.tab.lt (by simp)).set k _
  · have s1 := s.keep f1 ⟨s.sb.lt, s.sg.lt⟩ (by simp)
    exact s1.keep fs ⟨s1.sb.lt, s1.sg.lt⟩ ⟨by simp [n2], by simp [n3]⟩
  · have m1 := h.mp.keep f1 h.mp.lt (by simp)
    exact m1.keep fs m1.lt (by simp [n4])
  · by_cases e : c = k
    · subst e
      rw [upd_same]
      exact q.keep fs (Nat.le_refl _) (by simp; omega)
    · rw [upd_other _ e]
      have := (h.nb c (by omega)).1
      simp only [List.mem_cons, List.not_mem_nil, or_false, not_or] at this
      exact ((h.ws c (by omega)).below f).keep fs (Nat.le_refl _) (by simp; exact this.2.2.2.1)
  · have key : ∀ c, c < k → S c ≠ wr.heap.size := fun c hc => by
      have := (h.ws c hc).lt (g := S c) (by simp)
      omega
    by_cases e1 : c = k
    · subst e1
      rw [upd_same, upd_other _ (fun z => hn z.symm)]
      exact fun z => key d (by omega) z.symm
    · rw [upd_other _ e1]
      by_cases e2 : d = k
      · subst e2
        rw [upd_same]
        exact key c (by omega)
      · rw [upd_other _ e2]
        exact h.dis c d (by omega) (by omega) hn
  · by_cases e : c = k
    · subst e
      rw [upd_same]
      exact ⟨fun hm => by have := h.lt hm; omega, hw⟩
    · rw [upd_other _ e]
      exact h.nb c (by omega)

theorem tn_end {w wr : World} {t sb sg tb mb n : Nat} {S : Nat → Nat} (h : TN w wr t sb sg tb mb n n S) (h1 : 1 ≤ n) (h2 : n ≤ 64) :
    ∃ F, TX wr t n 0 (fun _ => []) F ∧ (∀ g ∈ F, w.heap.size ≤ g) ∧ Below w.heap.size w wr := by
  obtain ⟨W, s⟩ := h.sl
  have e1 : oc n (fun _ => []) = fun _ => false := funext fun i => by unfold oc; rw [onc_nil]; rfl
  have e2 : cq n (fun _ => []) = fun _ => none := funext fun i => cq_none.2 (onc_nil n i)
  have e3 : cnt (fun _ => false) = 0 := by decide
  refine ⟨foot t sb sg tb mb n fun c => [S c], ⟨sb, sg, tb, mb, S, fun c => [S c], W, fun _ => false, ⟨h.st, by rw [← wtab_all]; exact h.tab, s, by rw [e1, e2, e3]; exact h.mp, h.ws, fun c d hc hd hn g hg => ?_, fun c hc g hg => ?_, h1, h2⟩, al_nil n, fun i _ _ => by rw [e1], rfl⟩, fun g hg => ?_, h.bel⟩
  · simp at hg ⊢
    rw [hg]
    exact h.dis c d hc hd hn
  · simp only [List.mem_singleton] at hg
    rw [hg]
    exact (h.nb c hc).1
  · rcases mem_foot.1 hg with q | ⟨c, hc, q⟩
    · exact h.lo g q
    · simp only [List.mem_singleton] at q
      rw [q]
      exact (h.nb c hc).2

set_option maxRecDepth 100000 in
set_option maxHeartbeats 1000000 in
theorem tnew_any (n : Nat) (w : World) (h1 : (1 : Int) ≤ n) (h2 : (n : Int) ≤ 64) :
    Calls Tryd.prog 6 #[.int .i64 (n : Int)] w fun e w' => ∃ t, e = .returned (.tuple #[.pointer (some ⟨t, 0, none⟩), .int .i64 0]) ∧ ∃ F, TX w' t n 0 (fun _ => []) F ∧ (∀ g ∈ F, w.heap.size ≤ g) ∧ Below w.heap.size w w' := by
  have NS : Hid (∀ _ : Unit, _) := fun _ => new_any 48 w (by decide) (by decide)
  have C : Hid (∀ w, _) := fun w => wnew_any 0 w (by decide)
  have hmk := run_make_row' (P := Tryd.prog) 67 71 (.pointer none) 8 Tryd.underlying67 Tryd.infoPW rfl .i64 .i64 n (by omega) (by omega)
  rw [made_wptr (fun _ => 0) n] at hmk
  have hmm := @run_makeMap Tryd.prog
  obtain ⟨T0, hT⟩ : ∃ T0, wtab (fun _ => 0) n 0 = T0 := ⟨_, rfl⟩
  have HT : Hid (wtab (fun _ => 0) n 0 = T0) := hT
  rw [hT] at hmk
  clear hT
  go_enter Tryd.func6, Tryd.ntmps6
  go_wp2_with fail
  refine (NS.out ()).mono ?_
  rintro e w1 ⟨rfl, ⟨W, s⟩, f1⟩
  have hs := s.sb.lt
  have hg := s.sg.lt
  have P0 : Hid (TN w (((w1.alloc (.cells T0.toArray 71)).alloc (.map #[] 0)).alloc (.cells #[.pointer (some ⟨w.heap.size + 1, 0, none⟩), .slice (some ⟨w1.heap.size, 0, none⟩) n n, .map (some (w1.heap.size + 1))] 70)) (w1.heap.size + 2) (w.heap.size + 1) w.heap.size w1.heap.size (w1.heap.size + 1) n 0 fun _ => 0) := by
    have b0 : Below w.heap.size w w1 := f1.below (by simp)
    refine ⟨((b0.alloc (by omega) _).alloc (by simp; omega) _).alloc (by simp; omega) _, ?_, ?_, ?_, ⟨W, ?_⟩, ?_, fun c hc => by omega, fun c d hc => by omega, fun c hc => by omega⟩
    · intro g hg
      simp only [List.mem_cons, List.not_mem_nil, or_false] at hg
      omega
    · have := Blk.new ((w1.alloc (.cells T0.toArray 71)).alloc (.map #[] 0)) [.pointer (some ⟨w.heap.size + 1, 0, none⟩), .slice (some ⟨w1.heap.size, 0, none⟩) n n, .map (some (w1.heap.size + 1))] 70
      rwa [World.size_alloc, World.size_alloc] at this
    · rw [HT.out]
      exact ((Blk.new w1 _ _).alloc _).alloc _
    · exact ⟨((s.sb.alloc _).alloc _).alloc _, ((s.sg.alloc _).alloc _).alloc _, s.wd⟩
    · have m0 := mq_new (te := 3) (w1.alloc (.cells T0.toArray 71))
      rw [World.size_alloc] at m0
      exact m0.keep ((Fr.refl _ [] _).alloc (Nat.le_refl _) _) (by simp) (by simp)
  clear s f1 hs hg NS
  go_wp2
  generalize w1.heap.size + 2 = t at *
  generalize w1.heap.size + 1 = mb at *
  generalize w1.heap.size = tb at *
  generalize w.heap.size + 1 = sb at *
  go_loopw [34] (fun i wr => ∃ (k : Nat) (S : Nat → Nat), (k : Int) ≤ n ∧ i = .int .i64 (k : Int) ∧ TN w wr t sb w.heap.size tb mb n k S) (fun i _ => n - (intOf i).toNat)
  case atStart => exact ⟨0, _, by omega, rfl, P0.out⟩
  case round =>
    obtain ⟨k, S, hk, rfl, P⟩ := hrel
    by_cases c : (k : Int) < n
    · have C1 : Hid (∀ _ : Unit, _) := fun _ => C.out wr
      have ST : Hid (∀ w1 : World, _ → _ → _) := fun w1 q f => tn_step (w1 := w1) P (by omega) q f
      have cb : Hid (∀ w1 : World, Below wr.heap.size wr w1 → w1.cell? ⟨tb, k, none⟩ = some (.pointer none) ∧ w1.frozen? ⟨tb, k, none⟩ = false ∧ w1.cell? ⟨t, 1, none⟩ = some (.slice (some ⟨tb, 0, none⟩) n n)) := fun w1 f => by
        have b := P.tab.keep (Fr.of_below f) P.tab.lt (by simp)
        have b2 := P.st.keep (Fr.of_below f) P.st.lt (by simp)
        exact ⟨by rw [b.cell, wtab_get _ _ _ _ (by omega), if_neg (by omega)], b.free k, b2.cell 1⟩
      clear P P0
      go_wp2_with fail
      refine (C1.out ()).mono ?_
      rintro e w1 ⟨rfl, q, f⟩
      obtain ⟨c1, f1, s1⟩ := cb.out w1 f
      have N2 : Hid _ := ST.out w1 q f
      clear q f
      go_wp2
      go_roundw
      case rel => exact ⟨k + 1, _, by omega, by go_num, N2.out⟩
      case measure => simp [intOf]; omega
    · obtain rfl : k = n := by omega
      have e : Hid _ := tn_end P (by omega) (by omega)
      clear P P0
      go_wp2
      go_ret2
      exact ⟨t, rfl, e.out⟩

theorem tnew_bad (c : Int) (w : World) (h : c < 1 ∨ 64 < c) :
    Calls Tryd.prog 6 #[.int .i64 c] w fun e w' => e = .returned (.tuple #[.pointer none, .int .i64 2]) ∧ w' = w := by
  rcases h with h | h
  · go_enter Tryd.func6, Tryd.ntmps6
    go_wp2
    go_ret2
    exact ⟨rfl, rfl⟩
  · have h2 : (1 : Int) ≤ c := by omega
    go_enter Tryd.func6, Tryd.ntmps6
    go_wp2
    go_ret2
    exact ⟨rfl, rfl⟩
end Go.Proofs.YtadaghhgmflfdaaDoor
