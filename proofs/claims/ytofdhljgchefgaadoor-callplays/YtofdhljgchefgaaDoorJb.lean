/- What call's New answers, for every number of cores. -/
import Derived.Test.YtofdhljgchefgaaDoorRows
import Derived.Test.YtofdhljgchefgaaDoorJa
import Derived.WalkKit
import Derived.ProofKit
import Derived.OpenShut
import Derived.BigQuiet
namespace Go.Proofs.YtofdhljgchefgaaDoor
open Go.ChangeShapes Go.WideShapes Go.ChangeAt Go.RowKit
open Fm Sl Cm

/-- A box while its queues are made: the first k are there. -/
structure CN (w wr : World) (s n k : Nat) (W : List Nat) : Prop where
  bel : Below s w wr
  st : Blk wr (s + 3) [.pointer (some ⟨s + 1, 0, none⟩), .slice (some ⟨s + 2, 0, none⟩) n n] 75
  tb : Blk wr (s + 2) (qtak (ca s) n k) 60
  sl : T wr (s + 1) s 32 W fun _ => false
  qs : ∀ c, c < k → QB wr (ca s c) []
  sz : wr.heap.size = ca s k

theorem cn_step {w wr w1 : World} {s n k : Nat} {W : List Nat} (h : CN w wr s n k W) (q : QB w1 (ca s k) []) (f : Fr wr.heap.size [] wr w1) (z : w1.heap.size = wr.heap.size + 2) :
    CN w (w1.setCell ⟨s + 2, k, none⟩ (.pointer (some ⟨ca s k + 1, 0, none⟩))) s n (k + 1) W := by
  have hz := h.sz
  have fs : Fr w1.heap.size [s + 2] w1 (w1.setCell ⟨s + 2, k, none⟩ (.pointer (some ⟨ca s k + 1, 0, none⟩))) := (Fr.refl _ _ _).setCell (Or.inr (by simp)) _
  have hc : s + 4 ≤ ca s k := by unfold ca; omega
  refine ⟨(h.bel.trans ((f.below (by simp)).mono (by omega))).setCell (p := ⟨s + 2, k, none⟩) (by show s ≤ s + 2; omega) _, (h.st.keep f h.st.lt (by simp)).other (p := ⟨s + 2, k, none⟩) (by show s + 3 ≠ s + 2; omega) _, ?_, ?_, fun c hc => ?_, ?_⟩
  · rw [← qtak_set]
    exact (h.tb.keep f h.tb.lt (by simp)).set k _
  · have s1 := h.sl.keep f ⟨h.sl.sb.lt, h.sl.sg.lt⟩ (by simp)
    exact s1.keep fs ⟨s1.sb.lt, s1.sg.lt⟩ ⟨by simp, by simp⟩
  · by_cases e : c = k
    · subst e
      exact q.keep fs q.lt (by simp; omega) (by simp; omega)
    · have q1 := (h.qs c (by omega)).keep f (h.qs c (by omega)).lt (by simp) (by simp)
      exact q1.keep fs q1.lt (by simp [ca]; omega) (by simp [ca]; omega)
  · show (w1.heap.modify _ _).size = _
    rw [Array.size_modify, z, hz]
    unfold ca
    omega

theorem cn_end {w wr : World} {s n : Nat} {W : List Nat} (h : CN w wr s n n W) (h1 : 1 ≤ n) (h2 : n ≤ 64) : CX wr s (List.replicate n []) ∧ Below s w wr := by
  refine ⟨⟨W, fun _ => false, ⟨by rw [List.length_replicate]; exact h.st, by rw [List.length_replicate, ← qtak_all]; exact h.tb, h.sl, ?_, by simpa using h1, by simpa using h2⟩, al_nil n, fun i _ _ => by rw [oc_nil]⟩, h.bel⟩
  rw [List.length_replicate]
  intro c hc
  rw [ks_nil]
  exact h.qs c hc

set_option maxRecDepth 100000 in
set_option maxHeartbeats 1000000 in
theorem cnew_any (n : Nat) (w : World) (h1 : (1 : Int) ≤ n) (h2 : (n : Int) ≤ 64) :
    Calls Tryd.prog 24 #[.int .i64 (n : Int)] w fun e w' => e = .returned (.tuple #[.pointer (some ⟨w.heap.size + 3, 0, none⟩), .int .i64 0]) ∧ CX w' w.heap.size (List.replicate n []) ∧ Below w.heap.size w w' := by
  have NS : Hid (∀ _ : Unit, _) := fun _ => snew_any 32 w (by decide) (by decide)
  have C : Hid (∀ w, _) := fun w => qnew_any w
  have hmk := run_make_row' (P := Tryd.prog) 63 60 (.pointer none) 8 Tryd.underlying63 Tryd.infoPQ rfl .i64 .i64 n (by omega) (by omega)
  obtain ⟨s, hs⟩ : ∃ s, w.heap.size = s := ⟨_, rfl⟩
  have HS : Hid (w.heap.size = s) := hs
  rw [hs] at NS ⊢
  rw [made_qtak (ca s) n] at hmk
  obtain ⟨T0, hT⟩ : ∃ T0, qtak (ca s) n 0 = T0 := ⟨_, rfl⟩
  have HT : Hid (qtak (ca s) n 0 = T0) := hT
  rw [hT] at hmk
  clear hT hs
  go_enter Tryd.func24, Tryd.ntmps24
  go_wp2_with fail
  refine (NS.out ()).mono ?_
  rintro e w1 ⟨rfl, ⟨W, sl⟩, f1, z1⟩
  have P0 : Hid (CN w ((w1.alloc (.cells T0.toArray 60)).alloc (.cells #[.pointer (some ⟨s + 1, 0, none⟩), .slice (some ⟨s + 2, 0, none⟩) n n] 75)) s n 0 W) := by
    have b0 : Below s w w1 := f1.below (by simp)
    refine ⟨(b0.alloc (by omega) _).alloc (by simp; omega) _, ?_, ?_, ?_, fun c hc => by omega, by simp [ca, z1]⟩
    · have := Blk.new (w1.alloc (.cells T0.toArray 60)) [.pointer (some ⟨s + 1, 0, none⟩), .slice (some ⟨s + 2, 0, none⟩) n n] 75
      rwa [World.size_alloc, z1] at this
    · rw [HT.out]
      have := (Blk.new w1 T0 60).alloc (.cells #[.pointer (some ⟨s + 1, 0, none⟩), .slice (some ⟨s + 2, 0, none⟩) n n] 75)
      rwa [z1] at this
    · exact ⟨(sl.sb.alloc _).alloc _, (sl.sg.alloc _).alloc _, sl.wd⟩
  clear sl f1 NS
  go_wp2
  simp only [z1] at *
  go_loopw [33] (fun i wr => ∃ (k : Nat), (k : Int) ≤ n ∧ i = .int .i64 (k : Int) ∧ CN w wr s n k W) (fun i _ => n - (intOf i).toNat)
  case atStart => exact ⟨0, by omega, rfl, P0.out⟩
  case round =>
    obtain ⟨k, hk, rfl, P⟩ := hrel
    by_cases c : (k : Int) < n
    · have C1 : Hid (∀ _ : Unit, _) := fun _ => C.out wr
      have ST : Hid (∀ w1 : World, QB w1 wr.heap.size [] → Fr wr.heap.size [] wr w1 → w1.heap.size = wr.heap.size + 2 → CN w (w1.setCell ⟨s + 2, k, none⟩ (.pointer (some ⟨wr.heap.size + 1, 0, none⟩))) s n (k + 1) W) := fun w1 q f z => by
        rw [P.sz] at q ⊢
        exact cn_step P q f z
      have cb : Hid (∀ w1 : World, Fr wr.heap.size [] wr w1 → w1.cell? ⟨s + 2, k, none⟩ = some (.pointer none) ∧ w1.frozen? ⟨s + 2, k, none⟩ = false ∧ w1.cell? ⟨s + 3, 1, none⟩ = some (.slice (some ⟨s + 2, 0, none⟩) n n)) := fun w1 f => by
        have b := P.tb.keep f P.tb.lt (by simp)
        have b2 := P.st.keep f P.st.lt (by simp)
        exact ⟨by rw [b.cell, qtak_get _ _ _ _ (by omega), if_neg (by omega)], b.free k, b2.cell 1⟩
      clear P P0
      go_wp2_with fail
      refine (C1.out ()).mono ?_
      rintro e w1 ⟨rfl, q, f, z⟩
      obtain ⟨c1, f1, s1⟩ := cb.out w1 f
      have N2 : Hid _ := ST.out w1 q f z
      clear q f z
      go_wp2
      go_roundw
      case rel => exact ⟨k + 1, by omega, by go_num, N2.out⟩
      case measure => simp [intOf]; omega
    · obtain rfl : k = n := by omega
      have e : Hid _ := cn_end P (by omega) (by omega)
      clear P P0
      go_wp2
      go_ret2
      exact ⟨rfl, e.out⟩

theorem cnew_bad (c : Int) (w : World) (h : c < 1 ∨ 64 < c) :
    Calls Tryd.prog 24 #[.int .i64 c] w fun e w' => e = .returned (.tuple #[.pointer none, .int .i64 2]) ∧ w' = w := by
  rcases h with h | h
  · go_enter Tryd.func24, Tryd.ntmps24
    go_wp2
    go_ret2
    exact ⟨rfl, rfl⟩
  · have h2 : (1 : Int) ≤ c := by omega
    go_enter Tryd.func24, Tryd.ntmps24
    go_wp2
    go_ret2
    exact ⟨rfl, rfl⟩
end Go.Proofs.YtofdhljgchefgaaDoor
