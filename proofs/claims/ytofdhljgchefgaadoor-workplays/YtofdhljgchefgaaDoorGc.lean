/- What work's New answers, for every number of cores; that the fixed calls of layer 17's laws come out as they must; the calls of lists that are not there. -/
import Derived.Test.YtofdhljgchefgaaDoorRows
import Derived.Test.YtofdhljgchefgaaDoorGb
import Derived.Test.YtofdhljgchefgaaDoorFi
import Derived.WalkKit
import Derived.ProofKit
import Derived.OpenShut
import Derived.BigQuiet
namespace Go.Proofs.YtofdhljgchefgaaDoor
open Go.ChangeShapes Go.WideShapes Go.ChangeAt Go.RowKit
open Fm Sl Cm

/-- Lists while their queues are made: the first k are there. -/
structure GN (w wr : World) (s n k : Nat) (W : List Nat) : Prop where
  bel : Below s w wr
  st : Blk wr (s + 6) [.pointer (some ⟨s + 1, 0, none⟩), .slice (some ⟨s + 4, 0, none⟩) n n, .pointer (some ⟨s + 3, 0, none⟩), .map (some (s + 5))] 66
  tb : Blk wr (s + 4) (qtak (ga s n) n k) 60
  sl : T wr (s + 1) s 32 W fun _ => false
  mp : MQ 3 wr (s + 5) 0 fun _ => none
  fq : QB wr (s + 2) []
  qs : ∀ c, c < k → QB wr (s + 7 + 2 * c) []
  sz : wr.heap.size = s + 7 + 2 * k

theorem gn_step {w wr w1 : World} {s n k : Nat} {W : List Nat} (h : GN w wr s n k W) (hk : k < n) (q : QB w1 (s + 7 + 2 * k) []) (f : Fr wr.heap.size [] wr w1) (z : w1.heap.size = wr.heap.size + 2) :
    GN w (w1.setCell ⟨s + 4, k, none⟩ (.pointer (some ⟨s + 7 + 2 * k + 1, 0, none⟩))) s n (k + 1) W := by
  have hz := h.sz
  have fs : Fr w1.heap.size [s + 4] w1 (w1.setCell ⟨s + 4, k, none⟩ (.pointer (some ⟨s + 7 + 2 * k + 1, 0, none⟩))) := (Fr.refl _ _ _).setCell (Or.inr (by simp)) _
  refine ⟨(h.bel.trans ((f.below (by simp)).mono (by omega))).setCell (p := ⟨s + 4, k, none⟩) (by show s ≤ s + 4; omega) _, (h.st.keep f h.st.lt (by simp)).other (p := ⟨s + 4, k, none⟩) (by show s + 6 ≠ s + 4; omega) _, ?_, ?_, ?_, ?_, fun c hc => ?_, ?_⟩
  · rw [← qtak_set, ga_core hk]
    exact (h.tb.keep f h.tb.lt (by simp)).set k _
  · have s1 := h.sl.keep f ⟨h.sl.sb.lt, h.sl.sg.lt⟩ (by simp)
    exact s1.keep fs ⟨s1.sb.lt, s1.sg.lt⟩ ⟨by simp, by simp⟩
  · have m1 := h.mp.keep f h.mp.lt (by simp)
    exact m1.keep fs m1.lt (by simp)
  · have q1 := h.fq.keep f h.fq.lt (by simp) (by simp)
    exact q1.keep fs q1.lt (by simp) (by simp)
  · by_cases e : c = k
    · subst e
      exact q.keep fs q.lt (by simp; omega) (by simp; omega)
    · have q1 := (h.qs c (by omega)).keep f (h.qs c (by omega)).lt (by simp) (by simp)
      exact q1.keep fs q1.lt (by simp; omega) (by simp; omega)
  · show (w1.heap.modify _ _).size = _
    rw [Array.size_modify, z, hz]
    omega

theorem gn_end {w wr : World} {s n : Nat} {W : List Nat} (h : GN w wr s n n W) (h1 : 1 ≤ n) (h2 : n ≤ 64) : GX wr s n (List.replicate (n + 1) []) ∧ Below s w wr := by
  have e1 := oc_nil (n + 1)
  have e2 : wq n (List.replicate (n + 1) []) = fun _ => none := funext fun j => by unfold wq; rw [onc_nil]; rfl
  have e3 : cnt (fun _ => false) = 0 := by decide
  refine ⟨⟨W, fun _ => false, ⟨h.st, by rw [← qtak_all]; exact h.tb, h.sl, by rw [e1, e2, e3]; exact h.mp, ?_, by simp, h1, h2⟩, al_nil _, fun i _ _ => by rw [e1]⟩, h.bel⟩
  intro c hc
  rw [ks_nil]
  by_cases e : c = n
  · rw [e, ga_free]
    exact h.fq
  · rw [ga_core (by omega)]
    exact h.qs c (by omega)

set_option maxRecDepth 100000 in
set_option maxHeartbeats 1000000 in
theorem gnew_any (n : Nat) (w : World) (h1 : (1 : Int) ≤ n) (h2 : (n : Int) ≤ 64) :
    Calls Tryd.prog 9 #[.int .i64 (n : Int)] w fun e w' => e = .returned (.tuple #[.pointer (some ⟨w.heap.size + 6, 0, none⟩), .int .i64 0]) ∧ GX w' w.heap.size n (List.replicate (n + 1) []) ∧ Below w.heap.size w w' := by
  have NS : Hid (∀ _ : Unit, _) := fun _ => snew_any 32 w (by decide) (by decide)
  have C : Hid (∀ w, _) := fun w => qnew_any w
  have hmk := run_make_row' (P := Tryd.prog) 63 60 (.pointer none) 8 Tryd.underlying63 Tryd.infoPQ rfl .i64 .i64 n (by omega) (by omega)
  have hmm := @run_makeMap Tryd.prog
  obtain ⟨s, hs⟩ : ∃ s, w.heap.size = s := ⟨_, rfl⟩
  have HS : Hid (w.heap.size = s) := hs
  rw [hs] at NS ⊢
  rw [made_qtak (ga s n) n] at hmk
  obtain ⟨T0, hT⟩ : ∃ T0, qtak (ga s n) n 0 = T0 := ⟨_, rfl⟩
  have HT : Hid (qtak (ga s n) n 0 = T0) := hT
  rw [hT] at hmk
  clear hT hs
  go_enter Tryd.func9, Tryd.ntmps9
  go_wp2_with fail
  refine (NS.out ()).mono ?_
  rintro e w1 ⟨rfl, ⟨W, sl⟩, f1, z1⟩
  have SL : Hid (T w1 (s + 1) s 32 W fun _ => false) := sl
  have F1 : Hid (Fr s [] w w1 ∧ w1.heap.size = s + 2) := ⟨f1, z1⟩
  have C1 : Hid (∀ _ : Unit, _) := fun _ => C.out w1
  rw [z1] at C1
  clear sl f1 z1 NS
  go_wp2_with fail
  refine (C1.out ()).mono ?_
  rintro e w2 ⟨rfl, fq, f2, z2⟩
  have P0 : Hid (GN w (((w2.alloc (.cells T0.toArray 60)).alloc (.map #[] 0)).alloc (.cells #[.pointer (some ⟨s + 1, 0, none⟩), .slice (some ⟨s + 4, 0, none⟩) n n, .pointer (some ⟨s + 3, 0, none⟩), .map (some (s + 5))] 66)) s n 0 W) := by
    obtain ⟨f1, z1⟩ := F1.out
    have b0 : Below s w w2 := (f1.below (by simp)).trans ((f2.less (by omega)).below (by simp))
    have s2 := SL.out.keep f2 ⟨by omega, by omega⟩ ⟨by simp, by simp⟩
    refine ⟨((b0.alloc (by omega) _).alloc (by simp; omega) _).alloc (by simp; omega) _, ?_, ?_, ?_, ?_, ?_, fun c hc => by omega, by simp [z2]⟩
    · have := Blk.new ((w2.alloc (.cells T0.toArray 60)).alloc (.map #[] 0)) [.pointer (some ⟨s + 1, 0, none⟩), .slice (some ⟨s + 4, 0, none⟩) n n, .pointer (some ⟨s + 3, 0, none⟩), .map (some (s + 5))] 66
      rwa [World.size_alloc, World.size_alloc, z2] at this
    · rw [HT.out]
      have := ((Blk.new w2 T0 60).alloc (.map #[] 0)).alloc (.cells #[.pointer (some ⟨s + 1, 0, none⟩), .slice (some ⟨s + 4, 0, none⟩) n n, .pointer (some ⟨s + 3, 0, none⟩), .map (some (s + 5))] 66)
      rwa [z2] at this
    · exact ⟨((s2.sb.alloc _).alloc _).alloc _, ((s2.sg.alloc _).alloc _).alloc _, s2.wd⟩
    · have m0 := mq_new (te := 3) (w2.alloc (.cells T0.toArray 60))
      rw [World.size_alloc, z2] at m0
      exact m0.keep ((Fr.refl _ [] _).alloc (Nat.le_refl _) _) m0.lt (by simp)
    · exact fq.keep ((((Fr.refl w2.heap.size [] w2).alloc (Nat.le_refl _) _).alloc (by simp) _).alloc (by simp; omega) _) fq.lt (by simp) (by simp)
  have z3 : w2.heap.size = s + 4 := by rw [z2]
  clear fq f2 C1 SL F1 z2
  go_wp2
  simp only [z3] at *
  go_loopw [43] (fun i wr => ∃ (k : Nat), (k : Int) ≤ n ∧ i = .int .i64 (k : Int) ∧ GN w wr s n k W) (fun i _ => n - (intOf i).toNat)
  case atStart => exact ⟨0, by omega, rfl, P0.out⟩
  case round =>
    obtain ⟨k, hk, rfl, P⟩ := hrel
    by_cases c : (k : Int) < n
    · have C1 : Hid (∀ _ : Unit, _) := fun _ => C.out wr
      have ST : Hid (∀ w1 : World, QB w1 wr.heap.size [] → Fr wr.heap.size [] wr w1 → w1.heap.size = wr.heap.size + 2 → GN w (w1.setCell ⟨s + 4, k, none⟩ (.pointer (some ⟨wr.heap.size + 1, 0, none⟩))) s n (k + 1) W) := fun w1 q f z => by
        rw [P.sz] at q ⊢
        exact gn_step P (by omega) q f z
      have cb : Hid (∀ w1 : World, Fr wr.heap.size [] wr w1 → w1.cell? ⟨s + 4, k, none⟩ = some (.pointer none) ∧ w1.frozen? ⟨s + 4, k, none⟩ = false ∧ w1.cell? ⟨s + 6, 1, none⟩ = some (.slice (some ⟨s + 4, 0, none⟩) n n)) := fun w1 f => by
        have b := P.tb.keep f P.tb.lt (by simp)
        have b2 := P.st.keep f P.st.lt (by simp)
        exact ⟨by rw [b.cell, qtak_get _ _ _ _ (by omega), if_neg (by omega)], b.free k, b2.cell 1⟩
      clear P P0
      go_wp2_with fail
      refine (C1.out ()).mono ?_
      rintro e w1 ⟨rfl, q, f, z⟩
      obtain ⟨c1, f1, s1⟩ := cb.out w1 f
      have N2 : Hid _ := ST.out w1 q f z
      clear q f z
      go_wp2
      go_roundw
      case rel => exact ⟨k + 1, by omega, by go_num, N2.out⟩
      case measure => simp [intOf]; omega
    · obtain rfl : k = n := by omega
      have e : Hid _ := gn_end P (by omega) (by omega)
      clear P P0
      go_wp2
      go_ret2
      exact ⟨rfl, e.out⟩

theorem gnew_bad (c : Int) (w : World) (h : c < 1 ∨ 64 < c) :
    Calls Tryd.prog 9 #[.int .i64 c] w fun e w' => e = .returned (.tuple #[.pointer none, .int .i64 2]) ∧ w' = w := by
  rcases h with h | h
  · go_enter Tryd.func9, Tryd.ntmps9
    go_wp2
    go_ret2
    exact ⟨rfl, rfl⟩
  · have h2 : (1 : Int) ≤ c := by omega
    go_enter Tryd.func9, Tryd.ntmps9
    go_wp2
    go_ret2
    exact ⟨rfl, rfl⟩

theorem gtab_below {w w' : World} (h : Tab w) (hs : 0 < w.heap.size) (b : Below w.heap.size w w') : Tab w' := h.keep hs (by simp) (Fr.of_below b)
/-- Behind a call of lists that lie above. -/
theorem gz_below {B s n : Nat} {w0 w w' : World} (h : Below B w0 w) (f : Fr w.heap.size (gz s n) w w') (hB : B ≤ w.heap.size) (hs : B ≤ s) : Below B w0 w' ∧ B ≤ w'.heap.size :=
  ⟨fr_own h f hB fun k hk => by have := (mem_gz s n k).1 hk; omega, Nat.le_trans hB f.size⟩

set_option maxRecDepth 100000 in
set_option maxHeartbeats 2000000 in
theorem gknown_yes (w : World) (ht : Tab w) (h0 : 0 < w.heap.size) :
    Calls Tryd.prog 11 #[] w fun e w' => e = .returned (.bool true) ∧ Below w.heap.size w w' := by
  have C : Hid (∀ _ : Unit, _) := fun _ => gnew_any 2 w (by decide) (by decide)
  have HT : Hid (∀ w', Below w.heap.size w w' → Tab w') := fun w' b => gtab_below ht h0 b
  generalize hs : w.heap.size = s at *
  clear ht h0
  go_enter Tryd.func11, Tryd.ntmps11
  go_wp2_with fail
  refine (C.out ()).mono ?_
  rintro e w1 ⟨rfl, q1, b1⟩
  have B1 : Hid (Below s w w1 ∧ s ≤ w1.heap.size) := ⟨b1, by have := b1.size; omega⟩
  have P1 : Hid (∀ _ : Unit, _) := fun _ => queue_any 0 q1 (HT.out w1 b1)
  rw [show quN 2 (List.replicate (2 + 1) []) 0 = 1 by decide, show quE 2 (List.replicate (2 + 1) []) 0 = 0 by decide, show quK 2 (List.replicate (2 + 1) []) 0 = [[1], [], []] by decide] at P1
  clear q1 b1
  go_wp2_with fail
  refine (P1.out ()).mono ?_
  rintro e w2 ⟨rfl, q2, f2⟩
  have B2 : Hid (_ ∧ _) := gz_below B1.out.1 f2 B1.out.2 (Nat.le_refl _)
  have P2 : Hid (∀ _ : Unit, _) := fun _ => queue_any (-1) q2 (HT.out w2 B2.out.1)
  rw [show quN 2 [[1], [], []] (-1) = 2 by decide, show quE 2 [[1], [], []] (-1) = 0 by decide, show quK 2 [[1], [], []] (-1) = [[1], [], [2]] by decide] at P2
  clear q2 f2 B1
  go_wp2_with fail
  refine (P2.out ()).mono ?_
  rintro e w3 ⟨rfl, q3, f3⟩
  have B3 : Hid (_ ∧ _) := gz_below B2.out.1 f3 B2.out.2 (Nat.le_refl _)
  have P3 : Hid (∀ _ : Unit, _) := fun _ => gtake_any 1 q3
  rw [show taN 2 [[1], [], [2]] 1 = 2 by decide, show taE 2 [[1], [], [2]] 1 = 0 by decide, show taK 2 [[1], [], [2]] 1 = [[1], [], []] by decide] at P3
  clear q3 f3 B2
  go_wp2_with fail
  refine (P3.out ()).mono ?_
  rintro e w4 ⟨rfl, q4, f4⟩
  have B4 : Hid (_ ∧ _) := gz_below B3.out.1 f4 B3.out.2 (Nat.le_refl _)
  have P4 : Hid (∀ _ : Unit, _) := fun _ => unbind_any 0 q4
  rw [show unN 2 [[1], [], []] 0 = 1 by decide, show unE 2 [[1], [], []] 0 = 0 by decide, show unK 2 [[1], [], []] 0 = [[], [], [1]] by decide] at P4
  clear q4 f4 B3
  go_wp2_with fail
  refine (P4.out ()).mono ?_
  rintro e w5 ⟨rfl, q5, f5⟩
  have B5 : Hid (_ ∧ _) := gz_below B4.out.1 f5 B4.out.2 (Nat.le_refl _)
  have P5 : Hid (∀ _ : Unit, _) := fun _ => glist_any (-1) q5
  rw [show wlL 2 [[], [], [1]] (-1) = [1] by decide] at P5
  clear q5 f5 B4
  go_wp2_with fail
  refine (P5.out ()).mono ?_
  rintro e w6 ⟨v, rfl, rw6, f6⟩
  have b6 : Hid (Below s w w6) := B5.out.1.trans (f6.mono B5.out.2)
  have z6 : s ≤ w6.heap.size := by have := b6.out.size; omega
  have b7 : Hid (∀ o, Below s w (w6.alloc o)) := fun o => b6.out.alloc z6 o
  have I : Hid (∀ _ : Unit, _) := fun _ => ints_any [1] v _ (w6.alloc (.cells ([1].map (Value.int .i64)).toArray 3)) (by decide) (Row.keep (B := w6.heap.size) (row_of_owns rw6) ((Fr.refl _ _ _).alloc (Nat.le_refl _) _) (Nat.le_refl _)) (row_new w6 [1] 3 1 1 rfl)
  clear rw6 f6
  go_wp2_with fail
  refine (I.out ()).mono ?_
  rintro e w7 ⟨rfl, n, rfl⟩
  go_wp2
  go_ret
  have b8 := b7.out (.cells ([1].map (Value.int .i64)).toArray 3)
  exact ⟨rfl, ⟨b8.os, b8.tape, b8.output, b8.size, b8.block⟩⟩

theorem gnil_queue (c : Int) (w : World) : Calls Tryd.prog 20 #[.pointer none, .int .i64 c] w fun e w' => e = .returned (.tuple #[.int .i64 0, .int .i64 1]) ∧ w' = w := by
  have C0 : Hid (∀ w, _) := fun w => glist_nil (w := w) c
  go_enter Tryd.func20, Tryd.ntmps20
  go_wp2_with fail
  refine (C0.out _).mono ?_
  rintro e w' ⟨rfl, rfl⟩
  go_wp2
  go_ret2
  exact ⟨rfl, rfl⟩
theorem gnil_take (c : Int) (w : World) : Calls Tryd.prog 21 #[.pointer none, .int .i64 c] w fun e w' => e = .returned (.tuple #[.int .i64 0, .int .i64 1]) ∧ w' = w := by
  have C0 : Hid (∀ w, _) := fun w => gon_nil (w := w) c
  go_enter Tryd.func21, Tryd.ntmps21
  go_wp2_with fail
  refine (C0.out _).mono ?_
  rintro e w' ⟨rfl, rfl⟩
  go_wp2
  go_ret2
  exact ⟨rfl, rfl⟩
theorem gnil_unbind (c : Int) (w : World) : Calls Tryd.prog 22 #[.pointer none, .int .i64 c] w fun e w' => e = .returned (.tuple #[.int .i64 0, .int .i64 1]) ∧ w' = w := by
  have C0 : Hid (∀ w, _) := fun w => gon_nil (w := w) c
  go_enter Tryd.func22, Tryd.ntmps22
  go_wp2_with fail
  refine (C0.out _).mono ?_
  rintro e w' ⟨rfl, rfl⟩
  go_wp2
  go_ret2
  exact ⟨rfl, rfl⟩
theorem gnil_drop (c : Int) (w : World) : Calls Tryd.prog 23 #[.pointer none, .int .i64 c] w fun e w' => e = .returned (.int .i64 1) ∧ w' = w := by
  go_enter Tryd.func23, Tryd.ntmps23
  go_wp2
  go_ret
  exact ⟨rfl, rfl⟩
theorem gnil_where (c : Int) (w : World) : Calls Tryd.prog 13 #[.pointer none, .int .i64 c] w fun e w' => e = .returned (.tuple #[.int .i64 0, .bool false]) ∧ w' = w := by
  go_enter Tryd.func13, Tryd.ntmps13
  go_wp2
  go_ret2
  exact ⟨rfl, rfl⟩
theorem gnil_has (c : Int) (w : World) : Calls Tryd.prog 15 #[.pointer none, .int .i64 c] w fun e w' => e = .returned (.bool false) ∧ w' = w := by
  have C0 : Hid (∀ w, _) := fun w => gnil_where c w
  go_enter Tryd.func15, Tryd.ntmps15
  go_wp2_with fail
  refine (C0.out _).mono ?_
  rintro e w' ⟨rfl, rfl⟩
  go_wp2
  go_ret
  exact ⟨rfl, rfl⟩
theorem gnil_list (c : Int) (w : World) : Calls Tryd.prog 17 #[.pointer none, .int .i64 c] w fun e w' => e = .returned (.slice none 0 0) ∧ w' = w := by
  have C0 : Hid (∀ w, _) := fun w => glist_nil (w := w) c
  have C1 : Hid (∀ w, _) := fun w => nil_list w
  go_enter Tryd.func17, Tryd.ntmps17
  go_wp2_with fail
  refine (C0.out _).mono ?_
  rintro e w' ⟨rfl, rfl⟩
  go_wp2_with fail
  refine (C1.out _).mono ?_
  rintro e w' ⟨rfl, rfl⟩
  go_wp2
  go_ret
  exact ⟨rfl, rfl⟩
theorem gnil_load (c : Int) (w : World) : Calls Tryd.prog 19 #[.pointer none, .int .i64 c] w fun e w' => e = .returned (.int .i64 0) ∧ w' = w := by
  have C0 : Hid (∀ w, _) := fun w => glist_nil (w := w) c
  have C1 : Hid (∀ w, _) := fun w => nil_len w
  go_enter Tryd.func19, Tryd.ntmps19
  go_wp2_with fail
  refine (C0.out _).mono ?_
  rintro e w' ⟨rfl, rfl⟩
  go_wp2_with fail
  refine (C1.out _).mono ?_
  rintro e w' ⟨rfl, rfl⟩
  go_wp2
  go_ret
  exact ⟨rfl, rfl⟩
end Go.Proofs.YtofdhljgchefgaaDoor
