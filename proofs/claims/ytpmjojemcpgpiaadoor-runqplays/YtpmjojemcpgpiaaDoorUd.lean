/- What runq's New answers, for every number of cores; the fixed calls of the statements of queues of cores. -/
import Derived.Test.YtpmjojemcpgpiaaDoorUc
import Derived.WalkKit
import Derived.ProofKit
import Derived.OpenShut
import Derived.BigQuiet
namespace Go.Proofs.YtpmjojemcpgpiaaDoor
open Go.ChangeShapes Go.WideShapes Go.ChangeAt Go.RowKit
open Fm Qm

theorem Tryd.infoPQ : (Tryd.prog.info? 50).map (fun i => (i.zero, i.size, i.bytes)) = some (some (.pointer none), 1, 8) := by kernel_rfl

/-- The table while queues are made: the first k are there. -/
def tbl (s n k : Nat) : List Value := (List.range n).map fun c => if c < k then qp s c else .pointer none
theorem tbl_get (s n k c : Nat) (h : c < n) : (tbl s n k)[c]? = some (if c < k then qp s c else .pointer none) := by
  unfold tbl
  rw [List.getElem?_map, List.getElem?_range h]
  rfl
theorem tbl_set (s n k : Nat) (_ : k < n) : (tbl s n k).set k (qp s k) = tbl s n (k + 1) := by
  apply List.ext_getElem?
  intro c
  by_cases hc : c < n
  · rw [tbl_get _ _ _ _ hc, List.getElem?_set]
    by_cases e : k = c
    · subst e
      rw [if_pos rfl, if_pos (by simpa [tbl] using hc), if_pos (by omega)]
    · rw [if_neg e, tbl_get _ _ _ _ hc]
      by_cases q : c < k
      · rw [if_pos q, if_pos (by omega)]
      · rw [if_neg q, if_neg (by omega)]
  · rw [List.getElem?_eq_none (by simp [tbl]; omega), List.getElem?_eq_none (by simp [tbl]; omega)]
theorem tbl_all (s n : Nat) : tbl s n n = (List.range n).map (qp s) := by
  unfold tbl
  apply List.map_congr_left
  intro c hc
  rw [if_pos (List.mem_range.1 hc)]
theorem made_ptr (s n : Nat) : madeCells #[Value.pointer none] n = (tbl s n 0).toArray := by
  apply Array.ext
  · simp [size_madeCells, tbl]
  · intro i h1 h2
    simp [madeCells, tbl, Nat.mod_one]

structure RN (w wr : World) (n k : Nat) : Prop where
  bel : Below w.heap.size w wr
  size : wr.heap.size = w.heap.size + 3 + 17 * k
  st : Blk wr (w.heap.size + 2) [.slice (some ⟨w.heap.size, 0, none⟩) n n, .map (some (w.heap.size + 1))] 49
  tb : Blk wr w.heap.size (tbl w.heap.size n k) 50
  mp : MP wr (w.heap.size + 1) 0 fun _ => none
  qs : ∀ c, c < k → PQ wr (qa w.heap.size c) 32 []

theorem rn_step {w wr w1 : World} {n k : Nat} (h : RN w wr n k) (hk : k < n) (q : PQ w1 wr.heap.size 32 []) (f : Below wr.heap.size wr w1) (hs : w1.heap.size = wr.heap.size + 17) :
    RN w (w1.setCell ⟨w.heap.size, k, none⟩ (qp w.heap.size k)) n (k + 1) := by
  have hz := h.size
  have nb : ∀ b, b ≠ w.heap.size → b ≠ (⟨w.heap.size, k, none⟩ : Addr).block := fun b hb => hb
  have fs : Fr w1.heap.size [w.heap.size] w1 (w1.setCell ⟨w.heap.size, k, none⟩ (qp w.heap.size k)) := (Fr.refl _ _ _).setCell (Or.inr (by simp)) _
  refine ⟨(h.bel.trans (f.mono (by omega))).setCell (p := ⟨w.heap.size, k, none⟩) (Nat.le_refl _) _, by simp [World.setCell]; omega, ?_, ?_, ?_, fun c hc => ?_⟩
  · exact (h.st.keep (Fr.of_below f) h.st.lt (by simp)).other (nb _ (by omega)) _
  · rw [← tbl_set _ _ _ hk]
    exact (h.tb.keep (Fr.of_below f) h.tb.lt (by simp)).set k _
  · have m1 := h.mp.keep (Fr.of_below f) h.mp.lt (by simp)
    exact m1.keep fs m1.lt (by simp)
  · by_cases e : c = k
    · subst e
      rw [show wr.heap.size = qa w.heap.size c by unfold qa; omega] at q
      exact q.keep fs q.hi fun j h1 h2 => by unfold qa at h1; simp; omega
    · have q2 := (h.qs c (by omega)).below f
      exact q2.keep fs q2.hi fun j h1 h2 => by unfold qa at h1; simp; omega

theorem onc_empty (n : Nat) : onc n (fun _ => []) = fun _ => none := by
  funext id
  exact onc_none.2 fun c _ => by simp [ids]
theorem rn_end {w wr : World} {n : Nat} (h : RN w wr n n) (h1 : 1 ≤ n) (h2 : n ≤ 64) : RR wr w.heap.size n 0 fun _ => [] :=
  ⟨⟨h.st, by rw [← tbl_all]; exact h.tb, h.qs, h1, h2⟩, by rw [onc_empty]; exact h.mp, ⟨fun _ _ => ok_nil 32, fun _ _ _ _ id hi => by simp [ids] at hi, fun _ _ id hi => by simp [ids] at hi⟩⟩

set_option maxRecDepth 100000 in
set_option maxHeartbeats 1000000 in
theorem rqnew_any (n : Nat) (w : World) (h1 : (1 : Int) ≤ n) (h2 : (n : Int) ≤ 64) :
    Calls Tryd.prog 4 #[.int .i64 (n : Int)] w fun e w' => e = .returned (.tuple #[.pointer (some ⟨w.heap.size + 2, 0, none⟩), .int .i64 0]) ∧ RR w' w.heap.size n 0 (fun _ => []) ∧ Below w.heap.size w w' := by
  have C : Hid (∀ w, _) := fun w => pnew_any 32 w (by decide) (by decide)
  have hmk := run_make_row' (P := Tryd.prog) 46 50 (.pointer none) 8 Tryd.underlying46 Tryd.infoPQ rfl .i64 .i64 n (by omega) (by omega)
  rw [made_ptr w.heap.size n] at hmk
  have hmm := @run_makeMap Tryd.prog
  obtain ⟨T0, hT⟩ : ∃ T0, tbl w.heap.size n 0 = T0 := ⟨_, rfl⟩
  have HT : Hid (tbl w.heap.size n 0 = T0) := hT
  rw [hT] at hmk
  clear hT
  go_enter Tryd.func4, Tryd.ntmps4
  go_wp2
  have P0 : RN w (((w.alloc (.cells T0.toArray 50)).alloc (.map #[] 0)).alloc (.cells #[.slice (some ⟨w.heap.size, 0, none⟩) n n, .map (some (w.heap.size + 1))] 49)) n 0 := by
    refine ⟨(((Below.refl _ w).alloc (Nat.le_refl _) _).alloc (by simp) _).alloc (by simp; omega) _, by simp, ?_, ?_, ?_, fun c hc => by omega⟩
    · have := Blk.new ((w.alloc (.cells T0.toArray 50)).alloc (.map #[] 0)) [.slice (some ⟨w.heap.size, 0, none⟩) n n, .map (some (w.heap.size + 1))] 49
      rwa [World.size_alloc, World.size_alloc] at this
    · rw [HT.out]
      exact ((Blk.new w _ _).alloc _).alloc _
    · have o := World.ownsMap_made (H := Unit) (w.alloc (.cells T0.toArray 50)) Tryd.prog 3 (plainElem Tryd.prog 3)
      rw [World.size_alloc] at o
      exact ⟨_, o.alloc _, fun id _ => ⟨rfl, rfl⟩⟩
  go_loopw [24] (fun i wr => ∃ k : Nat, (k : Int) ≤ n ∧ i = .int .i64 (k : Int) ∧ RN w wr n k) (fun i _ => n - (intOf i).toNat)
  case atStart => exact ⟨0, by omega, rfl, P0⟩
  case round =>
    obtain ⟨k, hk, rfl, P⟩ := hrel
    by_cases c : (k : Int) < n
    · have C1 : Hid (∀ _ : Unit, _) := fun _ => C.out wr
      have ST : Hid (∀ w1 : World, _ → _ → _ → _) := fun w1 q f hs => rn_step (w1 := w1) P (by omega) q f hs
      have cb : Hid (∀ w1 : World, Below wr.heap.size wr w1 → w1.cell? ⟨w.heap.size, k, none⟩ = some (.pointer none) ∧ w1.frozen? ⟨w.heap.size, k, none⟩ = false ∧ w1.cell? ⟨w.heap.size + 2, 0, none⟩ = some (.slice (some ⟨w.heap.size, 0, none⟩) n n)) := fun w1 f => by
        have b := P.tb.keep (Fr.of_below f) P.tb.lt (by simp)
        have b2 := P.st.keep (Fr.of_below f) P.st.lt (by simp)
        exact ⟨by rw [b.cell, tbl_get _ _ _ _ (by omega), if_neg (by omega)], b.free k, b2.cell 0⟩
      have hz : wr.heap.size = w.heap.size + 3 + 17 * k := P.size
      unfold qp at ST
      clear P P0
      go_wp2_with fail
      refine (C1.out ()).mono ?_
      rintro e w1 ⟨rfl, q, f, hs⟩
      obtain ⟨c1, f1, s1⟩ := cb.out w1 f
      have N2 := ST.out w1 q f hs
      rw [hz]
      clear q f hs
      go_wp2
      go_roundw
      case rel => exact ⟨k + 1, by omega, by go_num, N2⟩
      case measure => simp [intOf]; omega
    · obtain rfl : k = n := by omega
      have e := rn_end P (by omega) (by omega)
      have hb := P.bel
      clear P P0
      go_wp2
      go_ret2
      exact ⟨rfl, e, hb⟩

theorem rqnew_bad (c : Int) (w : World) (h : c < 1 ∨ 64 < c) :
    Calls Tryd.prog 4 #[.int .i64 c] w fun e w' => e = .returned (.tuple #[.pointer none, .int .i64 2]) ∧ w' = w := by
  rcases h with h | h
  · go_enter Tryd.func4, Tryd.ntmps4
    go_wp2
    go_ret2
    exact ⟨rfl, rfl⟩
  · have h2 : (1 : Int) ≤ c := by omega
    go_enter Tryd.func4, Tryd.ntmps4
    go_wp2
    go_ret2
    exact ⟨rfl, rfl⟩

theorem rz_ge (s n : Nat) : ∀ k ∈ rz s n, s ≤ k := fun k hk => ((mem_rz s n k).1 hk).1

set_option maxRecDepth 100000 in
set_option maxHeartbeats 2000000 in
theorem rqknown_yes (w : World) : Calls Tryd.prog 6 #[] w fun e w' => e = .returned (.bool true) ∧ Below w.heap.size w w' := by
  have C : Hid (∀ _ : Unit, _) := fun _ => rqnew_any 2 w (by decide) (by decide)
  have hP : Hid (∀ k ∈ rz w.heap.size 2, w.heap.size ≤ k) := rz_ge _ _
  generalize hs : w.heap.size = s at *
  go_enter Tryd.func6, Tryd.ntmps6
  go_wp2_with fail
  refine (C.out ()).mono ?_
  rintro e w1 ⟨rfl, q1, f1⟩
  have b1 : Hid (Below s w w1) := f1
  have z1 : s ≤ w1.heap.size := by have := b1.out.size; omega
  have P1 : Hid (∀ _ : Unit, _) := fun _ => put_any 0 1 5 (by decide) (by decide) q1
  rw [show puE 2 (fun _ => []) 0 1 5 = 0 by decide] at P1
  have K1 : puK 2 (fun _ => []) 0 1 5 = fun c => if c = 0 then [(1, 5)] else [] := rfl
  rw [K1] at P1
  clear f1 q1 K1
  go_wp2_with fail
  refine (P1.out ()).mono ?_
  rintro e w2 ⟨rfl, q2, f2⟩
  have b2 : Hid (Below s w w2) := fr_own b1.out f2 z1 hP.out
  have z2 : s ≤ w2.heap.size := by have := b2.out.size; omega
  have P2 : Hid (∀ _ : Unit, _) := fun _ => put_any 0 2 6 (by decide) (by decide) q2
  rw [show puE 2 (fun c => if c = 0 then [(1, 5)] else []) 0 2 6 = 0 by decide] at P2
  generalize hK2 : puK 2 (fun c => if c = 0 then [(1, 5)] else []) 0 2 6 = K2 at P2
  have E20 : Hid (K2 0 = [(1, 5), (2, 6)]) := by rw [← hK2]; unfold Hid; decide
  have E21 : Hid (K2 1 = []) := by rw [← hK2]; unfold Hid; decide
  clear f2 q2 hK2
  go_wp2_with fail
  refine (P2.out ()).mono ?_
  rintro e w3 ⟨rfl, q3, f3⟩
  have b3 : Hid (Below s w w3) := fr_own b2.out f3 z2 hP.out
  have z3 : s ≤ w3.heap.size := by have := b3.out.size; omega
  have P3 : Hid (∀ _ : Unit, _) := fun _ => pick_any 0 q3
  rw [show pkN 2 K2 0 = 6 by show (if isC 2 0 then tpN (K2 0) else 0) = 6; rw [E20.out]; decide, show pkE 2 K2 0 = 0 by show (if isC 2 0 then tpE (K2 0) else 3) = 0; rw [E20.out]; decide] at P3
  generalize hK3 : pkK 2 K2 0 = K3 at P3
  have E30 : Hid (K3 0 = [(1, 5), (2, 6)]) := by rw [← hK3]; show up K2 0 (tnX (K2 0)) 0 = _; rw [up_same, E20.out]; decide
  have E31 : Hid (K3 1 = []) := by rw [← hK3]; show up K2 0 (tnX (K2 0)) 1 = _; rw [up_other _ (by decide), E21.out]
  clear f3 q3 hK3
  go_wp2_with fail
  refine (P3.out ()).mono ?_
  rintro e w4 ⟨rfl, q4, f4⟩
  have b4 : Hid (Below s w w4) := fr_own b3.out f4 z3 hP.out
  have z4 : s ≤ w4.heap.size := by have := b4.out.size; omega
  have P4 : Hid (∀ _ : Unit, _) := fun _ => move_any 0 1 (by decide) q4
  have eE : mvE 2 K3 0 1 = 0 := by
    unfold mvE
    rw [if_pos ⟨by decide, by decide⟩, if_neg (by decide)]
    show (if K3 0 = [] then 12 else psE 32 (K3 1) (prP (K3 0) (lst (K3 0))) (lst (K3 0))) = 0
    rw [E30.out, E31.out]
    decide
  rw [show mvN 2 K3 0 1 = 5 by unfold mvN; rw [if_pos eE]; show lst (K3 0) = 5; rw [E30.out]; decide] at P4
  generalize hK4 : mvK 2 K3 0 1 = K4 at P4
  have E40 : Hid (K4 0 = [(2, 6)]) := by
    rw [← hK4]
    unfold mvK
    rw [if_pos eE]
    show up (up K3 1 _) 0 (del (K3 0) (lst (K3 0))) 0 = _
    rw [up_same, E30.out]
    decide
  have E41 : Hid (K4 1 = [(1, 5)]) := by
    rw [← hK4]
    unfold mvK
    rw [if_pos eE]
    show up (up K3 1 (K3 1 ++ [(prP (K3 0) (lst (K3 0)), lst (K3 0))])) 0 _ 1 = _
    rw [up_other _ (by decide), up_same, E30.out, E31.out]
    decide
  rw [eE] at P4
  clear f4 q4 hK4 eE
  go_wp2_with fail
  refine (P4.out ()).mono ?_
  rintro e w5 ⟨rfl, q5, f5⟩
  have b5 : Hid (Below s w w5) := fr_own b4.out f5 z4 hP.out
  have o5 : onc 2 K4 5 = some 1 := onc_some q5.al (by decide) (by rw [E41.out]; decide)
  have P5 : Hid (∀ _ : Unit, _) := fun _ => where_any 5 (by decide) q5
  rw [show whN 2 K4 5 = 1 by unfold whN; rw [o5]; rfl, show whB 2 K4 5 = true by unfold whB; rw [o5]; rfl] at P5
  have P6 : Hid (∀ _ : Unit, _) := fun _ => load_any 0 q5
  rw [show loN 2 K4 0 = 1 by show (if isC 2 0 then ((K4 0).length : Int) else 0) = 1; rw [E40.out]; decide] at P6
  clear f5 q5 o5
  go_wp2_with fail
  refine (P5.out ()).mono ?_
  rintro e w6 ⟨rfl, rfl⟩
  go_wp2_with fail
  refine (P6.out ()).mono ?_
  rintro e w7 ⟨rfl, rfl⟩
  go_wp2
  go_ret
  exact ⟨rfl, b5.out⟩
end Go.Proofs.YtpmjojemcpgpiaaDoor
