/- What prio's New answers, for every number. -/
import Derived.Test.YtpmjojemcpgpiaaDoorQd
import Derived.WalkKit
import Derived.ProofKit
import Derived.OpenShut
import Derived.BigQuiet
namespace Go.Proofs.YtpmjojemcpgpiaaDoor
open Go.ChangeShapes Go.WideShapes Go.ChangeAt Go.RowKit
open Fm Qm

/-- The struct while its levels are made: the first k are there. -/
def pn (s k j : Nat) : Value := if j < k then pt s j else .pointer none
def pns (s k : Nat) : List Value := [pn s k 0, pn s k 1, pn s k 2, pn s k 3, pn s k 4, pn s k 5, pn s k 6, pn s k 7]
theorem pns_set (s k : Nat) (h : k < 8) : (pns s k).set k (pt s k) = pns s (k + 1) := by
  obtain rfl | rfl | rfl | rfl | rfl | rfl | rfl | rfl : k = 0 ∨ k = 1 ∨ k = 2 ∨ k = 3 ∨ k = 4 ∨ k = 5 ∨ k = 6 ∨ k = 7 := by omega
  all_goals rfl
theorem pns_get (s k : Nat) (h : k < 8) : (pns s k)[k]? = some (.pointer none) := by
  obtain rfl | rfl | rfl | rfl | rfl | rfl | rfl | rfl : k = 0 ∨ k = 1 ∨ k = 2 ∨ k = 3 ∨ k = 4 ∨ k = 5 ∨ k = 6 ∨ k = 7 := by omega
  all_goals rfl
theorem pns_all (s : Nat) : pns s 8 = pts s := rfl

structure PN (w wr : World) (m k : Nat) : Prop where
  bel : Below w.heap.size w wr
  size : wr.heap.size = w.heap.size + 1 + 2 * k
  sb : Blk wr w.heap.size (pns w.heap.size k) 72
  lv : ∀ j, j < k → Q wr (w.heap.size + 2 + 2 * j) (w.heap.size + 1 + 2 * j) m 0 (List.replicate m 0) []

theorem pn_step {w wr w1 : World} {m k : Nat} (h : PN w wr m k) (hk : k < 8) (q : Q w1 (wr.heap.size + 1) wr.heap.size m 0 (List.replicate m 0) []) (f : Fr wr.heap.size [] wr w1) (hs : w1.heap.size = wr.heap.size + 2) :
    PN w (w1.setCell ⟨w.heap.size, k, none⟩ (pt w.heap.size k)) m (k + 1) := by
  have hz := h.size
  have ne : ∀ b, w.heap.size < b → b ≠ (⟨w.heap.size, k, none⟩ : Addr).block := fun b hb => by simp; omega
  refine ⟨(h.bel.trans ((f.below (by simp)).mono (by omega))).setCell (p := ⟨w.heap.size, k, none⟩) (Nat.le_refl _) _, by simp [World.setCell]; omega, ?_, fun j hj => ?_⟩
  · rw [← pns_set _ _ hk]
    exact (h.sb.keep f (by omega) (by simp)).set k _
  · by_cases c : j = k
    · subst c
      rw [show wr.heap.size + 1 = w.heap.size + 2 + 2 * j by omega, show wr.heap.size = w.heap.size + 1 + 2 * j by omega] at q
      exact ⟨q.sb.other (ne _ (by omega)) _, q.sg.other (ne _ (by omega)) _, q.rg⟩
    · have q2 := (h.lv j (by omega)).keep f ⟨by omega, by omega⟩ ⟨by simp, by simp⟩
      exact ⟨q2.sb.other (ne _ (by omega)) _, q2.sg.other (ne _ (by omega)) _, q2.rg⟩

theorem pn_end {w wr : World} {m : Nat} (h : PN w wr m 8) : PQ wr w.heap.size m [] :=
  ⟨h.sb, fun k hk => ⟨_, _, h.lv k hk⟩, ok_nil m⟩

set_option maxHeartbeats 1000000 in
theorem pnew_any (m : Nat) (w : World) (h1 : (1 : Int) ≤ m) (h2 : (m : Int) ≤ 1024) :
    Calls Tryd.prog 21 #[.int .i64 (m : Int)] w fun e w' => e = .returned (.tuple #[.pointer (some ⟨w.heap.size, 0, none⟩), .int .i64 0]) ∧ PQ w' w.heap.size m [] ∧ Below w.heap.size w w' ∧ w'.heap.size = w.heap.size + 17 := by
  have C : Hid (∀ w, _) := fun w => new_at m w h1 h2
  go_enter Tryd.func21, Tryd.ntmps21
  go_wp2
  have P0 : PN w (w.alloc (.cells (pns w.heap.size 0).toArray 72)) m 0 := ⟨(Below.refl _ w).alloc (Nat.le_refl _) _, by simp, Blk.new w _ _, fun j hj => by omega⟩
  go_loopw [10] (fun i wr => ∃ k : Nat, (k : Int) ≤ 8 ∧ i = .int .i64 (k : Int) ∧ PN w wr m k) (fun i _ => 8 - (intOf i).toNat)
  case atStart => exact ⟨0, by omega, rfl, P0⟩
  case round =>
    obtain ⟨k, hk, rfl, P⟩ := hrel
    by_cases c : (k : Int) < 8
    · have C1 : Hid (∀ _ : Unit, _) := fun _ => C.out wr
      have ST : Hid (∀ w1 : World, _ → _ → _ → _) := fun w1 q f hs => pn_step (w1 := w1) P (by omega) q f hs
      have cb : Hid (∀ w1 : World, Fr wr.heap.size [] wr w1 → w1.cell? ⟨w.heap.size, k, none⟩ = some (.pointer none) ∧ w1.frozen? ⟨w.heap.size, k, none⟩ = false) := fun w1 f => by
        have b := P.sb.keep f P.sb.lt (by simp)
        exact ⟨by rw [b.cell, pns_get _ _ (by omega)], b.free k⟩
      have hz : wr.heap.size + 1 = w.heap.size + 2 + 2 * k := by have := P.size; omega
      unfold pt at ST
      clear P P0
      go_wp2_with fail
      refine (C1.out ()).mono ?_
      rintro e w1 ⟨rfl, q, f, hs⟩
      obtain ⟨c1, f1⟩ := cb.out w1 f
      have N2 := ST.out w1 q f hs
      rw [hz]
      clear q f hs
      go_wp2
      go_roundw
      case rel => exact ⟨k + 1, by omega, by go_num, N2⟩
      case measure => simp [intOf]; omega
    · obtain rfl : k = 8 := by omega
      have e := pn_end P
      have hb := P.bel
      have hs := P.size
      clear P P0
      go_wp2
      go_ret2
      exact ⟨rfl, e, hb, by omega⟩

set_option maxHeartbeats 1000000 in
theorem pnew_bad (m : Int) (w : World) (h : m < 1 ∨ 1024 < m) :
    Calls Tryd.prog 21 #[.int .i64 m] w fun e w' => e = .returned (.tuple #[.pointer none, .int .i64 2]) ∧ Below w.heap.size w w' := by
  have C : Hid (∀ w, _) := fun w => new_bad m w h
  clear h
  go_enter Tryd.func21, Tryd.ntmps21
  go_wp2
  have b0 : Below w.heap.size w (w.alloc (.cells (pns w.heap.size 0).toArray 72)) := (Below.refl _ w).alloc (Nat.le_refl _) _
  go_loopw [10] (fun i wr => i = .int .i64 0 ∧ Below w.heap.size w wr) (fun i _ => 0)
  case atStart => exact ⟨rfl, b0⟩
  case round =>
    obtain ⟨rfl, hb⟩ := hrel
    have C1 : Hid (∀ _ : Unit, _) := fun _ => C.out wr
    clear b0
    go_wp2_with fail
    refine (C1.out ()).mono ?_
    rintro e w1 ⟨rfl, rfl⟩
    go_wp2
    go_ret2
    exact ⟨rfl, hb⟩
end Go.Proofs.YtpmjojemcpgpiaaDoor
