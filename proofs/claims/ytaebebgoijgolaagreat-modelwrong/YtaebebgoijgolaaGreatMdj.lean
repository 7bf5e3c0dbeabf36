/- A model's machine follows an event: without a record, a work that is queued, one that is done, one that is not there. -/
import Derived.Test.YtaebebgoijgolaaGreatRows
import Derived.Test.YtaebebgoijgolaaGreatMdi
import Derived.WalkKit
import Derived.ProofKit
import Derived.OpenShut
import Derived.BigQuiet
import Derived.Laws.EntriesVeiled
import Derived.WalkSmall
namespace Go.Proofs.YtaebebgoijgolaaGreat
open Go.ChangeShapes Go.WideShapes Go.ChangeAt Go.RowKit
set_option linter.unusedVariables false
set_option linter.unusedSimpArgs false
set_option maxRecDepth 100000

set_option maxHeartbeats 1000000 in
theorem follow_still (w : World) (m : Nat) (cs : List Value) (c p i u n : Int) (h : Blk w m cs 45) (h0 : cs[0]? = some (.int .i64 c)) (hp : 0 ≤ p) (hc : p < c) :
    Calls Tryz.prog 10 #[mp m, .agg (ev 1 p i u n).toArray, .slice none 0 0] w fun e w' => e = .returned (.tuple #[]) ∧ Below w.heap.size w w' := by
  have BE : Hid (Below w.heap.size w (w.alloc (.cells (ev 1 p i u n).toArray 24))) := (Below.refl _ _).alloc (Nat.le_refl _) _
  have C1 : Hid (∀ _ : Unit, _) := fun _ => core_any (w.alloc (.cells (ev 1 p i u n).toArray 24)) m cs c p (h.alloc _) h0
  rw [decide_eq_true hp, decide_eq_true hc] at C1
  unfold ev mp at *
  clear h h0 hp hc
  go_enter Tryz.func10, Tryz.ntmps10
  go_wp2_with fail
  refine (C1.out ()).mono ?_
  rintro e v1 ⟨rfl, rfl⟩
  go_wp2
  first | go_end0 | refine bodyPost_ret (results_none rfl _ _ _) rfl ?_
  exact ⟨rfl, BE.out⟩

set_option maxHeartbeats 1000000 in
theorem follow_bad (w : World) (m : Nat) (cs : List Value) (c k p i u n : Int) (h : Blk w m cs 45) (h0 : cs[0]? = some (.int .i64 c)) (hn : ¬ (k = 1 ∧ 0 ≤ p ∧ p < c)) :
    Calls Tryz.prog 10 #[mp m, .agg (ev k p i u n).toArray, .slice none 0 0] w fun e w' => e = .panicked bad ∧ Below w.heap.size w w' := by
  have BE : Hid (Below w.heap.size w (w.alloc (.cells (ev k p i u n).toArray 24))) := (Below.refl _ _).alloc (Nat.le_refl _) _
  have C1 : Hid (∀ _ : Unit, _) := fun _ => core_any (w.alloc (.cells (ev k p i u n).toArray 24)) m cs c p (h.alloc _) h0
  have C2 : Hid (∀ w, _) := fun w => must_no w
  unfold ev mp at *
  clear h h0
  by_cases q : k = 1
  · subst q
    have hb : (decide (0 ≤ p) && decide (p < c)) = false := by
      rw [Bool.and_eq_false_iff, decide_eq_false_iff_not, decide_eq_false_iff_not]
      omega
    rw [hb] at C1
    clear hb hn
    go_enter Tryz.func10, Tryz.ntmps10
    go_wp2_with fail
    refine (C1.out ()).mono ?_
    rintro e v1 ⟨rfl, rfl⟩
    go_wp2_with fail
    refine (C2.out _).mono ?_
    rintro e v1 ⟨rfl, rfl⟩
    go_wp2
    simp [bodyPost]
    exact BE.out
  · have hd : decide (k = 1) = false := decide_eq_false q
    have hq : (k == 1) = false := by simpa using q
    clear hn C1
    go_enter Tryz.func10, Tryz.ntmps10
    go_wp2_with fail
    refine (C2.out _).mono ?_
    rintro e v1 ⟨rfl, rfl⟩
    go_wp2
    simp [bodyPost]
    exact BE.out

/-- Behind the event's box, the record is told. -/
theorem told_blk {w : World} {m : Nat} {k r : Value} (h : Blk w m (mc 2 3 k r 0 0 0 0 0) 45) (t0 t1 t2 t3 t4 : Int) :
    Blk (((((w.setCell ⟨m, 13, none⟩ (.int .i64 t0)).setCell ⟨m, 14, none⟩ (.int .i64 t1)).setCell ⟨m, 15, none⟩ (.int .i64 t2)).setCell ⟨m, 16, none⟩ (.int .i64 t3)).setCell ⟨m, 17, none⟩ (.int .i64 t4)) m (mc 2 3 k r t0 t1 t2 t3 t4) 45 :=
  ((((h.set 13 _).set 14 _).set 15 _).set 16 _).set 17 _
theorem told_fr {B : Nat} {S : List Nat} {a w : World} {m : Nat} (h : Fr B S a w) (hm : m ∈ S) (t0 t1 t2 t3 t4 : Value) :
    Fr B S a (((((w.setCell ⟨m, 13, none⟩ t0).setCell ⟨m, 14, none⟩ t1).setCell ⟨m, 15, none⟩ t2).setCell ⟨m, 16, none⟩ t3).setCell ⟨m, 17, none⟩ t4) :=
  ((((h.st m 13 _ hm).st m 14 _ hm).st m 15 _ hm).st m 16 _ hm).st m 17 _ hm
theorem told_other {w : World} {m b : Nat} {cs : List Value} {t : TypeId} (h : Blk w b cs t) (ne : b ≠ m) (t0 t1 t2 t3 t4 : Value) :
    Blk (((((w.setCell ⟨m, 13, none⟩ t0).setCell ⟨m, 14, none⟩ t1).setCell ⟨m, 15, none⟩ t2).setCell ⟨m, 16, none⟩ t3).setCell ⟨m, 17, none⟩ t4) b cs t :=
  ((((h.other (p := ⟨m, 13, none⟩) ne _).other (p := ⟨m, 14, none⟩) ne _).other (p := ⟨m, 15, none⟩) ne _).other (p := ⟨m, 16, none⟩) ne _).other (p := ⟨m, 17, none⟩) ne _

def rc (k c i n y : Int) : List Value := [.int .i64 k, .int .i64 c, .int .i64 i, .int .i64 n, .int .i64 y]

set_option maxHeartbeats 2000000 in
theorem follow_queue (w : World) (m lb : Nat) (r : Value) (h : Blk w m (mc 2 3 (.slice none 0 0) r 0 0 0 0 0) 45) (hl : Blk w lb (rc 1 0 1 0 0) 40) :
    Calls Tryz.prog 10 #[mp m, .agg (ev 18 0 0 0 0).toArray, .slice (some ⟨lb, 0, none⟩) 1 1] w fun e w' => e = .returned (.tuple #[]) ∧ ∃ u, MM w.heap.size [m] w w' m r u [1] 1 0 1 0 0 := by
  have hm := h.lt
  have hlm : lb ≠ m := (hl.ne h (by decide))
  have C2 : Hid (∀ w, _) := fun w => must_yes w
  have CA : Hid (∀ V : World, Blk V m (mc 2 3 (.slice none 0 0) r 1 0 1 0 0) 45 → Fr w.heap.size [m] w V → Calls Tryz.prog 23 #[mp m, .agg (ev 18 0 0 0 0).toArray] V fun e w' => e = .returned (.tuple #[.int .i64 1, .int .i64 0]) ∧ ∃ u, MM w.heap.size [m] w w' m r u [1] 1 0 1 0 0) := fun V hV fV => by
    refine (answer_queue V m r 1 0 1 0 0 hV).mono ?_
    rintro e w' ⟨rfl, u, q⟩
    exact ⟨rfl, u, q.blk, fV.trans (q.fr.less fV.size), own_base q.own fV.size⟩
  have hx : Blk (w.alloc (.cells (ev 18 0 0 0 0).toArray 24)) m _ _ := h.alloc _
  have hy : Blk (w.alloc (.cells (ev 18 0 0 0 0).toArray 24)) lb _ _ := hl.alloc _
  have hz : Blk (w.alloc (.cells (ev 18 0 0 0 0).toArray 24)) w.heap.size _ _ := Blk.new w (ev 18 0 0 0 0) 24
  have HF : Hid (Fr w.heap.size [m] w (w.alloc (.cells (ev 18 0 0 0 0).toArray 24))) := (Fr.refl _ _ _).alloc (Nat.le_refl _) _
  have NM : w.heap.size ≠ m := by omega
  unfold ev at *
  obtain ⟨v, hv⟩ : ∃ v, v = w.alloc (.cells [.int .i64 18, .int .i64 0, .int .i64 0, .int .u64 0, .int .i64 0].toArray 24) := ⟨_, rfl⟩
  rw [← hv] at hx hy hz HF
  have HV : Hid (w.alloc (.cells #[.int .i64 18, .int .i64 0, .int .i64 0, .int .u64 0, .int .i64 0] 24) = v) := hv.symm
  have l0 : v.cell? ⟨lb, 0, none⟩ = some (.int .i64 1) := hy.cell 0
  have l1 : v.cell? ⟨lb, 1, none⟩ = some (.int .i64 0) := hy.cell 1
  have l2 : v.cell? ⟨lb, 2, none⟩ = some (.int .i64 1) := hy.cell 2
  have l3 : v.cell? ⟨lb, 3, none⟩ = some (.int .i64 0) := hy.cell 3
  have l4 : v.cell? ⟨lb, 4, none⟩ = some (.int .i64 0) := hy.cell 4
  have m0 : v.cell? ⟨m, 13, none⟩ = some (.int .i64 0) := hx.cell 13
  have m1 : v.cell? ⟨m, 14, none⟩ = some (.int .i64 0) := hx.cell 14
  have m2 : v.cell? ⟨m, 15, none⟩ = some (.int .i64 0) := hx.cell 15
  have m3 : v.cell? ⟨m, 16, none⟩ = some (.int .i64 0) := hx.cell 16
  have m4 : v.cell? ⟨m, 17, none⟩ = some (.int .i64 0) := hx.cell 17
  have n0 : v.frozen? ⟨m, 13, none⟩ = false := hx.free 13
  have n1 : v.frozen? ⟨m, 14, none⟩ = false := hx.free 14
  have n2 : v.frozen? ⟨m, 15, none⟩ = false := hx.free 15
  have n3 : v.frozen? ⟨m, 16, none⟩ = false := hx.free 16
  have n4 : v.frozen? ⟨m, 17, none⟩ = false := hx.free 17
  have HX : Hid (Blk v m _ _) := hx
  have HZ : Hid (Blk v w.heap.size _ _) := hz
  unfold mp at *
  clear hx hy hz hv h hl hm
  go_enter Tryz.func10, Tryz.ntmps10
  go_wp2_with fail
  rw [HV.out]
  refine (C2.out _).mono ?_
  rintro e v ⟨rfl, rfl⟩
  have o0 := (told_other HZ.out NM (.int .i64 1) (.int .i64 0) (.int .i64 1) (.int .i64 0) (.int .i64 0)).cell 0
  have o1 := (told_other HZ.out NM (.int .i64 1) (.int .i64 0) (.int .i64 1) (.int .i64 0) (.int .i64 0)).cell 1
  have o2 := (told_other HZ.out NM (.int .i64 1) (.int .i64 0) (.int .i64 1) (.int .i64 0) (.int .i64 0)).cell 2
  have o3 := (told_other HZ.out NM (.int .i64 1) (.int .i64 0) (.int .i64 1) (.int .i64 0) (.int .i64 0)).cell 3
  have o4 := (told_other HZ.out NM (.int .i64 1) (.int .i64 0) (.int .i64 1) (.int .i64 0) (.int .i64 0)).cell 4
  simp only [List.getElem?_cons_zero, List.getElem?_cons_succ] at o0 o1 o2 o3 o4
  go_wp2_with fail
  refine (CA.out _ (told_blk HX.out 1 0 1 0 0) (told_fr HF.out (by simp) _ _ _ _ _)).mono ?_
  rintro e v2 ⟨rfl, u, q⟩
  have d13 : v2.cell? ⟨m, 13, none⟩ = some (.int .i64 1) := q.blk.cell 13
  have d14 : v2.cell? ⟨m, 14, none⟩ = some (.int .i64 0) := q.blk.cell 14
  have d15 : v2.cell? ⟨m, 15, none⟩ = some (.int .i64 1) := q.blk.cell 15
  have d16 : v2.cell? ⟨m, 16, none⟩ = some (.int .i64 0) := q.blk.cell 16
  have d17 : v2.cell? ⟨m, 17, none⟩ = some (.int .i64 0) := q.blk.cell 17
  have Q : Hid (MM w.heap.size [m] w v2 m r u [1] 1 0 1 0 0) := q
  clear q
  go_wp2_with fail
  refine (C2.out _).mono ?_
  rintro e v2 ⟨rfl, rfl⟩
  go_wp2
  first | go_end0 | refine bodyPost_ret (results_none rfl _ _ _) rfl ?_
  exact ⟨rfl, u, Q.out⟩

set_option maxHeartbeats 2000000 in
theorem follow_work (w : World) (m lb : Nat) (r : Value) (g c : Nat) (cur : List Value) (h : Blk w m (mc 2 3 (.slice (some ⟨g, 0, none⟩) 1 c) r 0 0 0 0 0) 45) (hg : Blk w g (.int .i64 1 :: cur) 3) (hc : c = cur.length + 1) (hcl : c ≤ maxLen) (hl : Blk w lb (rc 5 0 1 0 0) 40) :
    Calls Tryz.prog 10 #[mp m, .agg (ev 1 0 0 0 0).toArray, .slice (some ⟨lb, 0, none⟩) 1 1] w fun e w' => e = .returned (.tuple #[]) ∧ Blk w' m (mc 2 3 (.slice (some ⟨g, 0, none⟩) 0 c) r 5 0 1 0 0) 45 ∧ Fr w.heap.size [m, g] w w' := by
  have hm := h.lt
  have hlm : lb ≠ m := (hl.ne h (by decide))
  have C2 : Hid (∀ w, _) := fun w => must_yes w
  have hgm : g ≠ m := hg.ne h (by decide)
  have C1 : Hid (∀ V : World, Blk V m (mc 2 3 (.slice (some ⟨g, 0, none⟩) 1 c) r 0 0 0 0 0) 45 → Calls Tryz.prog 20 #[mp m, .int .i64 0] V fun e w' => e = .returned (.bool true) ∧ w' = V) := fun V hV => core_any V m _ 2 0 hV rfl
  have CA : Hid (∀ V : World, Blk V m (mc 2 3 (.slice (some ⟨g, 0, none⟩) 1 c) r 5 0 1 0 0) 45 → Fr w.heap.size [m] w V → Calls Tryz.prog 22 #[mp m, .int .i64 0] V fun e w' => e = .returned (.tuple #[]) ∧ Blk w' m (mc 2 3 (.slice (some ⟨g, 0, none⟩) 0 c) r 5 0 1 0 0) 45 ∧ Fr w.heap.size [m, g] w w') := fun V hV fV => by
    refine (step_yes V m r g c cur hV (hg.keep fV hg.lt (by simpa using hgm)) hc hcl).mono ?_
    rintro e w' ⟨rfl, q1, q2⟩
    exact ⟨rfl, q1, (fV.mono (Nat.le_refl _) (by simp; intro k _ h1 _ h2; exact h1 h2)).trans (q2.less fV.size)⟩
  have hx : Blk (w.alloc (.cells (ev 1 0 0 0 0).toArray 24)) m _ _ := h.alloc _
  have hy : Blk (w.alloc (.cells (ev 1 0 0 0 0).toArray 24)) lb _ _ := hl.alloc _
  have hz : Blk (w.alloc (.cells (ev 1 0 0 0 0).toArray 24)) w.heap.size _ _ := Blk.new w (ev 1 0 0 0 0) 24
  have HF : Hid (Fr w.heap.size [m] w (w.alloc (.cells (ev 1 0 0 0 0).toArray 24))) := (Fr.refl _ _ _).alloc (Nat.le_refl _) _
  have NM : w.heap.size ≠ m := by omega
  unfold ev at *
  obtain ⟨v, hv⟩ : ∃ v, v = w.alloc (.cells [.int .i64 1, .int .i64 0, .int .i64 0, .int .u64 0, .int .i64 0].toArray 24) := ⟨_, rfl⟩
  rw [← hv] at hx hy hz HF
  have HV : Hid (w.alloc (.cells #[.int .i64 1, .int .i64 0, .int .i64 0, .int .u64 0, .int .i64 0] 24) = v) := hv.symm
  have l0 : v.cell? ⟨lb, 0, none⟩ = some (.int .i64 5) := hy.cell 0
  have l1 : v.cell? ⟨lb, 1, none⟩ = some (.int .i64 0) := hy.cell 1
  have l2 : v.cell? ⟨lb, 2, none⟩ = some (.int .i64 1) := hy.cell 2
  have l3 : v.cell? ⟨lb, 3, none⟩ = some (.int .i64 0) := hy.cell 3
  have l4 : v.cell? ⟨lb, 4, none⟩ = some (.int .i64 0) := hy.cell 4
  have m0 : v.cell? ⟨m, 13, none⟩ = some (.int .i64 0) := hx.cell 13
  have m1 : v.cell? ⟨m, 14, none⟩ = some (.int .i64 0) := hx.cell 14
  have m2 : v.cell? ⟨m, 15, none⟩ = some (.int .i64 0) := hx.cell 15
  have m3 : v.cell? ⟨m, 16, none⟩ = some (.int .i64 0) := hx.cell 16
  have m4 : v.cell? ⟨m, 17, none⟩ = some (.int .i64 0) := hx.cell 17
  have n0 : v.frozen? ⟨m, 13, none⟩ = false := hx.free 13
  have n1 : v.frozen? ⟨m, 14, none⟩ = false := hx.free 14
  have n2 : v.frozen? ⟨m, 15, none⟩ = false := hx.free 15
  have n3 : v.frozen? ⟨m, 16, none⟩ = false := hx.free 16
  have n4 : v.frozen? ⟨m, 17, none⟩ = false := hx.free 17
  have HX : Hid (Blk v m _ _) := hx
  have HZ : Hid (Blk v w.heap.size _ _) := hz
  unfold mp at *
  clear hx hy hz hv h hl hm hg hc
  go_enter Tryz.func10, Tryz.ntmps10
  go_wp2_with fail
  rw [HV.out]
  refine (C1.out _ HX.out).mono ?_
  rintro e v ⟨rfl, rfl⟩
  go_wp2_with fail
  refine (C2.out _).mono ?_
  rintro e v ⟨rfl, rfl⟩
  have o0 := (told_other HZ.out NM (.int .i64 5) (.int .i64 0) (.int .i64 1) (.int .i64 0) (.int .i64 0)).cell 0
  have o1 := (told_other HZ.out NM (.int .i64 5) (.int .i64 0) (.int .i64 1) (.int .i64 0) (.int .i64 0)).cell 1
  have o2 := (told_other HZ.out NM (.int .i64 5) (.int .i64 0) (.int .i64 1) (.int .i64 0) (.int .i64 0)).cell 2
  have o3 := (told_other HZ.out NM (.int .i64 5) (.int .i64 0) (.int .i64 1) (.int .i64 0) (.int .i64 0)).cell 3
  have o4 := (told_other HZ.out NM (.int .i64 5) (.int .i64 0) (.int .i64 1) (.int .i64 0) (.int .i64 0)).cell 4
  simp only [List.getElem?_cons_zero, List.getElem?_cons_succ] at o0 o1 o2 o3 o4
  go_wp2_with fail
  refine (CA.out _ (told_blk HX.out 5 0 1 0 0) (told_fr HF.out (by simp) _ _ _ _ _)).mono ?_
  rintro e v2 ⟨rfl, q⟩
  go_wp2
  first | go_end0 | refine bodyPost_ret (results_none rfl _ _ _) rfl ?_
  exact ⟨rfl, q⟩

set_option maxHeartbeats 2000000 in
theorem follow_gone (w : World) (m lb : Nat) (r : Value) (a : Option Addr) (c : Nat) (h : Blk w m (mc 2 3 (.slice a 0 c) r 0 0 0 0 0) 45) (hl : Blk w lb (rc 5 0 1 0 0) 40) :
    Calls Tryz.prog 10 #[mp m, .agg (ev 1 0 0 0 0).toArray, .slice (some ⟨lb, 0, none⟩) 1 1] w fun e w' => e = .panicked bad ∧ Fr w.heap.size [m] w w' := by
  have hm := h.lt
  have hlm : lb ≠ m := (hl.ne h (by decide))
  have C2 : Hid (∀ w, _) := fun w => must_yes w
  have C1 : Hid (∀ V : World, Blk V m (mc 2 3 (.slice a 0 c) r 0 0 0 0 0) 45 → Calls Tryz.prog 20 #[mp m, .int .i64 0] V fun e w' => e = .returned (.bool true) ∧ w' = V) := fun V hV => core_any V m _ 2 0 hV rfl
  have CA : Hid (∀ V : World, Blk V m (mc 2 3 (.slice a 0 c) r 5 0 1 0 0) 45 → Fr w.heap.size [m] w V → Calls Tryz.prog 22 #[mp m, .int .i64 0] V fun e w' => e = .panicked bad ∧ Fr w.heap.size [m] w w') := fun V hV fV => by
    refine (step_no V m r a c hV).mono ?_
    rintro e w' ⟨rfl, q2⟩
    exact ⟨rfl, fV.trans (((Fr.of_below q2).mono fV.size (by simp)))⟩
  have hx : Blk (w.alloc (.cells (ev 1 0 0 0 0).toArray 24)) m _ _ := h.alloc _
  have hy : Blk (w.alloc (.cells (ev 1 0 0 0 0).toArray 24)) lb _ _ := hl.alloc _
  have hz : Blk (w.alloc (.cells (ev 1 0 0 0 0).toArray 24)) w.heap.size _ _ := Blk.new w (ev 1 0 0 0 0) 24
  have HF : Hid (Fr w.heap.size [m] w (w.alloc (.cells (ev 1 0 0 0 0).toArray 24))) := (Fr.refl _ _ _).alloc (Nat.le_refl _) _
  have NM : w.heap.size ≠ m := by omega
  unfold ev at *
  obtain ⟨v, hv⟩ : ∃ v, v = w.alloc (.cells [.int .i64 1, .int .i64 0, .int .i64 0, .int .u64 0, .int .i64 0].toArray 24) := ⟨_, rfl⟩
  rw [← hv] at hx hy hz HF
  have HV : Hid (w.alloc (.cells #[.int .i64 1, .int .i64 0, .int .i64 0, .int .u64 0, .int .i64 0] 24) = v) := hv.symm
  have l0 : v.cell? ⟨lb, 0, none⟩ = some (.int .i64 5) := hy.cell 0
  have l1 : v.cell? ⟨lb, 1, none⟩ = some (.int .i64 0) := hy.cell 1
  have l2 : v.cell? ⟨lb, 2, none⟩ = some (.int .i64 1) := hy.cell 2
  have l3 : v.cell? ⟨lb, 3, none⟩ = some (.int .i64 0) := hy.cell 3
  have l4 : v.cell? ⟨lb, 4, none⟩ = some (.int .i64 0) := hy.cell 4
  have m0 : v.cell? ⟨m, 13, none⟩ = some (.int .i64 0) := hx.cell 13
  have m1 : v.cell? ⟨m, 14, none⟩ = some (.int .i64 0) := hx.cell 14
  have m2 : v.cell? ⟨m, 15, none⟩ = some (.int .i64 0) := hx.cell 15
  have m3 : v.cell? ⟨m, 16, none⟩ = some (.int .i64 0) := hx.cell 16
  have m4 : v.cell? ⟨m, 17, none⟩ = some (.int .i64 0) := hx.cell 17
  have n0 : v.frozen? ⟨m, 13, none⟩ = false := hx.free 13
  have n1 : v.frozen? ⟨m, 14, none⟩ = false := hx.free 14
  have n2 : v.frozen? ⟨m, 15, none⟩ = false := hx.free 15
  have n3 : v.frozen? ⟨m, 16, none⟩ = false := hx.free 16
  have n4 : v.frozen? ⟨m, 17, none⟩ = false := hx.free 17
  have HX : Hid (Blk v m _ _) := hx
  have HZ : Hid (Blk v w.heap.size _ _) := hz
  unfold mp at *
  clear hx hy hz hv h hl hm
  go_enter Tryz.func10, Tryz.ntmps10
  go_wp2_with fail
  rw [HV.out]
  refine (C1.out _ HX.out).mono ?_
  rintro e v ⟨rfl, rfl⟩
  go_wp2_with fail
  refine (C2.out _).mono ?_
  rintro e v ⟨rfl, rfl⟩
  have o0 := (told_other HZ.out NM (.int .i64 5) (.int .i64 0) (.int .i64 1) (.int .i64 0) (.int .i64 0)).cell 0
  have o1 := (told_other HZ.out NM (.int .i64 5) (.int .i64 0) (.int .i64 1) (.int .i64 0) (.int .i64 0)).cell 1
  have o2 := (told_other HZ.out NM (.int .i64 5) (.int .i64 0) (.int .i64 1) (.int .i64 0) (.int .i64 0)).cell 2
  have o3 := (told_other HZ.out NM (.int .i64 5) (.int .i64 0) (.int .i64 1) (.int .i64 0) (.int .i64 0)).cell 3
  have o4 := (told_other HZ.out NM (.int .i64 5) (.int .i64 0) (.int .i64 1) (.int .i64 0) (.int .i64 0)).cell 4
  simp only [List.getElem?_cons_zero, List.getElem?_cons_succ] at o0 o1 o2 o3 o4
  go_wp2_with fail
  refine (CA.out _ (told_blk HX.out 5 0 1 0 0) (told_fr HF.out (by simp) _ _ _ _ _)).mono ?_
  rintro e v2 ⟨rfl, q⟩
  go_wp2
  simp [bodyPost]
  exact q

end Go.Proofs.YtaebebgoijgolaaGreat
