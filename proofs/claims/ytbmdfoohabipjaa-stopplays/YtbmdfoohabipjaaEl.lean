/- A stop as it lies in memory; what its Begin, asks, Ack, Must, Held, Ready, Free, On and Left answer and leave, for every one. -/
import Derived.Test.YtbmdfoohabipjaaRows
import Derived.Test.YtbmdfoohabipjaaEk
import Derived.Test.YtbmdfoohabipjaaKj
import Derived.Test.YtbmdfoohabipjaaKi
import Derived.Test.YtbmdfoohabipjaaKl
import Derived.Test.YtbmdfoohabipjaaFg
import Derived.WalkKit
import Derived.ProofKit
import Derived.OpenShut
import Derived.BigQuiet
import Derived.Deep.RegionHeld3
namespace Go.Proofs.Ytbmdfoohabipjaa
open Go.ChangeShapes Go.WideShapes Go.ChangeAt Go.RowKit
open Mm Ek

/-- A stop at block s: those that are to and do not yet, and those that do. -/
structure ST (w : World) (s l h : Nat) : Prop where
  sb : Blk w s [.int .u64 (l : Int), .int .u64 (h : Int)] 49
  w2 : W2 l h

section
variable {w w1 : World} {s l h : Nat}
theorem ST.c0 (q : ST w s l h) : w.cell? ⟨s, 0, none⟩ = some (.int .u64 (l : Int)) := q.sb.cell 0
theorem ST.c1 (q : ST w s l h) : w.cell? ⟨s, 1, none⟩ = some (.int .u64 (h : Int)) := q.sb.cell 1
theorem ST.f0 (q : ST w s l h) : w.frozen? ⟨s, 0, none⟩ = false := q.sb.free 0
theorem ST.f1 (q : ST w s l h) : w.frozen? ⟨s, 1, none⟩ = false := q.sb.free 1
theorem ST.heap (q : ST w s l h) (e : w1.heap = w.heap) : ST w1 s l h := ⟨q.sb.heap e, q.w2⟩
theorem ST.keep {B : Nat} {S : List Nat} (q : ST w s l h) (k : Fr B S w w1) (hb : s < B) (hs : s ∉ S) : ST w1 s l h := ⟨q.sb.keep k hb hs, q.w2⟩
theorem st_l (q : ST w s l h) (x : Nat) (hx : x < 18446744073709551616) : ST (w.setCell ⟨s, 0, none⟩ (.int .u64 (x : Int))) s x h := ⟨q.sb.set 0 _, hx, q.w2.2⟩
theorem st_h (q : ST w s l h) (x : Nat) (hx : x < 18446744073709551616) : ST (w.setCell ⟨s, 1, none⟩ (.int .u64 (x : Int))) s l x := ⟨q.sb.set 1 _, q.w2.1, hx⟩
theorem st_new (w : World) : ST (w.alloc (.cells #[.int .u64 0, .int .u64 0] 49)) w.heap.size 0 0 := ⟨Blk.new w [.int .u64 0, .int .u64 0] _, by omega, by omega⟩
end

set_option maxHeartbeats 400000 in
theorem ton_any {s l h : Nat} (w : World) (q : ST w s l h) :
    Calls Try.prog 28 #[.pointer (some ⟨s, 0, none⟩)] w fun e w' => e = .returned (.bool (onB l h)) ∧ Sm w' w := by
  have c0 := q.c0
  have c1 := q.c1
  have C : Hid (∀ w, _) := fun w => kor_any l h w q.w2.1 q.w2.2
  have hz : (((l ||| h : Nat) : Int) != 0) = onB l h := by
    unfold onB
    cases e : (l ||| h == 0)
    · have : (l ||| h) ≠ 0 := by simpa using e
      have : ((l ||| h : Nat) : Int) ≠ 0 := by omega
      simpa using this
    · have : (l ||| h) = 0 := by simpa using e
      simp [this]
  generalize l ||| h = x at *
  generalize onB l h = y at *
  clear q
  go_enter Try.func28, Try.ntmps28
  go_wp2_with fail
  go_region_held3 (fun w' => w'.cell? ⟨s, 0, none⟩ = some (.int .u64 (l : Int)) ∧ w'.cell? ⟨s, 1, none⟩ = some (.int .u64 (h : Int))) (go_keep)
    (first | (go_at_call 52; refine (C.out _).mono ?_; rintro e w' ⟨rfl, rfl⟩))
  go_wp2
  go_ret
  exact ⟨rfl, rfl, rfl, rfl, rfl⟩

set_option maxHeartbeats 400000 in
theorem tasks_any {s l h : Nat} (w : World) (q : ST w s l h) :
    Calls Try.prog 53 #[.pointer (some ⟨s, 0, none⟩)] w fun e w' => e = .returned (.tuple #[.func (.func 61) #[.int .u64 (l : Int)] #[], .func (.func 61) #[.int .u64 (h : Int)] #[]]) ∧ Sm w' w := by
  have c0 := q.c0
  have c1 := q.c1
  clear q
  go_enter Try.func53, Try.ntmps53
  go_wp2_with fail
  go_quiet (fail)
  go_wp2
  go_ret2
  exact ⟨rfl, rfl, rfl, rfl, rfl⟩

set_option maxHeartbeats 400000 in
theorem tmust_any {s l h : Nat} (c : Int) (w : World) (q : ST w s l h) :
    Calls Try.prog 29 #[.pointer (some ⟨s, 0, none⟩), .int .i64 c] w fun e w' => e = .returned (.bool (tb l c)) ∧ Sm w' w := by
  have A : Hid (∀ _ : Unit, _) := fun _ => tasks_any w q
  have C : Hid (∀ w, _) := fun w => khas_any l c w q.w2.1
  generalize tb l c = y at *
  clear q
  go_enter Try.func29, Try.ntmps29
  go_wp2_with fail
  refine (A.out ()).mono ?_
  rintro e w1 ⟨rfl, m1⟩
  have M1 : Hid (Sm w1 w) := m1
  clear m1
  go_wp2_with fail
  refine (C.out _).mono ?_
  rintro e w' ⟨rfl, rfl⟩
  go_wp2
  go_ret
  exact ⟨rfl, M1.out⟩

set_option maxHeartbeats 400000 in
theorem theld_any {s l h : Nat} (c : Int) (w : World) (q : ST w s l h) :
    Calls Try.prog 31 #[.pointer (some ⟨s, 0, none⟩), .int .i64 c] w fun e w' => e = .returned (.bool (tb h c)) ∧ Sm w' w := by
  have A : Hid (∀ _ : Unit, _) := fun _ => tasks_any w q
  have C : Hid (∀ w, _) := fun w => khas_any h c w q.w2.2
  generalize tb h c = y at *
  clear q
  go_enter Try.func31, Try.ntmps31
  go_wp2_with fail
  refine (A.out ()).mono ?_
  rintro e w1 ⟨rfl, m1⟩
  have M1 : Hid (Sm w1 w) := m1
  clear m1
  go_wp2_with fail
  refine (C.out _).mono ?_
  rintro e w' ⟨rfl, rfl⟩
  go_wp2
  go_ret
  exact ⟨rfl, M1.out⟩

theorem tleft_any {s l h : Nat} (w : World) (q : ST w s l h) :
    Calls Try.prog 35 #[.pointer (some ⟨s, 0, none⟩)] w fun e w' => e = .returned (.int .u64 (l : Int)) ∧ w' = w := by
  have c0 := q.c0
  clear q
  go_enter Try.func35, Try.ntmps35
  go_wp2
  go_ret
  exact ⟨rfl, rfl⟩

set_option maxHeartbeats 400000 in
theorem tready_any {s l h : Nat} (w : World) (q : ST w s l h) :
    Calls Try.prog 33 #[.pointer (some ⟨s, 0, none⟩)] w fun e w' => e = .returned (.bool (rdB l h)) ∧ Sm w' w := by
  have A : Hid (∀ _ : Unit, _) := fun _ => ton_any w q
  have K : Hid (∀ w1, Sm w1 w → w1.cell? ⟨s, 0, none⟩ = some (.int .u64 (l : Int))) := fun w1 e => (q.heap e.1).c0
  have hz : ((l : Int) == 0) = (l == 0) := by
    cases e : (l == 0)
    · have : l ≠ 0 := by simpa using e
      have : (l : Int) ≠ 0 := by omega
      simpa using this
    · have : l = 0 := by simpa using e
      simp [this]
  unfold rdB
  generalize (l == 0) = y at *
  cases e : onB l h
  · rw [e] at A
    rw [Bool.false_and]
    clear q e
    go_enter Try.func33, Try.ntmps33
    go_wp2_with fail
    refine (A.out ()).mono ?_
    rintro e w1 ⟨rfl, m1⟩
    have M1 : Hid (Sm w1 w) := m1
    clear m1
    go_wp2
    go_ret
    exact ⟨rfl, M1.out⟩
  · rw [e] at A
    rw [Bool.true_and]
    clear q e
    go_enter Try.func33, Try.ntmps33
    go_wp2_with fail
    refine (A.out ()).mono ?_
    rintro e w1 ⟨rfl, m1⟩
    have M1 : Hid (Sm w1 w) := m1
    have c0 := K.out w1 m1
    clear m1
    go_wp2
    go_ret
    exact ⟨rfl, M1.out⟩

set_option maxHeartbeats 400000 in
theorem tbegin_any {s l h : Nat} (x : Nat) (hx : x < 18446744073709551616) (w : World) (q : ST w s l h) :
    Calls Try.prog 22 #[.pointer (some ⟨s, 0, none⟩), .int .u64 (x : Int)] w fun e w' => e = .returned (.int .i64 (beE l h x)) ∧ ST w' s (beL l h x) h ∧ Fr w.heap.size [s] w w' := by
  have A : Hid (∀ _ : Unit, _) := fun _ => ton_any w q
  have HS : Hid (ST w s l h) := q
  have K : Hid (∀ w1, Sm w1 w → w1.cell? ⟨s, 0, none⟩ = some (.int .u64 (l : Int)) ∧ w1.frozen? ⟨s, 0, none⟩ = false ∧ ST (w1.setCell ⟨s, 0, none⟩ (.int .u64 (x : Int))) s x h) := fun w1 e => ⟨(q.heap e.1).c0, (q.heap e.1).f0, st_l (q.heap e.1) x hx⟩
  cases e : onB l h
  · rw [e] at A
    by_cases z : x = 0
    · rw [show beE l h x = 2 by simp [beE, e, z], show beL l h x = l by simp [beL, beE, e, z]]
      subst z
      clear q e hx K
      go_enter Try.func22, Try.ntmps22
      go_wp2_with fail
      refine (A.out ()).mono ?_
      rintro e w1 ⟨rfl, m1⟩
      have M1 : Hid (Sm w1 w) := m1
      clear m1
      go_wp2
      go_ret
      exact ⟨rfl, HS.out.heap M1.out.1, M1.out.fr (Fr.refl _ _ _)⟩
    · have z2 : ((x : Int) == 0) = false := by
        have : (x : Int) ≠ 0 := by omega
        simpa using this
      rw [show beE l h x = 0 by simp [beE, e, z], show beL l h x = x by simp [beL, beE, e, z]]
      clear q e hx z
      go_enter Try.func22, Try.ntmps22
      go_wp2_with fail
      refine (A.out ()).mono ?_
      rintro e w1 ⟨rfl, m1⟩
      have M1 : Hid (Sm w1 w) := m1
      obtain ⟨c0, f0, t0⟩ := K.out w1 m1
      have T0 : Hid (ST _ s x h) := t0
      clear m1 t0
      go_wp2
      go_ret
      exact ⟨rfl, T0.out, M1.out.fr ((Fr.refl _ _ _).setCell (Or.inr (by simp)) _)⟩
  · rw [e] at A
    rw [show beE l h x = 7 by simp [beE, e], show beL l h x = l by simp [beL, beE, e]]
    clear q e hx K
    go_enter Try.func22, Try.ntmps22
    go_wp2_with fail
    refine (A.out ()).mono ?_
    rintro e w1 ⟨rfl, m1⟩
    have M1 : Hid (Sm w1 w) := m1
    clear m1
    go_wp2
    go_ret
    exact ⟨rfl, HS.out.heap M1.out.1, M1.out.fr (Fr.refl _ _ _)⟩

set_option maxHeartbeats 400000 in
theorem tfree_any {s l h : Nat} (w : World) (q : ST w s l h) :
    Calls Try.prog 26 #[.pointer (some ⟨s, 0, none⟩)] w fun e w' => e = .returned (.int .i64 (frE l h)) ∧ ST w' s 0 0 ∧ Fr w.heap.size [s] w w' := by
  have A : Hid (∀ _ : Unit, _) := fun _ => ton_any w q
  have HS : Hid (ST w s l h) := q
  have K : Hid (∀ w1, Sm w1 w → w1.cell? ⟨s, 0, none⟩ = some (.int .u64 (l : Int)) ∧ w1.cell? ⟨s, 1, none⟩ = some (.int .u64 (h : Int)) ∧ w1.frozen? ⟨s, 0, none⟩ = false ∧ w1.frozen? ⟨s, 1, none⟩ = false ∧ ST ((w1.setCell ⟨s, 0, none⟩ (.int .u64 0)).setCell ⟨s, 1, none⟩ (.int .u64 0)) s 0 0) := fun w1 e => ⟨(q.heap e.1).c0, (q.heap e.1).c1, (q.heap e.1).f0, (q.heap e.1).f1, st_h (st_l (q.heap e.1) 0 (by omega)) 0 (by omega)⟩
  cases e : onB l h
  · rw [e] at A
    rw [show frE l h = 6 by simp [frE, e]]
    obtain ⟨rfl, rfl⟩ := on_no e
    clear q e K
    go_enter Try.func26, Try.ntmps26
    go_wp2_with fail
    refine (A.out ()).mono ?_
    rintro e w1 ⟨rfl, m1⟩
    have M1 : Hid (Sm w1 w) := m1
    clear m1
    go_wp2
    go_ret
    exact ⟨rfl, HS.out.heap M1.out.1, M1.out.fr (Fr.refl _ _ _)⟩
  · rw [e] at A
    rw [show frE l h = 0 by simp [frE, e]]
    clear q e
    go_enter Try.func26, Try.ntmps26
    go_wp2_with fail
    refine (A.out ()).mono ?_
    rintro e w1 ⟨rfl, m1⟩
    have M1 : Hid (Sm w1 w) := m1
    obtain ⟨c0, c1, f0, f1, t0⟩ := K.out w1 m1
    have T0 : Hid (ST _ s 0 0) := t0
    clear m1 t0
    go_wp2
    go_ret
    exact ⟨rfl, T0.out, M1.out.fr (((Fr.refl _ _ _).setCell (Or.inr (by simp)) _).setCell (Or.inr (by simp)) _)⟩

set_option maxHeartbeats 1000000 in
theorem tack_any {s l h : Nat} (c : Int) (w : World) (q : ST w s l h) :
    Calls Try.prog 24 #[.pointer (some ⟨s, 0, none⟩), .int .i64 c] w fun e w' => e = .returned (.int .i64 (acE l c)) ∧ ST w' s (acL l c) (acH l h c) ∧ Fr w.heap.size [s] w w' := by
  have A : Hid (∀ _ : Unit, _) := fun _ => tmust_any c w q
  have HS : Hid (ST w s l h) := q
  cases e : tb l c
  · rw [e] at A
    rw [show acE l c = 6 by simp [acE, e], show acL l c = l by simp [acL, e], show acH l h c = h by simp [acH, e]]
    clear q e
    go_enter Try.func24, Try.ntmps24
    go_wp2_with fail
    refine (A.out ()).mono ?_
    rintro e w1 ⟨rfl, m1⟩
    have M1 : Hid (Sm w1 w) := m1
    clear m1
    go_wp2
    go_ret
    exact ⟨rfl, HS.out.heap M1.out.1, M1.out.fr (Fr.refl _ _ _)⟩
  · rw [e] at A
    rw [show acE l c = 0 by simp [acE, e], show acL l c = nt l (bv c) by simp [acL, e], show acH l h c = h ||| bv c by simp [acH, e]]
    have C1 : Hid (∀ w, _) := fun w => kless_any l c w q.w2.1
    have C2 : Hid (∀ v w, Row w v [c] → _) := fun v w r => kwith_any h [c] v w q.w2.2 (by simp) r
    have ew : wl h [c] = h ||| bv c := rfl
    rw [ew] at C2
    have K : Hid (∀ w1, Sm w1 w → w1.cell? ⟨s, 0, none⟩ = some (.int .u64 (l : Int)) ∧ w1.frozen? ⟨s, 0, none⟩ = false ∧ ST (w1.setCell ⟨s, 0, none⟩ (.int .u64 (nt l (bv c) : Nat))) s (nt l (bv c)) h) := fun w1 e => ⟨(q.heap e.1).c0, (q.heap e.1).f0, st_l (q.heap e.1) _ (nt_lt _ _)⟩
    have hx := or_lt q.w2.2 (bv_lt c)
    have HX : Hid (h ||| bv c < 18446744073709551616) := hx
    generalize h ||| bv c = y at *
    generalize nt l (bv c) = x at *
    clear q e ew hx
    go_enter Try.func24, Try.ntmps24
    go_wp2_with fail
    refine (A.out ()).mono ?_
    rintro e w1 ⟨rfl, m1⟩
    have M1 : Hid (Sm w1 w) := m1
    obtain ⟨c0, f0, t0⟩ := K.out w1 m1
    have T0 : Hid (ST _ s x h) := t0
    clear m1 t0
    go_wp2_with fail
    refine (C1.out _).mono ?_
    rintro e w2 ⟨rfl, rfl⟩
    have c1 := T0.out.c1
    have t1 : ST ((w2.setCell ⟨s, 0, none⟩ (.int .u64 (x : Int))).alloc (.cells #[.int .i64 c] 3)) s x h := T0.out.keep (S := []) (B := (w2.setCell ⟨s, 0, none⟩ (.int .u64 (x : Int))).heap.size) ((Fr.refl _ _ _).alloc (Nat.le_refl _) _) T0.out.sb.lt (by simp)
    have T1 : Hid (ST _ s x h) := t1
    have c2 := t1.c1
    have f2 := t1.f1
    have RW : Hid (Row ((w2.setCell ⟨s, 0, none⟩ (.int .u64 (x : Int))).alloc (.cells #[.int .i64 c] 3)) (.slice (some ⟨(w2.setCell ⟨s, 0, none⟩ (.int .u64 (x : Int))).heap.size, 0, none⟩) 1 1) [c]) := row_of_blk (xs := [c]) (Blk.new _ [.int .i64 c] 3) 1
    clear t1
    go_wp2_with fail
    refine (C2.out _ _ ?_).mono ?_
    · have := RW.out; simpa using this
    rintro e w3 ⟨rfl, rfl⟩
    have T3 : Hid (ST _ s x y) := st_h T1.out y HX.out
    go_wp2
    go_ret
    exact ⟨rfl, T3.out, M1.out.fr ((((Fr.refl _ _ _).setCell (Or.inr (by simp)) _).alloc (by simp [M1.out.1]) _).setCell (Or.inr (by simp)) _)⟩
end Go.Proofs.Ytbmdfoohabipjaa
