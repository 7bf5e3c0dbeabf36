/- The document's stop as it lies in memory (davitref20); what its calls answer and leave, for every one. -/
import Derived.Test.YtbmdfoohabipjaaRows
import Derived.Test.YtbmdfoohabipjaaEk
import Derived.Test.YtbmdfoohabipjaaKd
import Derived.Test.YtbmdfoohabipjaaKo
import Derived.Test.YtbmdfoohabipjaaFg
import Derived.WalkKit
import Derived.ProofKit
import Derived.OpenShut
import Derived.BigQuiet
import Derived.Deep.RegionHeld3
namespace Go.Proofs.Ytbmdfoohabipjaa
open Go.ChangeShapes Go.WideShapes Go.ChangeAt Go.RowKit
open Mm Ek

/-- The document's stop at block r. -/
structure DS (w : World) (r : Nat) (on : Bool) (m k : Nat) : Prop where
  sb : Blk w r [.bool on, .int .u64 (m : Int), .int .u64 (k : Int)] 52
  wm : m < 18446744073709551616
  wk : k < 18446744073709551616

section
variable {w w1 : World} {r m k : Nat} {on : Bool}
theorem DS.c0 (q : DS w r on m k) : w.cell? ⟨r, 0, none⟩ = some (.bool on) := q.sb.cell 0
theorem DS.c1 (q : DS w r on m k) : w.cell? ⟨r, 1, none⟩ = some (.int .u64 (m : Int)) := q.sb.cell 1
theorem DS.c2 (q : DS w r on m k) : w.cell? ⟨r, 2, none⟩ = some (.int .u64 (k : Int)) := q.sb.cell 2
theorem DS.keep {B : Nat} {S : List Nat} (q : DS w r on m k) (f : Fr B S w w1) (hb : r < B) (hs : r ∉ S) : DS w1 r on m k := ⟨q.sb.keep f hb hs, q.wm, q.wk⟩
end

set_option maxHeartbeats 400000 in
theorem dmust_any {r m k : Nat} {on : Bool} (c : Int) (w : World) (q : DS w r on m k) :
    Calls Try.prog 30 #[.pointer (some ⟨r, 0, none⟩), .int .i64 c] w fun e w' => e = .returned (.bool (on && tb m c && !tb k c)) ∧ w' = w := by
  have c0 := q.c0
  have c1 := q.c1
  have c2 := q.c2
  have C1 : Hid (∀ w, _) := fun w => krefhas_any m c w q.wm
  have C2 : Hid (∀ w, _) := fun w => krefhas_any k c w q.wk
  clear q
  cases on
  · rw [Bool.false_and, Bool.false_and]
    go_enter Try.func30, Try.ntmps30
    go_wp2
    go_ret
    exact ⟨rfl, rfl⟩
  · rw [Bool.true_and]
    cases e : tb m c
    · rw [e] at C1
      rw [Bool.false_and]
      clear e C2
      go_enter Try.func30, Try.ntmps30
      go_wp2_with fail
      refine (C1.out _).mono ?_
      rintro e w1 ⟨rfl, rfl⟩
      go_wp2
      go_ret
      exact ⟨rfl, rfl⟩
    · rw [e] at C1
      rw [Bool.true_and]
      generalize tb k c = y at *
      clear e
      go_enter Try.func30, Try.ntmps30
      go_wp2_with fail
      refine (C1.out _).mono ?_
      rintro e w1 ⟨rfl, rfl⟩
      go_wp2_with fail
      refine (C2.out _).mono ?_
      rintro e w1 ⟨rfl, rfl⟩
      go_wp2
      go_ret
      exact ⟨rfl, rfl⟩
set_option maxHeartbeats 400000 in
theorem dholds_any {r m k : Nat} {on : Bool} (c : Int) (w : World) (q : DS w r on m k) :
    Calls Try.prog 32 #[.pointer (some ⟨r, 0, none⟩), .int .i64 c] w fun e w' => e = .returned (.bool (on && tb k c)) ∧ w' = w := by
  have c0 := q.c0
  have c2 := q.c2
  have C2 : Hid (∀ w, _) := fun w => krefhas_any k c w q.wk
  clear q
  cases on
  · rw [Bool.false_and]
    go_enter Try.func32, Try.ntmps32
    go_wp2
    go_ret
    exact ⟨rfl, rfl⟩
  · rw [Bool.true_and]
    generalize tb k c = y at *
    go_enter Try.func32, Try.ntmps32
    go_wp2_with fail
    refine (C2.out _).mono ?_
    rintro e w1 ⟨rfl, rfl⟩
    go_wp2
    go_ret
    exact ⟨rfl, rfl⟩
set_option maxRecDepth 100000 in
set_option maxHeartbeats 400000 in
theorem dleft_any {r m k : Nat} {on : Bool} (w : World) (q : DS w r on m k) :
    Calls Try.prog 36 #[.pointer (some ⟨r, 0, none⟩)] w fun e w' => e = .returned (.int .u64 ((if on then nt m k else 0 : Nat) : Int)) ∧ Below w.heap.size w w' := by
  have c0 := q.c0
  have c1 := q.c1
  have c2 := q.c2
  have C : Hid (∀ w, _) := fun w => krefnot_any m k w q.wm q.wk
  cases on
  · rw [if_neg (by simp)]
    clear q
    go_enter Try.func36, Try.ntmps36
    go_wp2
    go_ret
    exact ⟨rfl, Below.refl _ _⟩
  · rw [if_pos rfl]
    have KS : Hid (∀ w1 w2 : World, Sm w1 w → Below w1.heap.size w1 w2 → w2.cell? ⟨r, 1, none⟩ = some (.int .u64 (m : Int)) ∧ w2.cell? ⟨r, 2, none⟩ = some (.int .u64 (k : Int)) ∧ Below w.heap.size w w2) := fun w1 w2 e b => by
      have b2 : Below w.heap.size w w2 := by have := e.from b; rwa [e.1] at this
      have q2 := q.keep (Fr.of_below b2) q.sb.lt (by simp)
      exact ⟨q2.c1, q2.c2, b2⟩
    generalize nt m k = y at *
    clear q
    go_enter Try.func36, Try.ntmps36
    go_wp2_with fail
    go_region_held3 (fun w' => w'.cell? ⟨r, 1, none⟩ = some (.int .u64 (m : Int)) ∧ w'.cell? ⟨r, 2, none⟩ = some (.int .u64 (k : Int))) (go_keep)
      (first | (go_at_call 54; refine (C.out _).mono ?_; rintro e w2 ⟨rfl, b2⟩; obtain ⟨d1, d2, b3⟩ := KS.out _ w2 (by exact ⟨rfl, rfl, rfl, rfl⟩) b2; have B3 : Hid (Below w.heap.size w w2) := b3; clear b2 b3))
    go_wp2
    go_ret
    exact ⟨rfl, B3.out⟩
set_option maxHeartbeats 400000 in
theorem dready_any {r m k : Nat} {on : Bool} (w : World) (q : DS w r on m k) :
    Calls Try.prog 34 #[.pointer (some ⟨r, 0, none⟩)] w fun e w' => e = .returned (.bool (on && (if on then nt m k else 0) == 0)) ∧ Below w.heap.size w w' := by
  have c0 := q.c0
  have C : Hid (∀ _ : Unit, _) := fun _ => dleft_any w q
  clear q
  cases on
  · rw [Bool.false_and]
    go_enter Try.func34, Try.ntmps34
    go_wp2
    go_ret
    exact ⟨rfl, Below.refl _ _⟩
  · rw [if_pos rfl] at C ⊢
    rw [Bool.true_and]
    generalize nt m k = x at *
    have hz : ((x : Int) == 0) = (x == 0) := by
      cases e : (x == 0)
      · have : x ≠ 0 := by simpa using e
        have : (x : Int) ≠ 0 := by omega
        simpa using this
      · have : x = 0 := by simpa using e
        simp [this]
    generalize (x == 0) = y at *
    go_enter Try.func34, Try.ntmps34
    go_wp2_with fail
    refine (C.out ()).mono ?_
    rintro e w1 ⟨rfl, b1⟩
    have B1 : Hid (Below w.heap.size w w1) := b1
    clear b1
    go_wp2
    go_ret
    exact ⟨rfl, B1.out⟩
set_option maxHeartbeats 400000 in
theorem dbegin_any {r m k : Nat} {on : Bool} (x : Nat) (hx : x < 18446744073709551616) (w : World) (q : DS w r on m k) :
    Calls Try.prog 23 #[.pointer (some ⟨r, 0, none⟩), .int .u64 (x : Int)] w fun e w' => (on = true → e = .returned (.int .i64 7) ∧ w' = w) ∧ (on = false → x = 0 → e = .returned (.int .i64 2) ∧ w' = w) ∧ (on = false → x ≠ 0 → e = .returned (.int .i64 0) ∧ DS w' r true x 0 ∧ Fr w.heap.size [r] w w') := by
  have c0 := q.c0
  have c1 := q.c1
  have c2 := q.c2
  have f0 : w.frozen? ⟨r, 0, none⟩ = false := q.sb.free 0
  have f1 : w.frozen? ⟨r, 1, none⟩ = false := q.sb.free 1
  have f2 : w.frozen? ⟨r, 2, none⟩ = false := q.sb.free 2
  have Q3 : Hid (DS (((w.setCell ⟨r, 0, none⟩ (.bool true)).setCell ⟨r, 1, none⟩ (.int .u64 (x : Int))).setCell ⟨r, 2, none⟩ (.int .u64 0)) r true x 0) := ⟨((q.sb.set 0 _).set 1 _).set 2 _, hx, by omega⟩
  cases on
  · by_cases z : x = 0
    · subst z
      clear q hx
      go_enter Try.func23, Try.ntmps23
      go_wp2
      go_ret
      exact ⟨fun e => (by simp at e), fun _ _ => ⟨rfl, rfl⟩, fun _ n => absurd rfl n⟩
    · have Z : Hid (x ≠ 0) := z
      have z2 : ((x : Int) == 0) = false := by
        have : (x : Int) ≠ 0 := by omega
        simpa using this
      clear q hx z
      go_enter Try.func23, Try.ntmps23
      go_wp2
      go_ret
      exact ⟨fun e => (by simp at e), fun _ n => absurd n Z.out, fun _ _ => ⟨rfl, Q3.out, (((Fr.refl _ _ _).setCell (Or.inr (by simp)) _).setCell (Or.inr (by simp)) _).setCell (Or.inr (by simp)) _⟩⟩
  · clear q hx
    go_enter Try.func23, Try.ntmps23
    go_wp2
    go_ret
    exact ⟨fun _ => ⟨rfl, rfl⟩, fun e => (by simp at e), fun e => (by simp at e)⟩
set_option maxHeartbeats 400000 in
theorem dfree_any {r m k : Nat} {on : Bool} (w : World) (q : DS w r on m k) :
    Calls Try.prog 27 #[.pointer (some ⟨r, 0, none⟩)] w fun e w' => e = .returned (.int .i64 (if on then 0 else 6)) ∧ DS w' r false m k ∧ Fr w.heap.size [r] w w' := by
  have c0 := q.c0
  have f0 : w.frozen? ⟨r, 0, none⟩ = false := q.sb.free 0
  have HS : Hid (DS w r on m k) := q
  have Q1 : Hid (DS (w.setCell ⟨r, 0, none⟩ (.bool false)) r false m k) := ⟨q.sb.set 0 _, q.wm, q.wk⟩
  clear q
  cases on
  · rw [if_neg (by simp)]
    go_enter Try.func27, Try.ntmps27
    go_wp2
    go_ret
    exact ⟨rfl, HS.out, Fr.refl _ _ _⟩
  · rw [if_pos rfl]
    go_enter Try.func27, Try.ntmps27
    go_wp2
    go_ret
    exact ⟨rfl, Q1.out, (Fr.refl _ _ _).setCell (Or.inr (by simp)) _⟩
set_option maxHeartbeats 400000 in
theorem dack_any {r m k : Nat} {on : Bool} (c : Int) (w : World) (q : DS w r on m k) :
    Calls Try.prog 25 #[.pointer (some ⟨r, 0, none⟩), .int .i64 c] w fun e w' => e = .returned (.int .i64 (if on && tb m c && !tb k c then 0 else 6)) ∧ DS w' r on m (if on && tb m c && !tb k c then k ||| bv c else k) ∧ Fr w.heap.size [r] w w' := by
  have A : Hid (∀ _ : Unit, _) := fun _ => dmust_any c w q
  have c2 := q.c2
  have f2 : w.frozen? ⟨r, 2, none⟩ = false := q.sb.free 2
  have HS : Hid (DS w r on m k) := q
  have C : Hid (∀ w, _) := fun w => krefwith_any k c w q.wk
  have Q1 : Hid (DS (w.setCell ⟨r, 2, none⟩ (.int .u64 ((k ||| bv c : Nat) : Int))) r on m (k ||| bv c)) := ⟨q.sb.set 2 _, q.wm, or_lt q.wk (bv_lt c)⟩
  clear q
  generalize (on && tb m c && !tb k c) = t at *
  generalize k ||| bv c = x at *
  cases t
  · rw [if_neg (by simp), if_neg (by simp)]
    go_enter Try.func25, Try.ntmps25
    go_wp2_with fail
    refine (A.out ()).mono ?_
    rintro e w1 ⟨rfl, rfl⟩
    go_wp2
    go_ret
    exact ⟨rfl, HS.out, Fr.refl _ _ _⟩
  · rw [if_pos rfl, if_pos rfl]
    go_enter Try.func25, Try.ntmps25
    go_wp2_with fail
    refine (A.out ()).mono ?_
    rintro e w1 ⟨rfl, rfl⟩
    go_wp2_with fail
    refine (C.out _).mono ?_
    rintro e w1 ⟨rfl, rfl⟩
    go_wp2
    go_ret
    exact ⟨rfl, Q1.out, (Fr.refl _ _ _).setCell (Or.inr (by simp)) _⟩
end Go.Proofs.Ytbmdfoohabipjaa
