/- Scripts as bytes: how many cores there may be; a script's bytes. -/
import Derived.Test.YtmlilgbochbbiaaGreatDoorRows
import Derived.Test.YtmlilgbochbbiaaGreatDoorYr
import Derived.WalkKit
import Derived.ProofKit
import Derived.OpenShut
import Derived.BigQuiet
import Derived.Lib.SmallJoins
namespace Go.Proofs.YtmlilgbochbbiaaGreatDoor.Scr
open Go.ChangeShapes Go.WideShapes Go.ChangeAt Go.RowKit
open Wir Wi0
set_option linter.unusedVariables false
set_option linter.unusedSimpArgs false
set_option maxRecDepth 100000

def okc (c : Int) : Bool := decide (1 ≤ c) && decide (c ≤ 64)
theorem isc_any (n : Int) (w : World) : Calls Tryz.prog 24 #[.int .i64 n] w fun e w' => e = .returned (.bool (okc n)) ∧ w' = w := by
  unfold okc
  by_cases h1 : 1 ≤ n
  · by_cases h2 : n ≤ 64
    · rw [decide_eq_true h1, decide_eq_true h2]
      go_enter Tryz.func24, Tryz.ntmps24
      go_wp2
      go_ret
      exact ⟨rfl, rfl⟩
    · rw [decide_eq_true h1, decide_eq_false h2]
      go_enter Tryz.func24, Tryz.ntmps24
      go_wp2
      go_ret
      exact ⟨rfl, rfl⟩
  · rw [decide_eq_false h1, Bool.false_and]
    go_enter Tryz.func24, Tryz.ntmps24
    go_wp2
    go_ret
    exact ⟨rfl, rfl⟩

/-- Why a script of c cores and n events can not be. -/
def fx (c : Int) (n : Nat) : Int := if okc c = true then (if 600 < n then 15 else 0) else 2

set_option maxHeartbeats 1000000 in
theorem fits_any (c : Int) (a : Option Addr) (n cap : Nat) (w : World) :
    Calls Tryz.prog 19 #[.agg #[.int .i64 c, .slice a n cap]] w fun e w' => e = .returned (.int .i64 (fx c n)) ∧ Below w.heap.size w w' := by
  have C : Hid (∀ w, _) := fun w => isc_any c w
  have BA : Hid (Below w.heap.size w (w.alloc (.cells #[.int .i64 c, .slice a n cap] 30))) := (Below.refl _ _).alloc (Nat.le_refl _) _
  unfold fx
  cases hc : okc c with
  | false =>
    rw [hc] at C
    simp only [if_neg (show ¬ (false = true) by decide)]
    go_enter Tryz.func19, Tryz.ntmps19
    go_wp2_with fail
    refine (C.out _).mono ?_
    rintro e u ⟨rfl, rfl⟩
    go_wp2
    go_ret
    exact ⟨rfl, BA.out⟩
  | true =>
    rw [hc] at C
    simp only [if_true]
    by_cases h : 600 < n
    · rw [if_pos h]
      have h2 : (600 : Int) < (n : Int) := by omega
      go_enter Tryz.func19, Tryz.ntmps19
      go_wp2_with fail
      refine (C.out _).mono ?_
      rintro e u ⟨rfl, rfl⟩
      go_wp2
      go_ret
      exact ⟨rfl, BA.out⟩
    · rw [if_neg h]
      have h2 : ¬ (600 : Int) < (n : Int) := by omega
      have h3 : decide ((600 : Int) < (n : Int)) = false := decide_eq_false h2
      go_enter Tryz.func19, Tryz.ntmps19
      go_wp2_with fail
      refine (C.out _).mono ?_
      rintro e u ⟨rfl, rfl⟩
      go_wp2
      go_ret
      exact ⟨rfl, BA.out⟩

theorem bg_new (w : World) (x : Nat) : BG w (w.alloc (.cells #[.int .u8 (x : Nat)] 5)) (.slice (some ⟨w.heap.size, 0, none⟩) 1 1) [x] :=
  ⟨⟨rfl, Or.inr ⟨w.heap.size, 1, #[.int .u8 (x : Nat)], rfl, Nat.le_refl _, heap_alloc_new w _, by first | decide | simp, by first | decide | simp, by simp, rfl⟩⟩, (Below.refl _ _).alloc (Nat.le_refl _) _⟩

/-- What a script's bytes are, or why there are none. -/
def putS (c : Int) (Y : List Ev) : Int := if fx c Y.length ≠ 0 then fx c Y.length else if Y.all (fun e => okk e.kind) = true then 0 else 2
def PutP (c : Int) (Y : List Ev) (w w' : World) (v : Value) (y : Int) : Prop :=
  y = putS c Y ∧ Below w.heap.size w w' ∧ ((y = 0 ∧ BG w w' v (c.toNat :: Y.flatMap putE)) ∨ (y ≠ 0 ∧ v = .slice none 0 0))

theorem putE_bad {e : Ev} (h : okk e.kind = false) : putE e = [] := by unfold putE; rw [h]; rfl
theorem putE_pos {e : Ev} (h : okk e.kind = true) : (1 : Int) ≤ ((putE e).length : Int) := by unfold putE; rw [h]; simp; omega
theorem all_take (Y : List Ev) (k : Nat) (h : k < Y.length) : (Y.take (k + 1)).all (fun e => okk e.kind) = ((Y.take k).all (fun e => okk e.kind) && okk (Y.getD k z5).kind) := by
  rw [List.take_add_one, List.all_append, List.getElem?_eq_getElem h, List.getD_eq_getElem?_getD, List.getElem?_eq_getElem h]
  simp
theorem all_bad (Y : List Ev) (k : Nat) (h : k < Y.length) (hb : okk (Y.getD k z5).kind = false) : Y.all (fun e => okk e.kind) = false := by
  rw [List.getD_eq_getElem?_getD, List.getElem?_eq_getElem h] at hb
  rw [List.all_eq_false]
  exact ⟨Y[k], List.getElem_mem h, by simpa using hb⟩
end Go.Proofs.YtmlilgbochbbiaaGreatDoor.Scr
