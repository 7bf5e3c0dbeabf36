/- The texts Ek El of one layer, laid together. -/
import Derived.Test.YtfipiifickdeiaaGreatDoorRows
import Derived.Test.YtfipiifickdeiaaGreatDoorXb
import Derived.WalkKit
import Derived.ProofKit
import Derived.OpenShut
import Derived.BigQuiet
import Derived.Deep.RegionHeld3
namespace Go.Proofs.YtfipiifickdeiaaGreatDoor.Ek
open Mm
/-- It has begun while there is a core in either set. -/
def onB (l h : Nat) : Bool := !(l ||| h == 0)
def beE (l h x : Nat) : Int := if onB l h = true then 7 else if x = 0 then 2 else 0
def beL (l h x : Nat) : Nat := if beE l h x = 0 then x else l
def acL (l : Nat) (c : Int) : Nat := if tb l c = true then nt l (bv c) else l
def acH (l h : Nat) (c : Int) : Nat := if tb l c = true then h ||| bv c else h
def rdB (l h : Nat) : Bool := onB l h && l == 0
/-- Sets of cores 0 to 63. -/
def W2 (l h : Nat) : Prop := l < 18446744073709551616 ∧ h < 18446744073709551616
/-- The document's: it has begun, for those of m, of whom those of k stand still. -/
structure Rel (l h : Nat) (on : Bool) (m k : Nat) : Prop where
  off : on = false → l = 0 ∧ h = 0
  is : on = true → l = nt m k ∧ h = k ∧ m ≠ 0 ∧ ∀ i, k.testBit i = true → m.testBit i = true
  wm : m < 18446744073709551616
  wk : k < 18446744073709551616
section
variable {l h m k : Nat} {on : Bool}
theorem Rel.w2 (r : Rel l h on m k) : W2 l h := by
  cases on
  · obtain ⟨rfl, rfl⟩ := r.off rfl
    exact ⟨by omega, by omega⟩
  · obtain ⟨rfl, rfl, _⟩ := r.is rfl
    exact ⟨nt_lt _ _, r.wk⟩
theorem Rel.held (r : Rel l h on m k) (c : Int) : tb h c = (on && tb k c) := by
  cases on
  · obtain ⟨rfl, rfl⟩ := r.off rfl
    simp [tb]
  · obtain ⟨_, rfl, _⟩ := r.is rfl
    rw [Bool.true_and]
theorem Rel.left (r : Rel l h on m k) : l = if on then nt m k else 0 := by
  cases on
  · exact (r.off rfl).1
  · exact (r.is rfl).1
end
end Go.Proofs.YtfipiifickdeiaaGreatDoor.Ek
namespace Go.Proofs.YtfipiifickdeiaaGreatDoor.Stp
open Go.ChangeShapes Go.WideShapes Go.ChangeAt Go.RowKit
open Mm Ek
/-- A stop at block s: those that are to and do not yet, and those that do. -/
structure ST (w : World) (s l h : Nat) : Prop where
  sb : Blk w s [.int .u64 (l : Int), .int .u64 (h : Int)] 73
  w2 : W2 l h
section
variable {w w1 : World} {s l h : Nat}
theorem ST.c0 (q : ST w s l h) : w.cell? ⟨s, 0, none⟩ = some (.int .u64 (l : Int)) := q.sb.cell 0
theorem ST.c1 (q : ST w s l h) : w.cell? ⟨s, 1, none⟩ = some (.int .u64 (h : Int)) := q.sb.cell 1
theorem ST.f1 (q : ST w s l h) : w.frozen? ⟨s, 1, none⟩ = false := q.sb.free 1
theorem ST.heap (q : ST w s l h) (e : w1.heap = w.heap) : ST w1 s l h := ⟨q.sb.heap e, q.w2⟩
theorem ST.keep {B : Nat} {S : List Nat} (q : ST w s l h) (k : Fr B S w w1) (hb : s < B) (hs : s ∉ S) : ST w1 s l h := ⟨q.sb.keep k hb hs, q.w2⟩
end
set_option maxHeartbeats 400000 in
theorem ton_any {s l h : Nat} (w : World) (q : ST w s l h) :
    Calls Tryz.prog 298 #[.pointer (some ⟨s, 0, none⟩)] w fun e w' => e = .returned (.bool (onB l h)) ∧ Sm w' w := by
  have c0 := q.c0
  have c1 := q.c1
  have C : Hid (∀ w, _) := fun w => kor_any l h w q.w2.1 q.w2.2
  have hz : (((l ||| h : Nat) : Int) != 0) = onB l h := by
    unfold onB
    cases e : (l ||| h == 0)
    · have : (l ||| h) ≠ 0 := by simpa using e
      have : ((l ||| h : Nat) : Int) ≠ 0 := by omega
      simpa using this
    · have : (l ||| h) = 0 := by simpa using e
      simp [this]
  generalize l ||| h = x at *
  generalize onB l h = y at *
  clear q
  go_enter Tryz.func298, Tryz.ntmps298
  go_wp2_with fail
  go_region_held3 (fun w' => w'.cell? ⟨s, 0, none⟩ = some (.int .u64 (l : Int)) ∧ w'.cell? ⟨s, 1, none⟩ = some (.int .u64 (h : Int))) (go_keep)
    (first | (go_at_call 336; refine (C.out _).mono ?_; rintro e w' ⟨rfl, rfl⟩))
  go_wp2
  go_ret
  exact ⟨rfl, rfl, rfl, rfl, rfl⟩
set_option maxHeartbeats 400000 in
theorem tasks_any {s l h : Nat} (w : World) (q : ST w s l h) :
    Calls Tryz.prog 170 #[.pointer (some ⟨s, 0, none⟩)] w fun e w' => e = .returned (.tuple #[.func (.func 107) #[.int .u64 (l : Int)] #[], .func (.func 107) #[.int .u64 (h : Int)] #[]]) ∧ Sm w' w := by
  have c0 := q.c0
  have c1 := q.c1
  clear q
  go_enter Tryz.func170, Tryz.ntmps170
  go_wp2_with fail
  go_quiet (fail)
  go_wp2
  go_ret2
  exact ⟨rfl, rfl, rfl, rfl, rfl⟩
set_option maxHeartbeats 400000 in
theorem tmust_any {s l h : Nat} (c : Int) (w : World) (q : ST w s l h) :
    Calls Tryz.prog 104 #[.pointer (some ⟨s, 0, none⟩), .int .i64 c] w fun e w' => e = .returned (.bool (tb l c)) ∧ Sm w' w := by
  have A : Hid (∀ _ : Unit, _) := fun _ => tasks_any w q
  have C : Hid (∀ w, _) := fun w => khas_any l c w q.w2.1
  generalize tb l c = y at *
  clear q
  go_enter Tryz.func104, Tryz.ntmps104
  go_wp2_with fail
  refine (A.out ()).mono ?_
  rintro e w1 ⟨rfl, m1⟩
  have M1 : Hid (Sm w1 w) := m1
  clear m1
  go_wp2_with fail
  refine (C.out _).mono ?_
  rintro e w' ⟨rfl, rfl⟩
  go_wp2
  go_ret
  exact ⟨rfl, M1.out⟩
set_option maxHeartbeats 400000 in
theorem theld_any {s l h : Nat} (c : Int) (w : World) (q : ST w s l h) :
    Calls Tryz.prog 105 #[.pointer (some ⟨s, 0, none⟩), .int .i64 c] w fun e w' => e = .returned (.bool (tb h c)) ∧ Sm w' w := by
  have A : Hid (∀ _ : Unit, _) := fun _ => tasks_any w q
  have C : Hid (∀ w, _) := fun w => khas_any h c w q.w2.2
  generalize tb h c = y at *
  clear q
  go_enter Tryz.func105, Tryz.ntmps105
  go_wp2_with fail
  refine (A.out ()).mono ?_
  rintro e w1 ⟨rfl, m1⟩
  have M1 : Hid (Sm w1 w) := m1
  clear m1
  go_wp2_with fail
  refine (C.out _).mono ?_
  rintro e w' ⟨rfl, rfl⟩
  go_wp2
  go_ret
  exact ⟨rfl, M1.out⟩
set_option maxHeartbeats 400000 in
theorem tready_any {s l h : Nat} (w : World) (q : ST w s l h) :
    Calls Tryz.prog 300 #[.pointer (some ⟨s, 0, none⟩)] w fun e w' => e = .returned (.bool (rdB l h)) ∧ Sm w' w := by
  have A : Hid (∀ _ : Unit, _) := fun _ => ton_any w q
  have K : Hid (∀ w1, Sm w1 w → w1.cell? ⟨s, 0, none⟩ = some (.int .u64 (l : Int))) := fun w1 e => (q.heap e.1).c0
  have hz : ((l : Int) == 0) = (l == 0) := by
    cases e : (l == 0)
    · have : l ≠ 0 := by simpa using e
      have : (l : Int) ≠ 0 := by omega
      simpa using this
    · have : l = 0 := by simpa using e
      simp [this]
  unfold rdB
  generalize (l == 0) = y at *
  cases e : onB l h
  · rw [e] at A
    rw [Bool.false_and]
    clear q e
    go_enter Tryz.func300, Tryz.ntmps300
    go_wp2_with fail
    refine (A.out ()).mono ?_
    rintro e w1 ⟨rfl, m1⟩
    have M1 : Hid (Sm w1 w) := m1
    clear m1
    go_wp2
    go_ret
    exact ⟨rfl, M1.out⟩
  · rw [e] at A
    rw [Bool.true_and]
    clear q e
    go_enter Tryz.func300, Tryz.ntmps300
    go_wp2_with fail
    refine (A.out ()).mono ?_
    rintro e w1 ⟨rfl, m1⟩
    have M1 : Hid (Sm w1 w) := m1
    have c0 := K.out w1 m1
    clear m1
    go_wp2
    go_ret
    exact ⟨rfl, M1.out⟩
end Go.Proofs.YtfipiifickdeiaaGreatDoor.Stp
