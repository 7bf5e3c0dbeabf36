/- Contracts of the program's layers, as far as this claim needs them. -/
import Derived.Test.YtmkboahjkhkefaaGreatDoorRows
import Derived.Test.YtmkboahjkhkefaaGreatDoorQXb
import Derived.WalkKit
import Derived.ProofKit
import Derived.OpenShut
import Derived.BigQuiet
import Derived.Deep.RegionHeld3
set_option linter.unusedVariables false
set_option linter.unusedSimpArgs false
namespace Go.Proofs.YtmkboahjkhkefaaGreatDoor.Ek
open Mm
def onB (l h : Nat) : Bool := !(l ||| h == 0)
def beE (l h x : Nat) : Int := if onB l h = true then 7 else if x = 0 then 2 else 0
def beL (l h x : Nat) : Nat := if beE l h x = 0 then x else l
def acL (l : Nat) (c : Int) : Nat := if tb l c = true then nt l (bv c) else l
def acH (l h : Nat) (c : Int) : Nat := if tb l c = true then h ||| bv c else h
def rdB (l h : Nat) : Bool := onB l h && l == 0
def W2 (l h : Nat) : Prop := l < 18446744073709551616 ∧ h < 18446744073709551616
section
variable {l h m k : Nat} {on : Bool}
end
end Go.Proofs.YtmkboahjkhkefaaGreatDoor.Ek
namespace Go.Proofs.YtmkboahjkhkefaaGreatDoor.Stp
open Go.ChangeShapes Go.WideShapes Go.ChangeAt Go.RowKit
open Mm Ek
structure ST (w : World) (s l h : Nat) : Prop where
  sb : Blk w s [.int .u64 (l : Int), .int .u64 (h : Int)] 92
  w2 : W2 l h
section
variable {w w1 : World} {s l h : Nat}
theorem ST.c0 (q : ST w s l h) : w.cell? ⟨s, 0, none⟩ = some (.int .u64 (l : Int)) := q.sb.cell 0
theorem ST.c1 (q : ST w s l h) : w.cell? ⟨s, 1, none⟩ = some (.int .u64 (h : Int)) := q.sb.cell 1
theorem ST.keep {B : Nat} {S : List Nat} (q : ST w s l h) (k : Fr B S w w1) (hb : s < B) (hs : s ∉ S) : ST w1 s l h := ⟨q.sb.keep k hb hs, q.w2⟩
end
set_option maxHeartbeats 400000 in
theorem tasks_any {s l h : Nat} (w : World) (q : ST w s l h) :
    Calls Tryz.prog 191 #[.pointer (some ⟨s, 0, none⟩)] w fun e w' => e = .returned (.tuple #[.func (.func 13) #[.int .u64 (l : Int)] #[], .func (.func 13) #[.int .u64 (h : Int)] #[]]) ∧ Sm w' w := by
  have c0 := q.c0
  have c1 := q.c1
  clear q
  go_enter Tryz.func191, Tryz.ntmps191
  go_wp2_with fail
  go_quiet (fail)
  go_wp2
  go_ret2
  exact ⟨rfl, rfl, rfl, rfl, rfl⟩
set_option maxHeartbeats 400000 in
theorem tmust_any {s l h : Nat} (c : Int) (w : World) (q : ST w s l h) :
    Calls Tryz.prog 124 #[.pointer (some ⟨s, 0, none⟩), .int .i64 c] w fun e w' => e = .returned (.bool (tb l c)) ∧ Sm w' w := by
  have A : Hid (∀ _ : Unit, _) := fun _ => tasks_any w q
  have C : Hid (∀ w, _) := fun w => khas_any l c w q.w2.1
  generalize tb l c = y at *
  clear q
  go_enter Tryz.func124, Tryz.ntmps124
  go_wp2_with fail
  refine (A.out ()).mono ?_
  rintro e w1 ⟨rfl, m1⟩
  have M1 : Hid (Sm w1 w) := m1
  clear m1
  go_wp2_with fail
  refine (C.out _).mono ?_
  rintro e w' ⟨rfl, rfl⟩
  go_wp2
  go_ret
  exact ⟨rfl, M1.out⟩
set_option maxHeartbeats 400000 in
theorem theld_any {s l h : Nat} (c : Int) (w : World) (q : ST w s l h) :
    Calls Tryz.prog 125 #[.pointer (some ⟨s, 0, none⟩), .int .i64 c] w fun e w' => e = .returned (.bool (tb h c)) ∧ Sm w' w := by
  have A : Hid (∀ _ : Unit, _) := fun _ => tasks_any w q
  have C : Hid (∀ w, _) := fun w => khas_any h c w q.w2.2
  generalize tb h c = y at *
  clear q
  go_enter Tryz.func125, Tryz.ntmps125
  go_wp2_with fail
  refine (A.out ()).mono ?_
  rintro e w1 ⟨rfl, m1⟩
  have M1 : Hid (Sm w1 w) := m1
  clear m1
  go_wp2_with fail
  refine (C.out _).mono ?_
  rintro e w' ⟨rfl, rfl⟩
  go_wp2
  go_ret
  exact ⟨rfl, M1.out⟩
end Go.Proofs.YtmkboahjkhkefaaGreatDoor.Stp
