/- Contracts of the program's layers, as far as this claim needs them. -/
import Derived.Test.YtmkboahjkhkefaaGreatDoorRows
import Derived.Test.YtmkboahjkhkefaaGreatDoorQXp
import Derived.WalkKit
import Derived.ProofKit
import Derived.OpenShut
import Derived.BigQuiet
import Derived.Laws.Externs
set_option linter.unusedVariables false
set_option linter.unusedSimpArgs false
namespace Go.Proofs.YtmkboahjkhkefaaGreatDoor.Em
open Spl
open Pm
structure Rd (L : List Int) : Prop where
  n1 : 1 ≤ L.length
  n2 : L.length ≤ 64
  nn : ∀ x ∈ L, 0 ≤ x
  le : L.sum ≤ 1000
theorem sum_rep : ∀ m : Nat, (List.replicate m (0 : Int)).sum = 0
  | 0 => by simp
  | m + 1 => by rw [List.replicate_succ, List.sum_cons, sum_rep m]; omega
theorem rd_new (m : Nat) (h1 : 1 ≤ m) (h2 : m ≤ 64) : Rd (List.replicate m 0) :=
  ⟨by simpa using h1, by simpa using h2, fun x hx => by rw [List.eq_of_mem_replicate hx]; omega, by rw [sum_rep]; omega⟩
def enE (st : Int) (L : List Int) (c : Int) : Int := if ic L c = true then if st = 0 then if 1000 ≤ L.sum then 5 else 0 else 7 else 3
def enL (st : Int) (L : List Int) (c : Int) : List Int := if enE st L c = 0 then L.set c.toNat (at' L c + 1) else L
def leE (L : List Int) (c : Int) : Int := if ic L c = true then if at' L c = 0 then 12 else 0 else 3
def leL (L : List Int) (c : Int) : List Int := if leE L c = 0 then L.set c.toNat (at' L c - 1) else L
def waE (st : Int) : Int := if st = 0 then 0 else 7
def waS (st : Int) : Int := if st = 0 then 1 else st
def tkE (st : Int) (L : List Int) : Int := if st = 1 then if 0 < L.sum then 7 else 0 else 6
def tkS (st : Int) (L : List Int) : Int := if tkE st L = 0 then 2 else st
end Go.Proofs.YtmkboahjkhkefaaGreatDoor.Em
namespace Go.Proofs.YtmkboahjkhkefaaGreatDoor.Gat
open Spl
open Go.ChangeShapes Go.WideShapes Go.ChangeAt Go.RowKit
open Pm Em
structure GT (w : World) (b g : Nat) (st : Int) (L : List Int) : Prop where
  sb : Blk w b [.int .i64 st, .slice (some ⟨g, 0, none⟩) L.length L.length] 193
  sg : Blk w g (L.map (Value.int .i64)) 2
  rd : Rd L
section
variable {w w1 : World} {b g : Nat} {st : Int} {L : List Int}
theorem GT.keep {B : Nat} {S : List Nat} (h : GT w b g st L) (k : Fr B S w w1) (hb : b < B ∧ g < B) (hs : b ∉ S ∧ g ∉ S) : GT w1 b g st L :=
  ⟨h.sb.keep k hb.1 hs.1, h.sg.keep k hb.2 hs.2, h.rd⟩
end
set_option maxHeartbeats 400000 in
theorem snew_any (m : Nat) (w : World) (h1 : (1 : Int) ≤ m) (h2 : (m : Int) ≤ 64) :
    Calls Tryz.prog 51 #[.int .i64 (m : Int)] w fun e w' => e = .returned (.tuple #[.pointer (some ⟨w.heap.size + 1, 0, none⟩), .int .i64 0]) ∧ Blk w' (w.heap.size + 1) [.slice (some ⟨w.heap.size, 0, none⟩) m m] 139 ∧ Blk w' w.heap.size ((List.replicate m (0 : Int)).map (Value.int .i64)) 2 ∧ w'.heap.size = w.heap.size + 2 ∧ Fr w.heap.size [] w w' := by
  have hmk := run_make_row' (P := Tryz.prog) 137 2 (.int .i64 0) 8 Tryz.underlying137 Tryz.infoL rfl .i64 .i64 m (by omega) (by omega)
  have F : Hid (∀ o1 o2, Fr w.heap.size [] w ((w.alloc o1).alloc o2)) := fun o1 o2 => ((Fr.refl _ _ _).alloc (Nat.le_refl _) o1).alloc (by simp) o2
  go_enter Tryz.func51, Tryz.ntmps51
  go_wp2
  go_ret2
  refine ⟨rfl, ?_, ?_, by simp, F.out _ _⟩
  · have := Blk.new (w.alloc (Obj.cells (madeCells #[Value.int IntKind.i64 0] m) 2)) [.slice (some ⟨w.heap.size, 0, none⟩) m m] 139
    simpa using this
  · rw [made_int]
    exact (Blk.new w _ 2).alloc _
end Go.Proofs.YtmkboahjkhkefaaGreatDoor.Gat
namespace Go.Proofs.YtmkboahjkhkefaaGreatDoor.Gat
open Spl
open Go.ChangeShapes Go.WideShapes Go.ChangeAt Go.RowKit
open Pm Em
set_option maxHeartbeats 400000 in
theorem gnew_any (m : Nat) (w : World) (h1 : (1 : Int) ≤ m) (h2 : (m : Int) ≤ 64) :
    Calls Tryz.prog 52 #[.int .i64 (m : Int)] w fun e w' => e = .returned (.tuple #[.pointer (some ⟨w.heap.size + 2, 0, none⟩), .int .i64 0]) ∧ GT w' (w.heap.size + 2) w.heap.size 0 (List.replicate m 0) ∧ w'.heap.size = w.heap.size + 3 ∧ Fr w.heap.size [] w w' := by
  have C : Hid (∀ _ : Unit, _) := fun _ => snew_any m w h1 h2
  have G : Hid (Rd (List.replicate m 0)) := rd_new m (by omega) (by omega)
  have LM : Hid ((List.replicate m (0 : Int)).length = m) := List.length_replicate
  obtain ⟨s, hs⟩ : ∃ s, w.heap.size = s := ⟨_, rfl⟩
  have HS : Hid (w.heap.size = s) := hs
  rw [hs] at C ⊢
  clear h1 h2 hs
  go_enter Tryz.func52, Tryz.ntmps52
  go_wp2_with fail
  refine (C.out ()).mono ?_
  rintro e w' ⟨rfl, b1, b2, sz, f⟩
  have c1 : w'.cell? ⟨s + 1, 0, none⟩ = some (.slice (some ⟨s, 0, none⟩) m m) := b1.cell 0
  have B2 : Hid (Blk w' s _ _) := b2
  have SZ : Hid (w'.heap.size = s + 2) := sz
  have F : Hid (Fr s [] w w') := f
  clear b1 b2 f sz C
  go_wp2
  go_ret2
  have sz := SZ.out
  refine ⟨by rw [sz]; rfl, ⟨?_, ?_, G.out⟩, by simp [sz], F.out.alloc (by omega) _⟩
  · rw [LM.out, ← sz]
    exact Blk.new w' [.int .i64 0, .slice (some ⟨s, 0, none⟩) m m] _
  · exact B2.out.alloc _
end Go.Proofs.YtmkboahjkhkefaaGreatDoor.Gat
