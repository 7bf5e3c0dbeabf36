/- The texts Em Ea Eb of one layer, laid together. -/
import Derived.Test.YtfdmcbcomknebaaGreatDoorRows
import Derived.Test.YtfdmcbcomknebaaGreatDoorXp
import Derived.WalkKit
import Derived.ProofKit
import Derived.OpenShut
import Derived.BigQuiet
import Derived.Laws.Externs
namespace Go.Proofs.YtfdmcbcomknebaaGreatDoor.Em
open Spl
open Pm
/-- How many readers each of 1 to 64 cores has: 1000 at most. -/
structure Rd (L : List Int) : Prop where
  n1 : 1 ≤ L.length
  n2 : L.length ≤ 64
  nn : ∀ x ∈ L, 0 ≤ x
  le : L.sum ≤ 1000
theorem sum_nn : ∀ {L : List Int}, (∀ x ∈ L, 0 ≤ x) → 0 ≤ L.sum
  | [], _ => by simp
  | a :: t, h => by
    have i := sum_nn (L := t) fun x hx => h x (by simp [hx])
    have j := h a (by simp)
    rw [List.sum_cons]
    omega
theorem mem_le : ∀ {L : List Int}, (∀ x ∈ L, 0 ≤ x) → ∀ x ∈ L, x ≤ L.sum
  | [], _, x, h => by simp at h
  | a :: t, h, x, hx => by
    have i := sum_nn (L := t) fun x hx => h x (by simp [hx])
    have j := h a (by simp)
    rw [List.sum_cons]
    rcases List.mem_cons.1 hx with e | e
    · omega
    · have := mem_le (L := t) (fun x hx => h x (by simp [hx])) x e
      omega
theorem Rd.sum {L : List Int} (h : Rd L) : 0 ≤ L.sum ∧ L.sum ≤ 1000 := ⟨sum_nn h.nn, h.le⟩
theorem getD_mem (L : List Int) (i : Nat) (h : i < L.length) : L.getD i 0 ∈ L := by
  rw [List.getD_eq_getElem?_getD, List.getElem?_eq_getElem h]
  exact List.getElem_mem h
theorem Rd.at {L : List Int} (h : Rd L) (i : Nat) (hi : i < L.length) : 0 ≤ L.getD i 0 ∧ L.getD i 0 ≤ L.sum ∧ L.getD i 0 ≤ 1000 := by
  have a := getD_mem L i hi
  have b := mem_le h.nn _ a
  exact ⟨h.nn _ a, b, by have := h.le; omega⟩
theorem sum_rep : ∀ m : Nat, (List.replicate m (0 : Int)).sum = 0
  | 0 => by simp
  | m + 1 => by rw [List.replicate_succ, List.sum_cons, sum_rep m]; omega
theorem rd_new (m : Nat) (h1 : 1 ≤ m) (h2 : m ≤ 64) : Rd (List.replicate m 0) :=
  ⟨by simpa using h1, by simpa using h2, fun x hx => by rw [List.eq_of_mem_replicate hx]; omega, by rw [sum_rep]; omega⟩
def enE (st : Int) (L : List Int) (c : Int) : Int := if ic L c = true then if st = 0 then if 1000 ≤ L.sum then 5 else 0 else 7 else 3
def enL (st : Int) (L : List Int) (c : Int) : List Int := if enE st L c = 0 then L.set c.toNat (at' L c + 1) else L
def leE (L : List Int) (c : Int) : Int := if ic L c = true then if at' L c = 0 then 12 else 0 else 3
def leL (L : List Int) (c : Int) : List Int := if leE L c = 0 then L.set c.toNat (at' L c - 1) else L
def waE (st : Int) : Int := if st = 0 then 0 else 7
def waS (st : Int) : Int := if st = 0 then 1 else st
def tkE (st : Int) (L : List Int) : Int := if st = 1 then if 0 < L.sum then 7 else 0 else 6
def tkS (st : Int) (L : List Int) : Int := if tkE st L = 0 then 2 else st
end Go.Proofs.YtfdmcbcomknebaaGreatDoor.Em
namespace Go.Proofs.YtfdmcbcomknebaaGreatDoor.Gat
open Spl
open Go.ChangeShapes Go.WideShapes Go.ChangeAt Go.RowKit
open Pm Em
/-- The gate at block b, its list at block g. -/
structure GT (w : World) (b g : Nat) (st : Int) (L : List Int) : Prop where
  sb : Blk w b [.int .i64 st, .slice (some ⟨g, 0, none⟩) L.length L.length] 204
  sg : Blk w g (L.map (Value.int .i64)) 2
  rd : Rd L
section
variable {w w1 : World} {b g : Nat} {st : Int} {L : List Int}
theorem GT.c0 (h : GT w b g st L) : w.cell? ⟨b, 0, none⟩ = some (.int .i64 st) := h.sb.cell 0
theorem GT.c1 (h : GT w b g st L) : w.cell? ⟨b, 1, none⟩ = some (.slice (some ⟨g, 0, none⟩) L.length L.length) := h.sb.cell 1
theorem GT.ne (h : GT w b g st L) : b ≠ g := h.sb.ne h.sg (by decide)
theorem GT.heap (h : GT w b g st L) (e : w1.heap = w.heap) : GT w1 b g st L := ⟨h.sb.heap e, h.sg.heap e, h.rd⟩
theorem GT.keep {B : Nat} {S : List Nat} (h : GT w b g st L) (k : Fr B S w w1) (hb : b < B ∧ g < B) (hs : b ∉ S ∧ g ∉ S) : GT w1 b g st L :=
  ⟨h.sb.keep k hb.1 hs.1, h.sg.keep k hb.2 hs.2, h.rd⟩
theorem GT.at (h : GT w b g st L) (i : Nat) (hi : i < L.length) : w.cell? ⟨g, i, none⟩ = some (.int .i64 (L.getD i 0)) := by
  rw [h.sg.cell i, getD_map_int L i hi]
theorem GT.len (h : GT w b g st L) : (L.length : Int) ≤ 64 := by have := h.rd.n2; omega
end
set_option maxHeartbeats 400000 in
theorem snew_any (m : Nat) (w : World) (h1 : (1 : Int) ≤ m) (h2 : (m : Int) ≤ 64) :
    Calls Tryz.prog 38 #[.int .i64 (m : Int)] w fun e w' => e = .returned (.tuple #[.pointer (some ⟨w.heap.size + 1, 0, none⟩), .int .i64 0]) ∧ Blk w' (w.heap.size + 1) [.slice (some ⟨w.heap.size, 0, none⟩) m m] 202 ∧ Blk w' w.heap.size ((List.replicate m (0 : Int)).map (Value.int .i64)) 2 ∧ w'.heap.size = w.heap.size + 2 ∧ Fr w.heap.size [] w w' := by
  have hmk := run_make_row' (P := Tryz.prog) 200 2 (.int .i64 0) 8 Tryz.underlying200 Tryz.infoL rfl .i64 .i64 m (by omega) (by omega)
  have F : Hid (∀ o1 o2, Fr w.heap.size [] w ((w.alloc o1).alloc o2)) := fun o1 o2 => ((Fr.refl _ _ _).alloc (Nat.le_refl _) o1).alloc (by simp) o2
  go_enter Tryz.func38, Tryz.ntmps38
  go_wp2
  go_ret2
  refine ⟨rfl, ?_, ?_, by simp, F.out _ _⟩
  · have := Blk.new (w.alloc (Obj.cells (madeCells #[Value.int IntKind.i64 0] m) 2)) [.slice (some ⟨w.heap.size, 0, none⟩) m m] 202
    simpa using this
  · rw [made_int]
    exact (Blk.new w _ 2).alloc _
end Go.Proofs.YtfdmcbcomknebaaGreatDoor.Gat
namespace Go.Proofs.YtfdmcbcomknebaaGreatDoor.Gat
open Spl
open Go.ChangeShapes Go.WideShapes Go.ChangeAt Go.RowKit
open Pm Em
set_option maxHeartbeats 400000 in
theorem gnew_any (m : Nat) (w : World) (h1 : (1 : Int) ≤ m) (h2 : (m : Int) ≤ 64) :
    Calls Tryz.prog 39 #[.int .i64 (m : Int)] w fun e w' => e = .returned (.tuple #[.pointer (some ⟨w.heap.size + 2, 0, none⟩), .int .i64 0]) ∧ GT w' (w.heap.size + 2) w.heap.size 0 (List.replicate m 0) ∧ w'.heap.size = w.heap.size + 3 ∧ Fr w.heap.size [] w w' := by
  have C : Hid (∀ _ : Unit, _) := fun _ => snew_any m w h1 h2
  have G : Hid (Rd (List.replicate m 0)) := rd_new m (by omega) (by omega)
  have LM : Hid ((List.replicate m (0 : Int)).length = m) := List.length_replicate
  obtain ⟨s, hs⟩ : ∃ s, w.heap.size = s := ⟨_, rfl⟩
  have HS : Hid (w.heap.size = s) := hs
  rw [hs] at C ⊢
  clear h1 h2 hs
  go_enter Tryz.func39, Tryz.ntmps39
  go_wp2_with fail
  refine (C.out ()).mono ?_
  rintro e w' ⟨rfl, b1, b2, sz, f⟩
  have c1 : w'.cell? ⟨s + 1, 0, none⟩ = some (.slice (some ⟨s, 0, none⟩) m m) := b1.cell 0
  have B2 : Hid (Blk w' s _ _) := b2
  have SZ : Hid (w'.heap.size = s + 2) := sz
  have F : Hid (Fr s [] w w') := f
  clear b1 b2 f sz C
  go_wp2
  go_ret2
  have sz := SZ.out
  refine ⟨by rw [sz]; rfl, ⟨?_, ?_, G.out⟩, by simp [sz], F.out.alloc (by omega) _⟩
  · rw [LM.out, ← sz]
    exact Blk.new w' [.int .i64 0, .slice (some ⟨s, 0, none⟩) m m] _
  · exact B2.out.alloc _
end Go.Proofs.YtfdmcbcomknebaaGreatDoor.Gat
