/- The texts Pm Pj Pa Pb of one layer, laid together. -/
import Derived.Test.YtfdmcbcomknebaaGreatDoorRows
import Derived.Test.YtfdmcbcomknebaaGreatDoorXa
import Derived.WalkKit
import Derived.ProofKit
import Derived.OpenShut
import Derived.Laws.CopyOwn
import Derived.Deep.OwnRows
import Derived.BigQuiet
import Derived.Laws.Externs
namespace Go.Proofs.YtfdmcbcomknebaaGreatDoor.Pm
/-- 0 where 64 bits with a sign hold the number; else the error of what does not fit. -/
def fe (n : Int) : Int := if -9223372036854775808 ≤ n ∧ n ≤ 9223372036854775807 then 0 else 16
/-- Is there such a core? -/
def ic (L : List Int) (c : Int) : Bool := decide (0 ≤ c ∧ c < (L.length : Int))
def at' (L : List Int) (c : Int) : Int := L.getD c.toNat 0
def adL (L : List Int) (c n : Int) : List Int := if ic L c = true ∧ fe (at' L c + n) = 0 then L.set c.toNat (at' L c + n) else L
def fdL (L : List Int) (f t : Int) : List Int := if ic L f = true ∧ ic L t = true ∧ f ≠ t ∧ fe (at' L t + at' L f) = 0 then (L.set t.toNat (at' L t + at' L f)).set f.toNat 0 else L
/-- What 64 bits with a sign hold. -/
def I64 (x : Int) : Prop := -9223372036854775808 ≤ x ∧ x ≤ 9223372036854775807
/-- A number for each of 1 to 64 cores. -/
structure Pt (L : List Int) : Prop where
  n1 : 1 ≤ L.length
  n2 : L.length ≤ 64
  rg : ∀ x ∈ L, I64 x
theorem ic_lt {L : List Int} {c : Int} (h : ic L c = true) : 0 ≤ c ∧ c < (L.length : Int) ∧ c.toNat < L.length := by
  have := of_decide_eq_true h
  omega
theorem Pt.at {L : List Int} (h : Pt L) {c : Int} (hc : ic L c = true) : I64 (at' L c) := by
  have hl := (ic_lt hc).2.2
  refine h.rg _ ?_
  unfold at'
  rw [List.getD_eq_getElem?_getD, List.getElem?_eq_getElem hl]
  exact List.getElem_mem hl
theorem pt_new (m : Nat) (h1 : 1 ≤ m) (h2 : m ≤ 64) : Pt (List.replicate m 0) :=
  ⟨by simpa using h1, by simpa using h2, fun x hx => by rw [List.eq_of_mem_replicate hx]; unfold I64; omega⟩
/- sums -/
/-- A sum in two words. -/
def lo (S : Int) : Int := S % 18446744073709551616
def hi (S : Int) : Int := (S / 18446744073709551616) % 18446744073709551616
def sg (n : Int) : Int := if n < 0 then 18446744073709551615 else 0
end Go.Proofs.YtfdmcbcomknebaaGreatDoor.Pm
namespace Go.Proofs.YtfdmcbcomknebaaGreatDoor.Spl
open Go.ChangeShapes Go.WideShapes Go.ChangeAt Go.RowKit
theorem made_int (n : Nat) : madeCells #[Value.int .i64 0] n = ((List.replicate n (0 : Int)).map (Value.int .i64)).toArray := by
  apply Array.ext
  · simp [size_madeCells]
  · intro i h1 h2
    simp [madeCells, Nat.mod_one]
theorem Tryz.infoL : (Tryz.prog.info? 2).map (fun i => (i.zero, i.size, i.bytes)) = some (some (.int .i64 0), 1, 8) := by kernel_rfl
end Go.Proofs.YtfdmcbcomknebaaGreatDoor.Spl
namespace Go.Proofs.YtfdmcbcomknebaaGreatDoor.Spl
open Go.ChangeShapes Go.WideShapes Go.ChangeAt Go.RowKit
open Pm
/-- The parts at block b, its list at block g. -/
structure SL (w : World) (b g : Nat) (L : List Int) : Prop where
  sb : Blk w b [.slice (some ⟨g, 0, none⟩) L.length L.length] 202
  sg : Blk w g (L.map (Value.int .i64)) 2
  pt : Pt L
theorem SL.c0 {w : World} {b g : Nat} {L : List Int} (h : SL w b g L) : w.cell? ⟨b, 0, none⟩ = some (.slice (some ⟨g, 0, none⟩) L.length L.length) := h.sb.cell 0
theorem SL.ne {w : World} {b g : Nat} {L : List Int} (h : SL w b g L) : b ≠ g := h.sb.ne h.sg (by decide)
theorem SL.heap {w w1 : World} {b g : Nat} {L : List Int} (h : SL w b g L) (e : w1.heap = w.heap) : SL w1 b g L := ⟨h.sb.heap e, h.sg.heap e, h.pt⟩
theorem SL.keep {B : Nat} {S : List Nat} {w w' : World} {b g : Nat} {L : List Int} (h : SL w b g L) (k : Fr B S w w') (hb : b < B ∧ g < B) (hs : b ∉ S ∧ g ∉ S) : SL w' b g L :=
  ⟨h.sb.keep k hb.1 hs.1, h.sg.keep k hb.2 hs.2, h.pt⟩
theorem SL.at {w : World} {b g : Nat} {L : List Int} (h : SL w b g L) (i : Nat) (hi : i < L.length) : w.cell? ⟨g, i, none⟩ = some (.int .i64 (L.getD i 0)) := by
  rw [h.sg.cell i, getD_map_int L i hi]
theorem SL.row {w : World} {b g : Nat} {L : List Int} (h : SL w b g L) (cap : Nat) : Row w (.slice (some ⟨g, 0, none⟩) L.length cap) L := row_of_blk h.sg cap
theorem SL.len {w : World} {b g : Nat} {L : List Int} (h : SL w b g L) : (L.length : Int) ≤ 64 := by have := h.pt.n2; omega
set_option maxHeartbeats 400000 in
theorem new_any (m : Nat) (w : World) (h1 : (1 : Int) ≤ m) (h2 : (m : Int) ≤ 64) :
    Calls Tryz.prog 38 #[.int .i64 (m : Int)] w fun e w' => e = .returned (.tuple #[.pointer (some ⟨w.heap.size + 1, 0, none⟩), .int .i64 0]) ∧ SL w' (w.heap.size + 1) w.heap.size (List.replicate m 0) ∧ Fr w.heap.size [] w w' := by
  have hmk := run_make_row' (P := Tryz.prog) 200 2 (.int .i64 0) 8 Tryz.underlying200 Tryz.infoL rfl .i64 .i64 m (by omega) (by omega)
  have F : Hid (∀ o1 o2, Fr w.heap.size [] w ((w.alloc o1).alloc o2)) := fun o1 o2 => ((Fr.refl _ _ _).alloc (Nat.le_refl _) o1).alloc (by simp) o2
  have G : Hid (Pt (List.replicate m 0)) := pt_new m (by omega) (by omega)
  go_enter Tryz.func38, Tryz.ntmps38
  go_wp2
  go_ret2
  refine ⟨rfl, ⟨?_, ?_, G.out⟩, F.out _ _⟩
  · have := Blk.new (w.alloc (Obj.cells (madeCells #[Value.int IntKind.i64 0] m) 2)) [.slice (some ⟨w.heap.size, 0, none⟩) m m] 202
    simpa using this
  · rw [made_int]
    exact (Blk.new w _ 2).alloc _
end Go.Proofs.YtfdmcbcomknebaaGreatDoor.Spl
namespace Go.Proofs.YtfdmcbcomknebaaGreatDoor.Spl
open Go.ChangeShapes Go.WideShapes Go.ChangeAt Go.RowKit
open Pm
/- The calls of a number that is not there. -/
end Go.Proofs.YtfdmcbcomknebaaGreatDoor.Spl
