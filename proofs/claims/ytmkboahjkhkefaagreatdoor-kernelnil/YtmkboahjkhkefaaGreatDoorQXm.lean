/- Contracts of the program's layers, as far as this claim needs them. -/
import Derived.Test.YtmkboahjkhkefaaGreatDoorRows
import Derived.Test.YtmkboahjkhkefaaGreatDoorQXa
import Derived.WalkKit
import Derived.Laws.FloatArith
import Derived.ProofKit
import Derived.OpenShut
import Derived.BigQuiet
import Derived.Laws.Externs
import Derived.Laws.Bits64
import Derived.WalkLawsBesides
import Derived.Laws.MakeOwn
import Derived.Shelf.RegionOpenPlain
set_option linter.unusedVariables false
set_option linter.unusedSimpArgs false
namespace Go.Proofs.YtmkboahjkhkefaaGreatDoor.Met
open Go.ChangeShapes Go.WideShapes Go.ChangeAt Go.RowKit
namespace Mt
structure Ac where
  e : Int
  wk : Int
  r : Nat → Int
def sm8 (r : Nat → Int) : Int := r 0 + r 1 + r 2 + r 3 + r 4 + r 5 + r 6 + r 7
def tk (a : Ac) : Int := a.wk + sm8 a.r
def pcel (a : Ac) (j : Nat) : Int := if j = 0 then a.e else if j = 1 then tk a else a.r (j - 2)
def za : Ac := ⟨0, 0, fun _ => 0⟩
structure Oka (a : Ac) (B : Int) : Prop where
  e0 : 0 ≤ a.e
  e1 : a.e ≤ 4611686018427387904
  w0 : 0 ≤ a.wk
  r0 : ∀ j, 0 ≤ a.r j
  tb : tk a ≤ B
def OkF (n : Nat) (F : Nat → Ac) (B : Int) : Prop := ∀ k, k < n → Oka (F k) B
end Mt
open Mt
def Cs (L : Ac → Nat → Int) (cs : List Value) (n : Nat) (F : Nat → Ac) : Prop := cs.length = n * 10 ∧ ∀ k, k < n → ∀ j, j < 10 → cs[k * 10 + j]? = some (.int .i64 (L (F k) j))
theorem cs_new (L : Ac → Nat → Int) (n : Nat) (h : ∀ j, L za j = 0) : Cs L (List.replicate (n * 10) (.int .i64 0)) n fun _ => za :=
  ⟨by simp, fun k hk j hj => by rw [h, List.getElem?_replicate, if_pos (by omega)]⟩
structure MT (L : Ac → Nat → Int) (tm tc : TypeId) (w : World) (s g n : Nat) (F : Nat → Ac) : Prop where
  sb : Blk w s [.slice (some ⟨g, 0, none⟩) n n] tm
  gb : ∃ cs, Blk w g cs tc ∧ Cs L cs n F
  ne : s ≠ g
  nn : n ≤ 64
section
variable {L : Ac → Nat → Int} {tm tc : TypeId} {w w1 : World} {s g n : Nat} {F : Nat → Ac}
theorem MT.slt (h : MT L tm tc w s g n F) : s < w.heap.size := h.sb.lt
theorem MT.glt (h : MT L tm tc w s g n F) : g < w.heap.size := by obtain ⟨cs, a, _⟩ := h.gb; exact a.lt
theorem MT.keep {B : Nat} {S : List Nat} (h : MT L tm tc w s g n F) (f : Fr B S w w1) (hb : s < B) (gb : g < B) (hs : s ∉ S) (gs : g ∉ S) : MT L tm tc w1 s g n F := by
  obtain ⟨cs, a, b⟩ := h.gb
  exact ⟨h.sb.keep f hb hs, ⟨cs, a.keep f gb gs, b⟩, h.ne, h.nn⟩
end
end Go.Proofs.YtmkboahjkhkefaaGreatDoor.Met
namespace Go.Proofs.YtmkboahjkhkefaaGreatDoor.Flo
open Met
end Go.Proofs.YtmkboahjkhkefaaGreatDoor.Flo
namespace Go.Proofs.YtmkboahjkhkefaaGreatDoor.Met
open Go.ChangeShapes Go.WideShapes Go.ChangeAt Go.RowKit
open Flo
end Go.Proofs.YtmkboahjkhkefaaGreatDoor.Met
namespace Go.Proofs.YtmkboahjkhkefaaGreatDoor.Met
open Go.ChangeShapes Go.WideShapes Go.ChangeAt Go.RowKit
open Mt Flo
def PM : World → Nat → Nat → Nat → (Nat → Ac) → Prop := MT pcel 199 353
theorem Tryz.infoAc : (Tryz.prog.info? 353).map (fun i => (i.zero, i.size, i.bytes)) = some (some (.agg (List.replicate 10 (.int .i64 0)).toArray), 10, 80) := by kernel_rfl
theorem made_ten (n : Nat) : madeCells (Value.agg (List.replicate 10 (.int .i64 0)).toArray).cells n = (List.replicate n (.int .i64 0)).toArray := by
  have hz : (Value.agg (List.replicate 10 (Value.int .i64 0)).toArray).cells = (List.replicate 10 (.int .i64 0)).toArray := rfl
  rw [hz]
  apply Array.ext
  · simp [size_madeCells]
  · intro i h1 h2
    have hm : i % 10 < 10 := Nat.mod_lt _ (by omega)
    simp only [madeCells, Array.getElem_map, Array.getElem_range, List.getElem_toArray, List.getElem_replicate, List.size_toArray, List.length_replicate]
    rw [getElem!_pos _ _ (by simpa using hm)]
    simp only [List.getElem_toArray, List.getElem_replicate]
set_option maxRecDepth 100000 in
theorem mtnew_any (n : Nat) (w : World) (h1 : (1 : Int) ≤ n) (h2 : (n : Int) ≤ 64) :
    Calls Tryz.prog 54 #[.int .i64 (n : Int)] w fun e w' => e = .returned (.tuple #[.pointer (some ⟨w.heap.size + 1, 0, none⟩), .int .i64 0]) ∧ PM w' (w.heap.size + 1) w.heap.size n (fun _ => za) ∧ Below w.heap.size w w' := by
  obtain ⟨i0, hi, hz0, hz1, hz2⟩ := info_parts Tryz.infoAc
  have hm := run_make (P := Tryz.prog) w 197 353 i0 _ Tryz.underlying197 hi hz0 .i64 .i64 n n (by omega) (by omega) (by rw [hz2]; omega) (by omega)
  rw [hz1, made_ten, Int.toNat_natCast] at hm
  have hj : Hid (Cs pcel (List.replicate (n * 10) (.int .i64 0)) n fun _ => za) := cs_new pcel n (fun j => by unfold pcel; repeat' split
                                                                                                              all_goals rfl)
  have F : Hid (∀ o1 o2, Below w.heap.size w ((w.alloc o1).alloc o2)) := fun o1 o2 => ((Below.refl _ _).alloc (Nat.le_refl _) o1).alloc (by simp) o2
  generalize List.replicate (n * 10) (Value.int .i64 0) = Z at *
  clear hi hz0 hz1 hz2
  go_enter Tryz.func54, Tryz.ntmps54
  go_wp2
  go_ret2
  refine ⟨rfl, ⟨?_, ⟨Z, (Blk.new w Z 353).alloc _, hj.out⟩, by omega, by omega⟩, F.out _ _⟩
  have := Blk.new (w.alloc (.cells Z.toArray 353)) [.slice (some ⟨w.heap.size, 0, none⟩) n n] 199
  simpa using this
end Go.Proofs.YtmkboahjkhkefaaGreatDoor.Met
namespace Go.Proofs.YtmkboahjkhkefaaGreatDoor.Met
open Go.ChangeShapes Go.WideShapes Go.ChangeAt Go.RowKit
open Mt Flo
end Go.Proofs.YtmkboahjkhkefaaGreatDoor.Met
