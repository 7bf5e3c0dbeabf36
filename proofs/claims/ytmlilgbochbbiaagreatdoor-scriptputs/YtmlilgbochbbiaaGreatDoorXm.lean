/- The texts Mtm Flo MeA MeD MeE of one layer, laid together. -/
import Derived.Test.YtmlilgbochbbiaaGreatDoorRows
import Derived.Test.YtmlilgbochbbiaaGreatDoorXa
import Derived.WalkKit
import Derived.Laws.FloatArith
import Derived.ProofKit
import Derived.OpenShut
import Derived.BigQuiet
import Derived.Laws.Externs
import Derived.Laws.Bits64
import Derived.WalkLawsBesides
import Derived.Laws.MakeOwn
import Derived.Shelf.RegionOpenPlain
namespace Go.Proofs.YtmlilgbochbbiaaGreatDoor.Met
open Go.ChangeShapes Go.WideShapes Go.ChangeAt Go.RowKit
namespace Mt
/-- A core's account: its energy, its ticks of work, its ticks of each way to rest. -/
structure Ac where
  e : Int
  wk : Int
  r : Nat → Int
def sm8 (r : Nat → Int) : Int := r 0 + r 1 + r 2 + r 3 + r 4 + r 5 + r 6 + r 7
/-- All its ticks. -/
def tk (a : Ac) : Int := a.wk + sm8 a.r
/-- The program's ten cells. -/
def pcel (a : Ac) (j : Nat) : Int := if j = 0 then a.e else if j = 1 then tk a else a.r (j - 2)
def ups {β : Type} (F : Nat → β) (k : Nat) (x : β) : Nat → β := fun i => if i = k then x else F i
theorem ups_at {β : Type} (F : Nat → β) (k : Nat) (x : β) : ups F k x k = x := if_pos rfl
theorem ups_ne {β : Type} (F : Nat → β) (k i : Nat) (x : β) (h : i ≠ k) : ups F k x i = F i := if_neg h
def za : Ac := ⟨0, 0, fun _ => 0⟩
/-- Can it be a number of ticks, or power? -/
def okT (n : Int) : Bool := decide (0 ≤ n) && decide (n ≤ 2147483648)
/-- What is answered where ticks of some power come to an energy. -/
def adE (e t p : Int) : Int := if okT t && okT p then if 4611686018427387904 < e + t * p then 16 else 0 else 2
def inr (n : Nat) (c : Int) : Bool := decide (0 ≤ c) && decide (c < (n : Int))
def wkE (n : Nat) (F : Nat → Ac) (c t p : Int) : Int := if inr n c then adE (F c.toNat).e t p else 3
/-- An account that can be, with at most B ticks. -/
structure Oka (a : Ac) (B : Int) : Prop where
  e0 : 0 ≤ a.e
  e1 : a.e ≤ 4611686018427387904
  w0 : 0 ≤ a.wk
  r0 : ∀ j, 0 ≤ a.r j
  tb : tk a ≤ B
theorem Oka.mono {a : Ac} {B C : Int} (h : Oka a B) (l : B ≤ C) : Oka a C := ⟨h.e0, h.e1, h.w0, h.r0, Int.le_trans h.tb l⟩
def OkF (n : Nat) (F : Nat → Ac) (B : Int) : Prop := ∀ k, k < n → Oka (F k) B
theorem OkF.ups {n k : Nat} {F : Nat → Ac} {B C : Int} {a : Ac} (h : OkF n F B) (l : B ≤ C) (q : Oka a C) : OkF n (ups F k a) C := fun i hi => by
  unfold Mt.ups
  split
  · exact q
  · exact (h i hi).mono l
end Mt
open Mt
/-- A block's cells are accounts. -/
def Cs (L : Ac → Nat → Int) (cs : List Value) (n : Nat) (F : Nat → Ac) : Prop := cs.length = n * 10 ∧ ∀ k, k < n → ∀ j, j < 10 → cs[k * 10 + j]? = some (.int .i64 (L (F k) j))
theorem cs_set {L : Ac → Nat → Int} {cs : List Value} {n : Nat} {F : Nat → Ac} (h : Cs L cs n F) (k j : Nat) (hk : k < n) (hj : j < 10) (a : Ac) (x : Int) (h1 : L a j = x) (h2 : ∀ i, i < 10 → i ≠ j → L a i = L (F k) i) :
    Cs L (cs.set (k * 10 + j) (.int .i64 x)) n (ups F k a) := by
  refine ⟨by rw [List.length_set]; exact h.1, fun q hq i hi => ?_⟩
  rw [List.getElem?_set]
  by_cases e : q = k
  · subst e
    rw [ups_at]
    by_cases d : i = j
    · subst d
      rw [if_pos rfl, if_pos (by have := h.1; omega), h1]
    · rw [if_neg (by omega), h2 i hi d]
      exact h.2 q hq i hi
  · rw [if_neg (by omega), ups_ne _ _ _ _ e]
    exact h.2 q hq i hi
theorem cs_new (L : Ac → Nat → Int) (n : Nat) (h : ∀ j, L za j = 0) : Cs L (List.replicate (n * 10) (.int .i64 0)) n fun _ => za :=
  ⟨by simp, fun k hk j hj => by rw [h, List.getElem?_replicate, if_pos (by omega)]⟩
/-- A meter at block s, its accounts at block g. -/
structure MT (L : Ac → Nat → Int) (tm tc : TypeId) (w : World) (s g n : Nat) (F : Nat → Ac) : Prop where
  sb : Blk w s [.slice (some ⟨g, 0, none⟩) n n] tm
  gb : ∃ cs, Blk w g cs tc ∧ Cs L cs n F
  ne : s ≠ g
  nn : n ≤ 64
section
variable {L : Ac → Nat → Int} {tm tc : TypeId} {w w1 : World} {s g n : Nat} {F : Nat → Ac}
theorem MT.slt (h : MT L tm tc w s g n F) : s < w.heap.size := h.sb.lt
theorem MT.glt (h : MT L tm tc w s g n F) : g < w.heap.size := by obtain ⟨cs, a, _⟩ := h.gb; exact a.lt
theorem MT.keep {B : Nat} {S : List Nat} (h : MT L tm tc w s g n F) (f : Fr B S w w1) (hb : s < B) (gb : g < B) (hs : s ∉ S) (gs : g ∉ S) : MT L tm tc w1 s g n F := by
  obtain ⟨cs, a, b⟩ := h.gb
  exact ⟨h.sb.keep f hb hs, ⟨cs, a.keep f gb gs, b⟩, h.ne, h.nn⟩
theorem MT.below (h : MT L tm tc w s g n F) (f : Below w.heap.size w w1) : MT L tm tc w1 s g n F := h.keep (Fr.of_below f) h.slt h.glt (by simp) (by simp)
theorem MT.cell (h : MT L tm tc w s g n F) {k : Nat} (hk : k < n) (j : Nat) (hj : j < 10) : w.cell? ⟨g, k * 10 + j, none⟩ = some (.int .i64 (L (F k) j)) := by
  obtain ⟨cs, a, b⟩ := h.gb
  rw [a.cell]
  exact b.2 k hk j hj
theorem MT.free (h : MT L tm tc w s g n F) (i : Nat) : w.frozen? ⟨g, i, none⟩ = false := by
  obtain ⟨cs, a, _⟩ := h.gb
  exact a.free i
theorem MT.set (h : MT L tm tc w s g n F) {k : Nat} (hk : k < n) (j : Nat) (hj : j < 10) (a : Ac) (x : Int) (h1 : L a j = x) (h2 : ∀ i, i < 10 → i ≠ j → L a i = L (F k) i) : MT L tm tc (w.setCell ⟨g, k * 10 + j, none⟩ (.int .i64 x)) s g n (ups F k a) := by
  obtain ⟨cs, b, c⟩ := h.gb
  exact ⟨h.sb.other h.ne _, ⟨_, b.set _ _, cs_set c k j hk hj a x h1 h2⟩, h.ne, h.nn⟩
end
end Go.Proofs.YtmlilgbochbbiaaGreatDoor.Met
namespace Go.Proofs.YtmlilgbochbbiaaGreatDoor.Flo
open Met
/-- What a word is without its sign. -/
def rg (x : Nat) : Nat := x % 9223372036854775808
/-- Whether it has a sign. -/
def ng (x : Nat) : Bool := decide (9223372036854775808 ≤ x)
/-- Whether it is no number. -/
def isN (x : Nat) : Bool := decide (9218868437227405312 < rg x)
/-- A number by which floats stand in order. -/
def ky (x : Nat) : Nat := if isN x then 18446744073709551615 else if ng x then 18446744073709551615 - x else x + 9223372036854775808
/-- A whole number as a float. -/
def ni (n : Int) : Nat := floatOfInt .f64 n
/-- Where a quotient stands in order. -/
def rt (a b : Int) : Nat := match Ieee.double.div (ni a) (ni b) with
  | some r => ky r
  | none => 18446744073709551615
/-- What is drawn where there is no number. -/
def nb (w : World) (x y : Nat) : Nat := (Question.nanBits .f64 x y).cut (w.tape w.drawn (.nanBits .f64 x y))
end Go.Proofs.YtmlilgbochbbiaaGreatDoor.Flo
namespace Go.Proofs.YtmlilgbochbbiaaGreatDoor.Met
open Go.ChangeShapes Go.WideShapes Go.ChangeAt Go.RowKit
open Flo
end Go.Proofs.YtmlilgbochbbiaaGreatDoor.Met
namespace Go.Proofs.YtmlilgbochbbiaaGreatDoor.Met
open Go.ChangeShapes Go.WideShapes Go.ChangeAt Go.RowKit
open Mt Flo
/-- The program's meter. -/
def PM : World → Nat → Nat → Nat → (Nat → Ac) → Prop := MT pcel 200 375
theorem Tryz.infoAc : (Tryz.prog.info? 375).map (fun i => (i.zero, i.size, i.bytes)) = some (some (.agg (List.replicate 10 (.int .i64 0)).toArray), 10, 80) := by kernel_rfl
theorem made_ten (n : Nat) : madeCells (Value.agg (List.replicate 10 (.int .i64 0)).toArray).cells n = (List.replicate n (.int .i64 0)).toArray := by
  have hz : (Value.agg (List.replicate 10 (Value.int .i64 0)).toArray).cells = (List.replicate 10 (.int .i64 0)).toArray := rfl
  rw [hz]
  apply Array.ext
  · simp [size_madeCells]
  · intro i h1 h2
    have hm : i % 10 < 10 := Nat.mod_lt _ (by omega)
    simp only [madeCells, Array.getElem_map, Array.getElem_range, List.getElem_toArray, List.getElem_replicate, List.size_toArray, List.length_replicate]
    rw [getElem!_pos _ _ (by simpa using hm)]
    simp only [List.getElem_toArray, List.getElem_replicate]
set_option maxRecDepth 100000 in
theorem mtnew_any (n : Nat) (w : World) (h1 : (1 : Int) ≤ n) (h2 : (n : Int) ≤ 64) :
    Calls Tryz.prog 49 #[.int .i64 (n : Int)] w fun e w' => e = .returned (.tuple #[.pointer (some ⟨w.heap.size + 1, 0, none⟩), .int .i64 0]) ∧ PM w' (w.heap.size + 1) w.heap.size n (fun _ => za) ∧ Below w.heap.size w w' := by
  obtain ⟨i0, hi, hz0, hz1, hz2⟩ := info_parts Tryz.infoAc
  have hm := run_make (P := Tryz.prog) w 198 375 i0 _ Tryz.underlying198 hi hz0 .i64 .i64 n n (by omega) (by omega) (by rw [hz2]; omega) (by omega)
  rw [hz1, made_ten, Int.toNat_natCast] at hm
  have hj : Hid (Cs pcel (List.replicate (n * 10) (.int .i64 0)) n fun _ => za) := cs_new pcel n (fun j => by unfold pcel; repeat' split
                                                                                                              all_goals rfl)
  have F : Hid (∀ o1 o2, Below w.heap.size w ((w.alloc o1).alloc o2)) := fun o1 o2 => ((Below.refl _ _).alloc (Nat.le_refl _) o1).alloc (by simp) o2
  generalize List.replicate (n * 10) (Value.int .i64 0) = Z at *
  clear hi hz0 hz1 hz2
  go_enter Tryz.func49, Tryz.ntmps49
  go_wp2
  go_ret2
  refine ⟨rfl, ⟨?_, ⟨Z, (Blk.new w Z 375).alloc _, hj.out⟩, by omega, by omega⟩, F.out _ _⟩
  have := Blk.new (w.alloc (.cells Z.toArray 375)) [.slice (some ⟨w.heap.size, 0, none⟩) n n] 200
  simpa using this
end Go.Proofs.YtmlilgbochbbiaaGreatDoor.Met
namespace Go.Proofs.YtmlilgbochbbiaaGreatDoor.Met
open Go.ChangeShapes Go.WideShapes Go.ChangeAt Go.RowKit
open Mt Flo
end Go.Proofs.YtmlilgbochbbiaaGreatDoor.Met
