/- The texts Pm Pj Pa Pb of one layer, laid together. -/
import Derived.Test.YtfipiifickdeiaaGreatDoorRows
import Derived.Test.YtfipiifickdeiaaGreatDoorXa
import Derived.WalkKit
import Derived.ProofKit
import Derived.OpenShut
import Derived.Laws.CopyOwn
import Derived.Deep.OwnRows
import Derived.BigQuiet
import Derived.Laws.Externs
namespace Go.Proofs.YtfipiifickdeiaaGreatDoor.Pm
/-- The number itself where 64 bits with a sign hold it; else 0. -/
def fv (n : Int) : Int := if -9223372036854775808 ≤ n ∧ n ≤ 9223372036854775807 then n else 0
/-- 0 where 64 bits with a sign hold the number; else the error of what does not fit. -/
def fe (n : Int) : Int := if -9223372036854775808 ≤ n ∧ n ≤ 9223372036854775807 then 0 else 16
/-- Is there such a core? -/
def ic (L : List Int) (c : Int) : Bool := decide (0 ≤ c ∧ c < (L.length : Int))
def at' (L : List Int) (c : Int) : Int := L.getD c.toNat 0
def adE (L : List Int) (c n : Int) : Int := if ic L c = true then fe (at' L c + n) else 3
def adL (L : List Int) (c n : Int) : List Int := if ic L c = true ∧ fe (at' L c + n) = 0 then L.set c.toNat (at' L c + n) else L
def fdL (L : List Int) (f t : Int) : List Int := if ic L f = true ∧ ic L t = true ∧ f ≠ t ∧ fe (at' L t + at' L f) = 0 then (L.set t.toNat (at' L t + at' L f)).set f.toNat 0 else L
/-- What 64 bits with a sign hold. -/
def I64 (x : Int) : Prop := -9223372036854775808 ≤ x ∧ x ≤ 9223372036854775807
/-- A number for each of 1 to 64 cores. -/
structure Pt (L : List Int) : Prop where
  n1 : 1 ≤ L.length
  n2 : L.length ≤ 64
  rg : ∀ x ∈ L, I64 x
theorem ic_lt {L : List Int} {c : Int} (h : ic L c = true) : 0 ≤ c ∧ c < (L.length : Int) ∧ c.toNat < L.length := by
  have := of_decide_eq_true h
  omega
theorem Pt.at {L : List Int} (h : Pt L) {c : Int} (hc : ic L c = true) : I64 (at' L c) := by
  have hl := (ic_lt hc).2.2
  refine h.rg _ ?_
  unfold at'
  rw [List.getD_eq_getElem?_getD, List.getElem?_eq_getElem hl]
  exact List.getElem_mem hl
theorem pt_set {L : List Int} (h : Pt L) (i : Nat) (x : Int) (hx : I64 x) : Pt (L.set i x) := by
  refine ⟨by simpa using h.n1, by simpa using h.n2, fun y hy => ?_⟩
  rcases List.mem_or_eq_of_mem_set hy with g | g
  · exact h.rg y g
  · exact g ▸ hx
theorem fe_zero {n : Int} (h : fe n = 0) : I64 n := by
  unfold fe at h
  unfold I64
  split at h
  · assumption
  · omega
theorem fe_ok {n : Int} (h : I64 n) : fe n = 0 ∧ fv n = n := ⟨if_pos h, if_pos h⟩
theorem fe_no {n : Int} (h : ¬ I64 n) : fe n = 16 ∧ fv n = 0 := ⟨if_neg h, if_neg h⟩
theorem pt_new (m : Nat) (h1 : 1 ≤ m) (h2 : m ≤ 64) : Pt (List.replicate m 0) :=
  ⟨by simpa using h1, by simpa using h2, fun x hx => by rw [List.eq_of_mem_replicate hx]; unfold I64; omega⟩
/- sums -/
theorem getD_set_ne (L : List Int) (i j : Nat) (x : Int) (h : i ≠ j) : (L.set i x).getD j 0 = L.getD j 0 := by
  simp only [List.getD, List.getElem?_set]
  rw [if_neg h]
theorem sum_take (L : List Int) (k : Nat) (h : k < L.length) : (L.take (k + 1)).sum = (L.take k).sum + L.getD k 0 := by
  have e : L.getD k 0 = L[k] := by simp [List.getD, h]
  rw [e, List.take_succ_eq_append_getElem h, List.sum_append, List.sum_cons, List.sum_nil, Int.add_zero]
theorem sum_le {L : List Int} (h : Pt L) (k : Nat) (hk : k ≤ L.length) : -(9223372036854775808 * (k : Int)) ≤ (L.take k).sum ∧ (L.take k).sum ≤ 9223372036854775807 * (k : Int) := by
  induction k with
  | zero => simp
  | succ k ih =>
    have i1 := ih (by omega)
    rw [sum_take L k (by omega)]
    have hm : I64 (L.getD k 0) := by
      refine h.rg _ ?_
      rw [List.getD_eq_getElem?_getD, List.getElem?_eq_getElem (by omega : k < L.length)]
      exact List.getElem_mem _
    unfold I64 at hm
    generalize (L.take k).sum = S at *
    generalize L.getD k 0 = x at *
    have e : ((k + 1 : Nat) : Int) = (k : Int) + 1 := by omega
    rw [e, Int.mul_add, Int.mul_add]
    omega
/-- A sum in two words. -/
def lo (S : Int) : Int := S % 18446744073709551616
def hi (S : Int) : Int := (S / 18446744073709551616) % 18446744073709551616
def sg (n : Int) : Int := if n < 0 then 18446744073709551615 else 0
theorem lo_step (S n : Int) : (lo S + lo n + 0) % 18446744073709551616 = lo (S + n) := by unfold lo; omega
theorem hi_step (S n : Int) (hn : I64 n) : (hi S + (sg n + (lo S + lo n + 0) / 18446744073709551616) % 18446744073709551616) % 18446744073709551616 = hi (S + n) := by
  unfold I64 at hn
  have a : n / 18446744073709551616 = if n < 0 then -1 else 0 := by split <;> omega
  unfold hi sg lo
  split at a
  · rw [if_pos (by assumption)]
    omega
  · rw [if_neg (by assumption)]
    omega
theorem fits (S : Int) (h1 : -(9223372036854775808 * 64) ≤ S) (h2 : S ≤ 9223372036854775807 * 64) (x : Int) (hx : x = (lo S + 9223372036854775808) % 18446744073709551616 - 9223372036854775808) :
    (I64 S ∧ x = S ∧ (hi S != sg x) = false) ∨ (¬ I64 S ∧ (hi S != sg x) = true) := by
  subst hx
  by_cases c : I64 S
  · refine Or.inl ⟨c, ?_⟩
    unfold I64 at c
    have e : (lo S + 9223372036854775808) % 18446744073709551616 - 9223372036854775808 = S := by unfold lo; omega
    rw [e]
    refine ⟨rfl, ?_⟩
    have : hi S = sg S := by
      unfold hi sg
      split <;> omega
    simp [this]
  · refine Or.inr ⟨c, ?_⟩
    unfold I64 at c
    have : hi S ≠ sg ((lo S + 9223372036854775808) % 18446744073709551616 - 9223372036854775808) := by
      unfold hi sg lo
      split <;> omega
    simpa using this
end Go.Proofs.YtfipiifickdeiaaGreatDoor.Pm
namespace Go.Proofs.YtfipiifickdeiaaGreatDoor.Spl
open Go.ChangeShapes Go.WideShapes Go.ChangeAt Go.RowKit
theorem made_int (n : Nat) : madeCells #[Value.int .i64 0] n = ((List.replicate n (0 : Int)).map (Value.int .i64)).toArray := by
  apply Array.ext
  · simp [size_madeCells]
  · intro i h1 h2
    simp [madeCells, Nat.mod_one]
theorem Tryz.infoL : (Tryz.prog.info? 2).map (fun i => (i.zero, i.size, i.bytes)) = some (some (.int .i64 0), 1, 8) := by kernel_rfl
end Go.Proofs.YtfipiifickdeiaaGreatDoor.Spl
namespace Go.Proofs.YtfipiifickdeiaaGreatDoor.Spl
open Go.ChangeShapes Go.WideShapes Go.ChangeAt Go.RowKit
open Pm
/-- The parts at block b, its list at block g. -/
structure SL (w : World) (b g : Nat) (L : List Int) : Prop where
  sb : Blk w b [.slice (some ⟨g, 0, none⟩) L.length L.length] 164
  sg : Blk w g (L.map (Value.int .i64)) 2
  pt : Pt L
theorem SL.c0 {w : World} {b g : Nat} {L : List Int} (h : SL w b g L) : w.cell? ⟨b, 0, none⟩ = some (.slice (some ⟨g, 0, none⟩) L.length L.length) := h.sb.cell 0
theorem SL.ne {w : World} {b g : Nat} {L : List Int} (h : SL w b g L) : b ≠ g := h.sb.ne h.sg (by decide)
theorem SL.heap {w w1 : World} {b g : Nat} {L : List Int} (h : SL w b g L) (e : w1.heap = w.heap) : SL w1 b g L := ⟨h.sb.heap e, h.sg.heap e, h.pt⟩
theorem SL.keep {B : Nat} {S : List Nat} {w w' : World} {b g : Nat} {L : List Int} (h : SL w b g L) (k : Fr B S w w') (hb : b < B ∧ g < B) (hs : b ∉ S ∧ g ∉ S) : SL w' b g L :=
  ⟨h.sb.keep k hb.1 hs.1, h.sg.keep k hb.2 hs.2, h.pt⟩
theorem SL.at {w : World} {b g : Nat} {L : List Int} (h : SL w b g L) (i : Nat) (hi : i < L.length) : w.cell? ⟨g, i, none⟩ = some (.int .i64 (L.getD i 0)) := by
  rw [h.sg.cell i, getD_map_int L i hi]
theorem SL.row {w : World} {b g : Nat} {L : List Int} (h : SL w b g L) (cap : Nat) : Row w (.slice (some ⟨g, 0, none⟩) L.length cap) L := row_of_blk h.sg cap
theorem SL.len {w : World} {b g : Nat} {L : List Int} (h : SL w b g L) : (L.length : Int) ≤ 64 := by have := h.pt.n2; omega
/-- Behind a store into a part. -/
theorem sl_set {w : World} {b g : Nat} {L : List Int} (h : SL w b g L) (i : Nat) (x : Int) (hx : I64 x) : SL (w.setCell ⟨g, i, none⟩ (.int .i64 x)) b g (L.set i x) := by
  refine ⟨?_, ?_, pt_set h.pt i x hx⟩
  · have := h.sb.other (p := ⟨g, i, none⟩) h.ne (.int .i64 x)
    simpa using this
  · have := h.sg.set i (.int .i64 x)
    rwa [← List.map_set] at this
set_option maxHeartbeats 400000 in
theorem new_any (m : Nat) (w : World) (h1 : (1 : Int) ≤ m) (h2 : (m : Int) ≤ 64) :
    Calls Tryz.prog 27 #[.int .i64 (m : Int)] w fun e w' => e = .returned (.tuple #[.pointer (some ⟨w.heap.size + 1, 0, none⟩), .int .i64 0]) ∧ SL w' (w.heap.size + 1) w.heap.size (List.replicate m 0) ∧ Fr w.heap.size [] w w' := by
  have hmk := run_make_row' (P := Tryz.prog) 162 2 (.int .i64 0) 8 Tryz.underlying162 Tryz.infoL rfl .i64 .i64 m (by omega) (by omega)
  have F : Hid (∀ o1 o2, Fr w.heap.size [] w ((w.alloc o1).alloc o2)) := fun o1 o2 => ((Fr.refl _ _ _).alloc (Nat.le_refl _) o1).alloc (by simp) o2
  have G : Hid (Pt (List.replicate m 0)) := pt_new m (by omega) (by omega)
  go_enter Tryz.func27, Tryz.ntmps27
  go_wp2
  go_ret2
  refine ⟨rfl, ⟨?_, ?_, G.out⟩, F.out _ _⟩
  · have := Blk.new (w.alloc (Obj.cells (madeCells #[Value.int IntKind.i64 0] m) 2)) [.slice (some ⟨w.heap.size, 0, none⟩) m m] 164
    simpa using this
  · rw [made_int]
    exact (Blk.new w _ 2).alloc _
theorem isCore_any {b g : Nat} {L : List Int} (c : Int) (w : World) (h : SL w b g L) :
    Calls Tryz.prog 182 #[.pointer (some ⟨b, 0, none⟩), .int .i64 c] w fun e w' => e = .returned (.bool (ic L c)) ∧ w' = w := by
  have c0 := h.c0
  by_cases q : 0 ≤ c
  · by_cases q2 : c < (L.length : Int)
    · rw [show ic L c = true from decide_eq_true ⟨q, q2⟩]
      clear h
      generalize L.length = l at *
      go_enter Tryz.func182, Tryz.ntmps182
      go_wp2
      go_ret
      exact ⟨rfl, rfl⟩
    · rw [show ic L c = false from decide_eq_false (by omega)]
      clear h
      generalize L.length = l at *
      go_enter Tryz.func182, Tryz.ntmps182
      go_wp2
      go_ret
      exact ⟨rfl, rfl⟩
  · rw [show ic L c = false from decide_eq_false (by omega)]
    clear h
    generalize L.length = l at *
    go_enter Tryz.func182, Tryz.ntmps182
    go_wp2
    go_ret
    exact ⟨rfl, rfl⟩
theorem ret_two {a b c d : Int} (h : a = b) (g : c = d) : Ending.returned (.tuple #[.int .i64 a, .int .i64 c]) = .returned (.tuple #[.int .i64 b, .int .i64 d]) := by rw [h, g]
set_option maxHeartbeats 400000 in
theorem nadd_any (a b : Int) (w : World) (ha : I64 a) (hb : I64 b) :
    Calls Tryz.prog 183 #[.int .i64 a, .int .i64 b] w fun e w' => e = .returned (.tuple #[.int .i64 (fv (a + b)), .int .i64 (fe (a + b))]) ∧ w' = w := by
  obtain ⟨ha1, ha2⟩ := ha
  obtain ⟨hb1, hb2⟩ := hb
  go_enter Tryz.func183, Tryz.ntmps183
  go_wp2
  all_goals
    go_ret2
    refine ⟨ret_two ?_ ?_, rfl⟩ <;> (simp only [fv, fe, wrap64] at *; split <;> omega)
set_option maxHeartbeats 1000000 in
theorem add_any {b g : Nat} {L : List Int} (c n : Int) (w : World) (h : SL w b g L) (hn : I64 n) :
    Calls Tryz.prog 124 #[.pointer (some ⟨b, 0, none⟩), .int .i64 c, .int .i64 n] w fun e w' => e = .returned (.int .i64 (adE L c n)) ∧ SL w' b g (adL L c n) ∧ Fr w.heap.size [g] w w' := by
  have c0 := h.c0
  have hl := h.len
  have C : Hid (∀ _ : Unit, _) := fun _ => isCore_any c w h
  have HS : Hid (SL w b g L) := h
  cases i : ic L c with
  | true =>
    rw [i] at C
    have hi := h.pt.at i
    have D : Hid (∀ _ : Unit, _) := fun _ => nadd_any (at' L c) n w hi hn
    obtain ⟨k, rfl⟩ := Int.eq_ofNat_of_zero_le (ic_lt i).1
    have hk : (k : Int) < L.length := (ic_lt i).2.1
    have ck := h.at k (by omega)
    have fk : w.frozen? ⟨g, k, none⟩ = false := h.sg.free k
    have ea : at' L (k : Int) = L.getD k 0 := by unfold at'; rw [Int.toNat_natCast]
    by_cases z : fe (at' L (k : Int) + n) = 0
    · have zi := fe_zero z
      rw [(fe_ok zi).1, (fe_ok zi).2] at D
      rw [show adE L k n = 0 by unfold adE; rw [if_pos i, z], show adL L k n = L.set k (at' L k + n) by unfold adL; rw [if_pos ⟨i, z⟩, Int.toNat_natCast]]
      have ST : Hid (SL (w.setCell ⟨g, k, none⟩ (.int .i64 (at' L k + n))) b g (L.set k (at' L k + n))) := sl_set h k _ zi
      rw [ea] at D ST ⊢
      clear h i zi z hi ea hn
      obtain ⟨s, hs⟩ : ∃ s, L.getD k 0 + n = s := ⟨_, rfl⟩
      rw [hs] at D ST ⊢
      clear hs
      generalize L.getD k 0 = x at *
      generalize L.length = l at *
      go_enter Tryz.func124, Tryz.ntmps124
      go_wp2_with fail
      refine (C.out ()).mono ?_
      rintro e w' ⟨rfl, rfl⟩
      go_wp2_with fail
      refine (D.out ()).mono ?_
      rintro e w' ⟨rfl, rfl⟩
      go_wp2
      go_ret
      exact ⟨rfl, ST.out, (Fr.refl _ _ _).setCell (Or.inr (by simp)) _⟩
    · have zi : ¬ I64 (at' L (k : Int) + n) := fun q => z (fe_ok q).1
      rw [(fe_no zi).1, (fe_no zi).2] at D
      rw [show adE L k n = 16 by unfold adE; rw [if_pos i, (fe_no zi).1], show adL L k n = L by unfold adL; rw [if_neg (fun q => z q.2)]]
      rw [ea] at D
      clear h i zi z hi ea hn
      generalize L.getD k 0 = x at *
      generalize L.length = l at *
      go_enter Tryz.func124, Tryz.ntmps124
      go_wp2_with fail
      refine (C.out ()).mono ?_
      rintro e w' ⟨rfl, rfl⟩
      go_wp2_with fail
      refine (D.out ()).mono ?_
      rintro e w' ⟨rfl, rfl⟩
      go_wp2
      go_ret
      exact ⟨rfl, HS.out, Fr.refl _ _ _⟩
  | false =>
    rw [i] at C
    rw [show adE L c n = 3 from if_neg (by rw [i]; simp), show adL L c n = L from if_neg (by rw [i]; simp)]
    clear h i
    generalize L.length = l at *
    go_enter Tryz.func124, Tryz.ntmps124
    go_wp2_with fail
    refine (C.out ()).mono ?_
    rintro e w' ⟨rfl, rfl⟩
    go_wp2
    go_ret
    exact ⟨rfl, HS.out, Fr.refl _ _ _⟩
end Go.Proofs.YtfipiifickdeiaaGreatDoor.Spl
namespace Go.Proofs.YtfipiifickdeiaaGreatDoor.Spl
open Go.ChangeShapes Go.WideShapes Go.ChangeAt Go.RowKit
open Pm
theorem add64_run (x y : Int) (hx : 0 ≤ x) (hy : 0 ≤ y) (w : World) :
    (callFunc 355 #[.int .u64 x, .int .u64 y, .int .u64 0]).run Tryz.prog w = .ok (.value (.tuple #[.int .u64 ((x + y + 0) % 18446744073709551616), .int .u64 ((x + y + 0) / 18446744073709551616)])) w := by
  rw [run_callFunc_extern Tryz.func355 (by kernel_rfl) (by kernel_rfl) (by kernel_rfl) (e := add64Entry) (by kernel_rfl), run_add64 x y 0 hx hy (by omega) (by omega)]
  rfl
theorem signs_any (n : Int) (w : World) (hn : I64 n) : Calls Tryz.prog 356 #[.int .i64 n] w fun e w' => e = .returned (.int .u64 (sg n)) ∧ w' = w := by
  obtain ⟨h1, h2⟩ := hn
  go_enter Tryz.func356, Tryz.ntmps356
  go_wp2
  go_ret
  refine ⟨congrArg (fun z => Ending.returned (.int .u64 z)) (?_ : IntKind.u64.wrap (n / 9223372036854775808) = sg n), rfl⟩
  rw [IntKind.wrap_u64]
  unfold sg
  split <;> omega
theorem lo_ge (S : Int) : 0 ≤ lo S := by unfold lo; omega
/- The calls of a number that is not there. -/
end Go.Proofs.YtfipiifickdeiaaGreatDoor.Spl
