/- A route, and which of its interrupts have been seen: what law 16's RouteOne keeps. -/
import Derived.Test.YthhgmnkgeombhaaRows
import Derived.Test.YthhgmnkgeombhaaNb
import Derived.WalkKit
import Derived.ProofKit
import Derived.OpenShut
import Derived.BigQuiet
import Derived.Deep.OwnRows
namespace Go.Proofs.Ythhgmnkgeombhaa
open Go.ChangeShapes Go.WideShapes Go.ChangeAt Go.RowKit
open Mm Nm

/-- The interrupts of a core. -/
def LN (P : Nat → Int) (u : Int) : List Nat := (List.range 16).filter (on P u)
theorem KK_LN (P : Nat → Int) (u : Int) : KK (on P u) 16 = (LN P u).map fun i : Nat => (i : Int) := rfl
theorem KK_LN_len (P : Nat → Int) (u : Int) : (KK (on P u) 16).length = (LN P u).length := by rw [KK_LN, List.length_map]
theorem KK_LN_get (P : Nat → Int) (u : Int) {j : Nat} (h : j < (LN P u).length) : (KK (on P u) 16).getD j 0 = (((LN P u).getD j 0 : Nat) : Int) := by
  rw [KK_LN, List.getD_eq_getElem?_getD, List.getElem?_map, List.getD_eq_getElem?_getD, List.getElem?_eq_getElem h]
  rfl
theorem LN_le (P : Nat → Int) (u : Int) : (LN P u).length ≤ 16 := by
  have := List.length_filter_le (on P u) (List.range 16)
  simpa [LN] using this
theorem LN_mem {P : Nat → Int} {u : Int} {i : Nat} : i ∈ LN P u ↔ i < 16 ∧ on P u i = true := by
  unfold LN
  rw [List.mem_filter, List.mem_range]
theorem LN_nodup (P : Nat → Int) (u : Int) : (LN P u).Nodup := List.nodup_range.filter _
theorem LN_at {P : Nat → Int} {u : Int} {j : Nat} (h : j < (LN P u).length) : (LN P u).getD j 0 < 16 ∧ on P u ((LN P u).getD j 0) = true := by
  apply LN_mem.1
  rw [List.getD_eq_getElem?_getD, List.getElem?_eq_getElem h]
  exact List.getElem_mem _
theorem on_is {P : Nat → Int} {u : Int} {i : Nat} (h : on P u i = true) : 0 ≤ P i ∧ P i = u := by
  unfold on at h
  rw [Bool.and_eq_true] at h
  exact ⟨of_decide_eq_true h.1, by simpa using h.2⟩

/-- Which have been seen when the cores below k are past, and these of k. -/
def sn (P : Nat → Int) (k : Nat) (L : List Nat) : Nat → Bool := fun m => decide (0 ≤ P m ∧ P m < k) || decide (m ∈ L)
theorem sn_start (P : Nat → Int) : sn P 0 [] = fun _ => false := by
  funext m
  unfold sn
  rw [decide_eq_false (by omega)]
  simp
theorem sn_end (P : Nat → Int) (k : Nat) : ∀ m, m < 16 → sn P k (LN P (k : Int)) m = sn P (k + 1) [] m := fun m hm => by
  unfold sn
  by_cases e : P m = k
  · have h1 : m ∈ LN P (k : Int) := LN_mem.2 ⟨hm, by unfold on; rw [decide_eq_true (by omega), e]; simp⟩
    rw [decide_eq_true h1, Bool.or_true, decide_eq_true (show 0 ≤ P m ∧ P m < ((k + 1 : Nat) : Int) by omega), Bool.true_or]
  · have h1 : m ∉ LN P (k : Int) := fun h => e (on_is (LN_mem.1 h).2).2
    have h2 : (0 ≤ P m ∧ P m < (k : Int)) ↔ (0 ≤ P m ∧ P m < ((k + 1 : Nat) : Int)) := by omega
    rw [decide_eq_false h1, Bool.or_false, decide_eq_decide.2 h2, decide_eq_false (List.not_mem_nil), Bool.or_false]
/-- The next one has not been seen; then it has. -/
theorem sn_not {P : Nat → Int} {k j : Nat} (h : j < (LN P (k : Int)).length) : sn P k ((LN P (k : Int)).take j) ((LN P (k : Int)).getD j 0) = false := by
  obtain ⟨_, h2⟩ := LN_at h
  have h3 := (on_is h2).2
  unfold sn
  rw [decide_eq_false (by omega), Bool.false_or]
  apply decide_eq_false
  rw [List.getD_eq_getElem?_getD, List.getElem?_eq_getElem h, Option.getD_some]
  intro hm
  obtain ⟨i, hi, e⟩ := List.mem_iff_getElem.1 hm
  rw [List.length_take] at hi
  rw [List.getElem_take] at e
  exact List.pairwise_iff_getElem.1 (LN_nodup P (k : Int)) i j (by omega) h (by omega) e
theorem sn_next {P : Nat → Int} {k j : Nat} (h : j < (LN P (k : Int)).length) (m : Nat) : sn P k ((LN P (k : Int)).take (j + 1)) m = if m = (LN P (k : Int)).getD j 0 then true else sn P k ((LN P (k : Int)).take j) m := by
  unfold sn
  rw [List.take_succ_eq_append_getElem h, List.getD_eq_getElem?_getD, List.getElem?_eq_getElem h, Option.getD_some]
  split
  · rename_i e
    rw [decide_eq_true (List.mem_append.2 (Or.inr (List.mem_singleton.2 e))), Bool.or_true]
  · rename_i e
    rw [decide_eq_decide.2 (show m ∈ (LN P (k : Int)).take j ++ [(LN P (k : Int))[j]] ↔ m ∈ (LN P (k : Int)).take j by rw [List.mem_append, List.mem_singleton]; exact ⟨fun q => q.resolve_right e, Or.inl⟩)]
/-- A core has interrupts, if it is among those that any go to. -/
theorem cl_has {P : Nat → Int} {k : Nat} (hk : k < 64) : tb (cl P 16) (k : Int) = decide (((LN P (k : Int)).length : Int) > 0) := by
  rw [tb_nat _ _ hk]
  unfold cl
  rw [bit_wl, Nat.zero_testBit, Bool.false_or, decide_eq_true hk, Bool.true_and]
  by_cases e : ∃ m, m < 16 ∧ P m = (k : Int)
  · obtain ⟨m, hm, e⟩ := e
    have h1 : m ∈ LN P (k : Int) := LN_mem.2 ⟨hm, by unfold on; rw [decide_eq_true (by omega), e]; simp⟩
    have h2 := List.length_pos_of_mem h1
    rw [decide_eq_true (show (k : Int) ∈ _ from List.mem_map.2 ⟨m, List.mem_range.2 hm, e⟩), decide_eq_true (by omega)]
  · have h1 : LN P (k : Int) = [] := by
      rw [List.eq_nil_iff_forall_not_mem]
      intro m hm
      have := LN_mem.1 hm
      exact e ⟨m, this.1, (on_is this.2).2⟩
    rw [h1, decide_eq_false, decide_eq_false (by simp)]
    intro h
    obtain ⟨m, hm, q⟩ := List.mem_map.1 h
    exact e ⟨m, List.mem_range.1 hm, q⟩

theorem Try.infoBo : (Try.prog.info? 4).map (fun i => (i.zero, i.size, i.bytes)) = some (some (.bool false), 1, 1) := by kernel_rfl
theorem made_16 : madeCells #[Value.bool false] 16 = (List.replicate 16 (Value.bool false)).toArray := by kernel_rfl

theorem mk16 (w : World) : (Instr.makeSlice 71 (.int .i64 16) (.int .i64 16)).run Try.prog w = .ok (.slice (some ⟨w.heap.size, 0, none⟩) 16 16) (w.alloc (.cells (List.replicate 16 (Value.bool false)).toArray 4)) := by
  obtain ⟨i0, hi, hz0, hz1, hz2⟩ := info_parts Try.infoBo
  have := run_make (P := Try.prog) w 71 4 i0 _ Try.underlying71 hi hz0 .i64 .i64 16 16 (by decide) (by decide) (by rw [hz2]; decide) (by decide)
  rw [hz1] at this
  rw [this]
  have e : madeCells (Value.bool false).cells ((16 : Int).toNat * 1) = (List.replicate 16 (Value.bool false)).toArray := made_16
  rw [e]
  rfl

/-- The block of those that have been seen. -/
def SB (w : World) (b : Nat) (S : Nat → Bool) : Prop := ∃ cs, Blk w b cs 4 ∧ cs.length = 16 ∧ ∀ i, i < 16 → cs[i]? = some (.bool (S i))
theorem SB.new (w : World) : SB (w.alloc (.cells (List.replicate 16 (Value.bool false)).toArray 4)) w.heap.size fun _ => false :=
  ⟨_, Blk.new w _ 4, by simp, fun i hi => by rw [List.getElem?_replicate, if_pos hi]⟩

/-- A route and what has been seen of it. -/
structure RO (w wr : World) (s b c : Nat) (P : Nat → Int) (S : Nat → Bool) : Prop where
  rt : RT wr s c P
  sb : SB wr b S
  bel : Below s w wr
  lt : s < b

theorem RO.hi {w wr : World} {s b c : Nat} {P : Nat → Int} {S : Nat → Bool} (h : RO w wr s b c P S) : b < wr.heap.size := by
  obtain ⟨cs, k, _⟩ := h.sb
  exact k.lt
theorem RO.keep {w wr w1 : World} {s b c : Nat} {P : Nat → Int} {S : Nat → Bool} (h : RO w wr s b c P S) (f : Below wr.heap.size wr w1) : RO w w1 s b c P S := by
  obtain ⟨cs, k, r⟩ := h.sb
  exact ⟨h.rt.below f, ⟨cs, k.keep (Fr.of_below f) k.lt (by simp), r⟩, h.bel.trans (f.mono (by have := h.hi; have := h.lt; omega)), h.lt⟩
theorem RO.sm {w wr w1 : World} {s b c : Nat} {P : Nat → Int} {S : Nat → Bool} (h : RO w wr s b c P S) (e : Sm w1 wr) : RO w w1 s b c P S := h.keep (e.below (Below.refl _ _))
theorem RO.cell {w wr : World} {s b c : Nat} {P : Nat → Int} {S : Nat → Bool} (h : RO w wr s b c P S) {i : Nat} (hi : i < 16) : wr.cell? ⟨b, i, none⟩ = some (.bool (S i)) ∧ wr.frozen? ⟨b, i, none⟩ = false := by
  obtain ⟨cs, k, _, r⟩ := h.sb
  exact ⟨(k.cell i).trans (r i hi), k.free i⟩
theorem RO.set {w wr : World} {s b c : Nat} {P : Nat → Int} {S S' : Nat → Bool} (h : RO w wr s b c P S) {i : Nat} (hi : i < 16) (e : ∀ m, S' m = if m = i then true else S m) : RO w (wr.setCell ⟨b, i, none⟩ (.bool true)) s b c P S' ∧ Fr wr.heap.size [b] wr (wr.setCell ⟨b, i, none⟩ (.bool true)) := by
  have hlt := h.lt
  have hhi := h.hi
  have f : Fr wr.heap.size [b] wr (wr.setCell ⟨b, i, none⟩ (.bool true)) := (Fr.refl _ _ _).setCell (Or.inr (by simp)) _
  obtain ⟨cs, k, l, r⟩ := h.sb
  refine ⟨⟨h.rt.keep f h.rt.lt (by simp; omega), ⟨_, k.set i (.bool true), by simp [l], fun j hj => ?_⟩, h.bel.trans ((f.less (by omega : s ≤ wr.heap.size)).below (fun k hk => by simp at hk; omega)), hlt⟩, f⟩
  rw [List.getElem?_set, e j]
  by_cases q : i = j
  · subst q
    rw [if_pos rfl, if_pos (by omega), if_pos rfl]
  · rw [if_neg q, if_neg (Ne.symm q)]
    exact r j hj
theorem RO.eq {w wr : World} {s b c : Nat} {P : Nat → Int} {S S' : Nat → Bool} (h : RO w wr s b c P S) (e : ∀ m, m < 16 → S m = S' m) : RO w wr s b c P S' := by
  obtain ⟨cs, k, l, r⟩ := h.sb
  exact ⟨h.rt, ⟨cs, k, l, fun i hi => by rw [← e i hi]; exact r i hi⟩, h.bel, h.lt⟩
end Go.Proofs.Ythhgmnkgeombhaa
