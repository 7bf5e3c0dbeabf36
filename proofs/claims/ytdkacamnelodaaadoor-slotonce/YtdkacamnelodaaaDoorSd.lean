/- What the document's New answers and leaves (davitref04), for every number; and that the fixed calls of layer 4's laws come out as they must. -/
import Derived.Test.YtdkacamnelodaaaDoorRows
import Derived.Test.YtdkacamnelodaaaDoorSc
import Derived.WalkKit
import Derived.ProofKit
import Derived.OpenShut
import Derived.BigQuiet
namespace Go.Proofs.YtdkacamnelodaaaDoor
open Go.ChangeShapes Go.WideShapes Go.ChangeAt Go.RowKit
open Mm Sl

/-- A table that is being made. -/
structure Mk (w wr : World) (b base k : Nat) (a : Option Addr) (cap : Nat) : Prop where
  sb : Blk wr b [.slice a k cap] 45
  own : wr.ownsRow base 4 1 (.slice a k cap) k (List.replicate k (.bool false))
  le : base ≤ wr.heap.size
  lt : b < base
  fr : Fr b [] w wr

theorem mk_start (w : World) : Mk w (w.alloc (.cells [Value.slice none 0 0].toArray 45)) w.heap.size (w.heap.size + 1) 0 none 0 :=
  ⟨Blk.new w _ _, World.ownsRow_nil _ _ _ _, by simp, by omega, (Fr.refl _ _ _).alloc (Nat.le_refl _) _⟩

theorem mk_step {w wr w1 : World} {b base k : Nat} {a a' : Option Addr} {cap cap' : Nat} {o : Obj} (h : Mk w wr b base k a cap)
    (own : w1.ownsRow base 4 1 (.slice a' (k + 1) cap') (k + 1) (List.replicate k (.bool false) ++ [.bool false])) (hg : (wr.alloc o).grownBy w1 (Value.slice a k cap).ownBlock) :
    (w1.cell? ⟨b, 0, none⟩ = some (.slice a k cap) ∧ w1.frozen? ⟨b, 0, none⟩ = false) ∧ Mk w (w1.setCell ⟨b, 0, none⟩ (.slice a' (k + 1) cap')) b base (k + 1) a' cap' := by
  have f : Fr base [] wr w1 := ((Fr.refl base [] wr).alloc h.le o).grown hg (by have := h.le; simp; omega) fun k hk => Or.inl (h.own.lt k hk).1
  have sb := h.sb.keep f h.lt (by simp)
  have e : List.replicate k (Value.bool false) ++ [.bool false] = List.replicate (k + 1) (.bool false) := by
    rw [List.replicate_succ']
  rw [e] at own
  refine ⟨⟨sb.cell 0, sb.free 0⟩, sb.set 0 _, ownsRow_setCell_below own (by exact h.lt) _, ?_, h.lt, ?_⟩
  · have := f.size
    have := h.le
    simp [World.setCell]
    omega
  · exact (h.fr.trans (f.less (by have := h.lt; omega))).setCell (Or.inl (Nat.le_refl _)) _

theorem mk_end {w wr : World} {b base m : Nat} {a : Option Addr} {cap : Nat} (h : Mk w wr b base (m + 1) a cap) (h1 : 1 ≤ m) (h2 : m ≤ 1024) : ∃ g, RT wr b g base m cap fun _ => false := by
  have own := h.own
  rcases own.2 with ⟨_, e⟩ | ⟨g, c2, cur, e, _⟩
  · omega
  · simp only [Value.slice.injEq] at e
    obtain ⟨rfl, _, rfl⟩ := e
    refine ⟨g, h.sb, ?_, h.lt, h.le, h1, h2⟩
    rw [bl_none, List.map_replicate]
    exact own

set_option maxHeartbeats 1000000 in
theorem rnew_any (m : Nat) (w : World) (h1 : (1 : Int) ≤ m) (h2 : (m : Int) ≤ 1024) :
    Calls Tryd.prog 6 #[.int .i64 (m : Int)] w fun e w' => e = .returned (.tuple #[.pointer (some ⟨w.heap.size, 0, none⟩), .int .i64 0]) ∧ (∃ g cap, RT w' w.heap.size g (w.heap.size + 1) m cap fun _ => false) ∧ Fr w.heap.size [] w w' := by
  obtain ⟨i0, hi, hz0, hz1, hz2⟩ := info_parts Tryd.info4
  have M0 := mk_start w
  have HE : Hid (∀ (wr : World) (a : Option Addr) (cap : Nat), Mk w wr w.heap.size (w.heap.size + 1) (m + 1) a cap → (∃ g cap, RT wr w.heap.size g (w.heap.size + 1) m cap fun _ => false) ∧ Fr w.heap.size [] w wr) := fun wr a cap k => by
    obtain ⟨g, r⟩ := mk_end k (by omega) (by omega)
    exact ⟨⟨g, cap, r⟩, k.fr⟩
  go_enter Tryd.func6, Tryd.ntmps6
  go_wp2
  go_loopw [5] (fun i wr => ∃ (k : Nat) (a : Option Addr) (cap : Nat), (k : Int) ≤ (m : Int) + 1 ∧ Mk w wr w.heap.size (w.heap.size + 1) k a cap ∧ i = .int .i64 k) (fun i _ => m + 2 - (intOf i).toNat)
  case atStart => exact ⟨0, none, 0, by omega, M0, rfl⟩
  case round =>
    obtain ⟨k, a, cap, hk, mk, rfl⟩ := hrel
    clear M0
    by_cases e : (k : Int) ≤ m
    · have c0 : wr.cell? ⟨w.heap.size, 0, none⟩ = some (.slice a k cap) := mk.sb.cell 0
      have hle := mk.le
      have HM : Hid (Mk w wr w.heap.size (w.heap.size + 1) k a cap) := mk
      clear mk
      go_wp2_with (at_builtin; refine wpList_append_own _ rfl _ _ 43 rfl (w.heap.size + 1) 4 i0 (.bool false) 1 1 Tryd.underlying43 hi hz0 hz1 hz2 rfl (by decide) _ _ _ rfl (HM.out.own.alloc _) ⟨_, 0, none⟩ 1 1 [.bool false] rfl rfl ?c1 ?c2 ?c3 ?c4 ?c5 ?_)
      case c1 =>
        intro j u hj
        match j, hj with
        | 0, hj => simp at hj; subst hj; exact (Blk.new _ [_] _).cell 0
      case c2 => intro u hu; simp at hu; subst hu; rfl
      case c3 => unfold maxLen; omega
      case c4 => omega
      case c5 => simp; omega
      intro v' w1 hown' hgrow _
      obtain ⟨a', cap', rfl⟩ := own_shape hown'
      obtain ⟨⟨k1, k2⟩, st⟩ := mk_step HM.out hown' hgrow
      have ST : Hid (Mk w (w1.setCell ⟨w.heap.size, 0, none⟩ (.slice a' (k + 1) cap')) w.heap.size (w.heap.size + 1) (k + 1) a' cap') := st
      clear hown' hgrow st
      go_wp2
      go_roundw
      case rel => exact ⟨k + 1, a', cap', by omega, ST.out, by go_num⟩
      case measure => simp [intOf]; omega
    · obtain rfl : k = m + 1 := by omega
      have END := HE.out _ _ _ mk
      clear mk
      go_wp2
      go_ret2
      exact ⟨rfl, END.1, END.2⟩

theorem rnew_bad (m : Int) (w : World) (h : m < 1 ∨ 1024 < m) :
    Calls Tryd.prog 6 #[.int .i64 m] w fun e w' => e = .returned (.tuple #[.pointer none, .int .i64 2]) ∧ w' = w := by
  rcases h with h | h
  · go_enter Tryd.func6, Tryd.ntmps6
    go_wp2
    go_ret2
    exact ⟨rfl, rfl⟩
  · have h2 : (1 : Int) ≤ m := by omega
    go_enter Tryd.func6, Tryd.ntmps6
    go_wp2
    go_ret2
    exact ⟨rfl, rfl⟩
end Go.Proofs.YtdkacamnelodaaaDoor
