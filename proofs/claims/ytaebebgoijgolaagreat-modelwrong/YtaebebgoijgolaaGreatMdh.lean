/- A model's machine: what must be so; a work that is queued, one that is done. -/
import Derived.Test.YtaebebgoijgolaaGreatRows
import Derived.Test.YtaebebgoijgolaaGreatMdg
import Derived.WalkKit
import Derived.ProofKit
import Derived.OpenShut
import Derived.BigQuiet
import Derived.Deep.RegionLaw
import Derived.Deep.RegionHeld3
import Derived.Laws.EntriesVeiled
import Derived.WalkSmall
namespace Go.Proofs.YtaebebgoijgolaaGreat
open Go.ChangeShapes Go.WideShapes Go.ChangeAt Go.RowKit
set_option linter.unusedVariables false
set_option linter.unusedSimpArgs false
set_option maxRecDepth 100000

/-- What is handed up where a step may not be. -/
abbrev bad : List PanicEntry := [{ v := .iface 33 (.int .i64 6), recovered := false }]

theorem must_yes (w : World) : Calls Tryz.prog 21 #[.bool true] w fun e w' => e = .returned (.tuple #[]) ∧ w' = w := by
  go_enter Tryz.func21, Tryz.ntmps21
  go_wp2
  go_end0
  exact ⟨rfl, rfl⟩
theorem must_no (w : World) : Calls Tryz.prog 21 #[.bool false] w fun e w' => e = .panicked bad ∧ w' = w := by
  go_enter Tryz.func21, Tryz.ntmps21
  go_wp2
  simp [bodyPost]

/-- The cells of a machine. -/
def mc (c on : Int) (k r : Value) (t0 t1 t2 t3 t4 : Int) : List Value := sc c on k r ++ [.int .i64 t0, .int .i64 t1, .int .i64 t2, .int .i64 t3, .int .i64 t4]

theorem core_any (w : World) (m : Nat) (cs : List Value) (c p : Int) (h : Blk w m cs 45) (h0 : cs[0]? = some (.int .i64 c)) :
    Calls Tryz.prog 20 #[.pointer (some ⟨m, 0, none⟩), .int .i64 p] w fun e w' => e = .returned (.bool (decide (0 ≤ p) && decide (p < c))) ∧ w' = w := by
  have c0 : w.cell? ⟨m, 0, none⟩ = some (.int .i64 c) := (h.cell 0).trans h0
  by_cases q : 0 ≤ p
  · go_enter Tryz.func20, Tryz.ntmps20
    go_wp2
    go_ret
    exact ⟨by simp [q], rfl⟩
  · go_enter Tryz.func20, Tryz.ntmps20
    go_wp2
    go_ret
    exact ⟨by simp; omega, rfl⟩

abbrev mp (m : Nat) : Value := .pointer (some ⟨m, 0, none⟩)
def ev (k c i u n : Int) : List Value := [.int .i64 k, .int .i64 c, .int .i64 i, .int .u64 u, .int .i64 n]

theorem on_queue (w : World) : Calls Tryz.prog 28 #[.agg (ev 18 0 0 0 0).toArray] w fun e w' => e = .returned (.bool true) ∧ Below w.heap.size w w' := by
  have BE : Hid (Below w.heap.size w (w.alloc (.cells (ev 18 0 0 0 0).toArray 24))) := (Below.refl _ _).alloc (Nat.le_refl _) _
  unfold ev at *
  go_enter Tryz.func28, Tryz.ntmps28
  go_wp2
  go_ret
  exact ⟨rfl, BE.out⟩

theorem ce_none (w : World) (m : Nat) (k r : Value) (t0 t1 t2 t3 t4 : Int) (h : Blk w m (mc 2 3 k r t0 t1 t2 t3 t4) 45) :
    Calls Tryz.prog 29 #[mp m, .int .i64 0] w fun e w' => e = .returned (.int .i64 0) ∧ w' = w := by
  have c9 : w.cell? ⟨m, 9, none⟩ = some (.bool false) := h.cell 9
  have c1 : w.cell? ⟨m, 1, none⟩ = some (.int .u64 3) := h.cell 1
  have C1 : Hid (∀ _ : Unit, _) := fun _ => core_any w m _ 2 0 h rfl
  have C2 : Hid (∀ w, _) := fun w => has30 w
  clear h
  go_enter Tryz.func29, Tryz.ntmps29
  go_wp2_with fail
  refine (C1.out ()).mono ?_
  rintro e u1 ⟨rfl, rfl⟩
  go_wp2_with fail
  refine (C2.out _).mono ?_
  rintro e u1 ⟨rfl, rfl⟩
  go_wp2
  go_ret
  exact ⟨rfl, rfl⟩

theorem own_sl {w : World} {B : Nat} {v : Value} {xs : List Int} (h : w.ownsRow B 3 1 v xs.length (xs.map iv)) : SL w v xs := by
  rcases h.2 with ⟨hv, hn⟩ | ⟨b, cap, cur, hv, hb, hh, hn, hc, hz, ht⟩
  · rw [hv, List.eq_nil_of_length_eq_zero hn]
    exact sl_nil w
  · have o := h
    rw [hv] at o ⊢
    refine ⟨Or.inr ⟨b, 0, cap, rfl, lt_of_block hh, fun i hi => ?_⟩, fun a c e h => by subst h; cases e⟩
    rw [Nat.zero_add, o.cellAt _ (by omega), List.getElem?_map]

/-- A machine behind its list of works has turned. -/
structure MM (B : Nat) (S : List Nat) (w w' : World) (m : Nat) (r : Value) (u : Value) (xs : List Int) (t0 t1 t2 t3 t4 : Int) : Prop where
  blk : Blk w' m (mc 2 3 u r t0 t1 t2 t3 t4) 45
  fr : Fr w.heap.size S w w'
  own : w'.ownsRow B 3 1 u xs.length (xs.map iv)

theorem MO.mm {w w' : World} {m : Nat} {r u k : Value} {xs : List Int} {t0 t1 t2 t3 t4 : Int} {B : Nat} {S : List Nat} (h : MO 45 B S w w' m ((mc 2 3 k r t0 t1 t2 t3 t4).set 6 u) u xs) : MM B S w w' m r u xs t0 t1 t2 t3 t4 :=
  ⟨h.blk, h.fr, h.own⟩
theorem MM.from {B : Nat} {S : List Nat} {w w1 w' : World} {m : Nat} {u r : Value} {xs : List Int} {t0 t1 t2 t3 t4 : Int} (h : MM B S w1 w' m r u xs t0 t1 t2 t3 t4) (b : Below w.heap.size w w1) (hB : w.heap.size ≤ B) : MM w.heap.size S w w' m r u xs t0 t1 t2 t3 t4 :=
  ⟨h.blk, ((Fr.of_below b).mono (Nat.le_refl _) (by simp)).trans (h.fr.less b.size), own_base h.own hB⟩

set_option maxHeartbeats 1000000 in
theorem stores_queue (w : World) (m : Nat) (r : Value) (t0 t1 t2 t3 t4 : Int) (h : Blk w m (mc 2 3 (.slice none 0 0) r t0 t1 t2 t3 t4) 45) :
    Calls Tryz.prog 37 #[mp m, .agg (ev 18 0 0 0 0).toArray] w fun e w' => e = .returned (.tuple #[.int .i64 1, .int .i64 0]) ∧ ∃ u, MM w.heap.size [m] w w' m r u [1] t0 t1 t2 t3 t4 := by
  have B0 : Below w.heap.size w (w.alloc (.cells (ev 18 0 0 0 0).toArray 24)) := (Below.refl _ _).alloc (Nat.le_refl _) _
  have CW : Hid (∀ _ : Unit, Calls Tryz.prog 45 #[mp m] (w.alloc (.cells (ev 18 0 0 0 0).toArray 24)) fun e w' => e = .returned (.agg (lc ⟨m, 6, none⟩ 32).toArray) ∧ Below w.heap.size w w') := fun _ => (works_any _ m (by have := h.lt; simp; omega)).mono fun e w' ⟨he, hb⟩ => ⟨he, B0.trans (hb.mono (by simp))⟩
  have CA : Hid (∀ V : World, Below w.heap.size w V → Calls Tryz.prog 63 #[.agg (lc ⟨m, 6, none⟩ 32).toArray, .func (.func 64) #[] #[]] V fun e w' => e = .returned (.tuple #[.int .i64 1, .int .i64 0]) ∧ Hid (∃ u, MM w.heap.size [m] w w' m r u [1] t0 t1 t2 t3 t4)) := fun V hV => by
    refine (add_first V _ m 6 _ ((hV.block m h.lt).trans h) (by decide) rfl).mono ?_
    rintro e w' ⟨rfl, u, q⟩
    exact ⟨rfl, u, q.mm.from hV hV.size⟩
  unfold ev lc mp at *
  clear h B0
  go_enter Tryz.func37, Tryz.ntmps37
  go_wp2_with fail
  refine (CW.out ()).mono ?_
  rintro e v1 ⟨rfl, b1⟩
  go_wp2_with fail
  refine (CA.out _ b1).mono ?_
  rintro e v2 ⟨rfl, FF⟩
  go_wp2
  go_ret2
  exact ⟨rfl, FF.out⟩

set_option maxHeartbeats 2000000 in
theorem answer_queue (w : World) (m : Nat) (r : Value) (t0 t1 t2 t3 t4 : Int) (h : Blk w m (mc 2 3 (.slice none 0 0) r t0 t1 t2 t3 t4) 45) :
    Calls Tryz.prog 23 #[mp m, .agg (ev 18 0 0 0 0).toArray] w fun e w' => e = .returned (.tuple #[.int .i64 1, .int .i64 0]) ∧ ∃ u, MM w.heap.size [m] w w' m r u [1] t0 t1 t2 t3 t4 := by
  have B0 : Below w.heap.size w (w.alloc (.cells (ev 18 0 0 0 0).toArray 24)) := (Below.refl _ _).alloc (Nat.le_refl _) _
  have K0 : Blk (w.alloc (.cells (ev 18 0 0 0 0).toArray 24)) w.heap.size (ev 18 0 0 0 0) 24 := Blk.new w _ _
  have CO : Hid (∀ _ : Unit, Calls Tryz.prog 28 #[.agg (ev 18 0 0 0 0).toArray] (w.alloc (.cells (ev 18 0 0 0 0).toArray 24)) fun e w' => e = .returned (.bool true) ∧ Below w.heap.size w w' ∧ Blk w' w.heap.size (ev 18 0 0 0 0) 24) := fun _ => (on_queue _).mono fun e w' ⟨he, hb⟩ => ⟨he, B0.trans (hb.mono (by simp)), K0.below hb⟩
  have CE : Hid (∀ V : World, Below w.heap.size w V → Calls Tryz.prog 29 #[mp m, .int .i64 0] V fun e w' => e = .returned (.int .i64 0) ∧ w' = V) := fun V hV => ce_none V m _ r t0 t1 t2 t3 t4 ((hV.block m h.lt).trans h)
  have CS : Hid (∀ V : World, Below w.heap.size w V → Calls Tryz.prog 37 #[mp m, .agg (ev 18 0 0 0 0).toArray] V fun e w' => e = .returned (.tuple #[.int .i64 1, .int .i64 0]) ∧ Hid (∃ u, MM w.heap.size [m] w w' m r u [1] t0 t1 t2 t3 t4)) := fun V hV => by
    refine (stores_queue V m r t0 t1 t2 t3 t4 ((hV.block m h.lt).trans h)).mono ?_
    rintro e w' ⟨rfl, u, q⟩
    exact ⟨rfl, u, q.from hV hV.size⟩
  unfold ev mp at *
  clear h B0 K0
  go_enter Tryz.func23, Tryz.ntmps23
  go_wp2_with fail
  refine (CO.out ()).mono ?_
  rintro e v1 ⟨rfl, b1, k1⟩
  have j0 : v1.cell? ⟨w.heap.size, 0, none⟩ = some (.int .i64 18) := k1.cell 0
  have j1 : v1.cell? ⟨w.heap.size, 1, none⟩ = some (.int .i64 0) := k1.cell 1
  have j2 : v1.cell? ⟨w.heap.size, 2, none⟩ = some (.int .i64 0) := k1.cell 2
  have j3 : v1.cell? ⟨w.heap.size, 3, none⟩ = some (.int .u64 0) := k1.cell 3
  have j4 : v1.cell? ⟨w.heap.size, 4, none⟩ = some (.int .i64 0) := k1.cell 4
  clear k1
  go_wp2_with fail
  refine (CE.out _ b1).mono ?_
  rintro e v1 ⟨rfl, rfl⟩
  go_wp2_with fail
  refine (CS.out _ b1).mono ?_
  rintro e v2 ⟨rfl, FF⟩
  go_wp2
  go_ret2
  exact ⟨rfl, FF.out⟩
end Go.Proofs.YtaebebgoijgolaaGreat
