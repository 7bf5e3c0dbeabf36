/- Two states of a model that are alike; a new state. -/
import Derived.Test.YtaebebgoijgolaaGreatRows
import Derived.Test.YtaebebgoijgolaaGreatMdb
import Derived.Laws.ResultCell
import Derived.WalkKit
import Derived.ProofKit
import Derived.OpenShut
import Derived.BigQuiet
import Derived.Deep.RegionHeld3
namespace Go.Proofs.YtaebebgoijgolaaGreat
open Go.ChangeShapes Go.WideShapes Go.ChangeAt Go.RowKit
set_option linter.unusedVariables false
set_option linter.unusedSimpArgs false
set_option maxRecDepth 100000

/-- Two states in boxes. -/
structure SB (w u : World) (cs ds : List Value) : Prop where
  b0 : Blk u w.heap.size cs 32
  b1 : Blk u (w.heap.size + 1) ds 32
  be : Below w.heap.size w u
theorem SB.below {w u u' : World} {cs ds : List Value} (h : SB w u cs ds) (f : Below u.heap.size u u') : SB w u' cs ds := ⟨h.b0.below f, h.b1.below f, h.be.trans (f.mono h.be.size)⟩
theorem sb_start (w : World) (cs ds : List Value) : SB w ((w.alloc (.cells cs.toArray 32)).alloc (.cells ds.toArray 32)) cs ds :=
  ⟨(Blk.new w cs _).alloc _, by have := Blk.new (w.alloc (.cells cs.toArray 32)) ds 32; simpa using this, ((Below.refl _ _).alloc (Nat.le_refl _) _).alloc (by simp) _⟩

set_option maxHeartbeats 4000000 in
theorem same_any {w : World} {c on : Int} {k r k' r' : Value} {xs ys : List Int} (hk : ORow iv w k xs) (hr : ORow iv w r ys) (hk' : ORow iv w k' xs) (hr' : ORow iv w r' ys) (lx : xs.length ≤ 1000) (ly : ys.length ≤ 1000) :
    Calls Tryz.prog 6 #[.agg (sc c on k r).toArray, .agg (sc c on k' r').toArray] w fun e w' => e = .returned (.bool true) ∧ Below w.heap.size w w' := by
  have C1 : Hid (∀ w, _) := fun w => equal_t w
  have C2 : Hid (∀ w, _) := fun w => equal_m w
  have C3 : Hid (∀ w, _) := fun w => equal_q w
  have C4 : Hid (∀ w, _) := fun w => equal_any (w := w) (v := .slice none 0 0) (u := .slice none 0 0) (xs := []) (Or.inl ⟨rfl, none, 0, rfl⟩) (Or.inl ⟨rfl, none, 0, rfl⟩) (by simp)
  have CK : Hid (∀ u : World, Below w.heap.size w u → _) := fun u f => equal_any (hk.below f) (hk'.below f) lx
  have CR : Hid (∀ u : World, Below w.heap.size w u → _) := fun u f => equal_any (hr.below f) (hr'.below f) ly
  have I0 := sb_start w (sc c on k r) (sc c on k' r')
  obtain ⟨a, cap, rfl⟩ := hk.shape
  obtain ⟨a', cap', rfl⟩ := hk'.shape
  obtain ⟨b, cbp, rfl⟩ := hr.shape
  obtain ⟨b', cbp', rfl⟩ := hr'.shape
  unfold sc at I0 ⊢
  clear hk hr hk' hr'
  go_enter Tryz.func6, Tryz.ntmps6
  go_wp2_with fail
  have I1 : Hid (SB w ((w.alloc (.cells #[.int .i64 c, .int .u64 on, .int .i64 0, .slice none 0 0, .slice none 0 0, .slice none 0 0, .slice a xs.length cap, .slice none 0 0, .slice none 0 0, .bool false, .bool false, .int .i64 0, .slice b ys.length cbp] 32)).alloc (.cells #[.int .i64 c, .int .u64 on, .int .i64 0, .slice none 0 0, .slice none 0 0, .slice none 0 0, .slice a' xs.length cap', .slice none 0 0, .slice none 0 0, .bool false, .bool false, .int .i64 0, .slice b' ys.length cbp'] 32)) _ _) := I0
  clear I0
  generalize (w.alloc (.cells #[.int .i64 c, .int .u64 on, .int .i64 0, .slice none 0 0, .slice none 0 0, .slice none 0 0, .slice a xs.length cap, .slice none 0 0, .slice none 0 0, .bool false, .bool false, .int .i64 0, .slice b ys.length cbp] 32)).alloc (.cells #[.int .i64 c, .int .u64 on, .int .i64 0, .slice none 0 0, .slice none 0 0, .slice none 0 0, .slice a' xs.length cap', .slice none 0 0, .slice none 0 0, .bool false, .bool false, .int .i64 0, .slice b' ys.length cbp'] 32) = u at *
  refine (C1.out _).mono ?_
  rintro e u1 ⟨rfl, rfl⟩
  have p4 : u1.cell? ⟨w.heap.size, 4, none⟩ = some _ := I1.out.b0.cell 4
  have q4 : u1.cell? ⟨w.heap.size + 1, 4, none⟩ = some _ := I1.out.b1.cell 4
  have p5 : u1.cell? ⟨w.heap.size, 5, none⟩ = some _ := I1.out.b0.cell 5
  have q5 : u1.cell? ⟨w.heap.size + 1, 5, none⟩ = some _ := I1.out.b1.cell 5
  have p6 : u1.cell? ⟨w.heap.size, 6, none⟩ = some _ := I1.out.b0.cell 6
  have q6 : u1.cell? ⟨w.heap.size + 1, 6, none⟩ = some _ := I1.out.b1.cell 6
  go_wp2_with fail
  refine (C2.out _).mono ?_
  rintro e u1 ⟨rfl, rfl⟩
  go_wp2_with fail
  refine (C3.out _).mono ?_
  rintro e u1 ⟨rfl, rfl⟩
  go_wp2_with fail
  refine (CK.out _ I1.out.be).mono ?_
  rintro e u2 ⟨rfl, b2⟩
  have I2 : Hid (SB w u2 _ _) := I1.out.below b2
  clear p4 q4 p5 q5 p6 q6 I1 b2
  have p7 : u2.cell? ⟨w.heap.size, 7, none⟩ = some _ := I2.out.b0.cell 7
  have q7 : u2.cell? ⟨w.heap.size + 1, 7, none⟩ = some _ := I2.out.b1.cell 7
  go_wp2_with fail
  refine (C4.out _).mono ?_
  rintro e u3 ⟨rfl, b2⟩
  have I3 : Hid (SB w u3 _ _) := I2.out.below b2
  clear p7 q7 I2 b2
  have p8 : u3.cell? ⟨w.heap.size, 8, none⟩ = some _ := I3.out.b0.cell 8
  have q8 : u3.cell? ⟨w.heap.size + 1, 8, none⟩ = some _ := I3.out.b1.cell 8
  go_wp2_with fail
  refine (C4.out _).mono ?_
  rintro e u4 ⟨rfl, b2⟩
  have I4 : Hid (SB w u4 _ _) := I3.out.below b2
  clear p8 q8 I3 b2
  have p9 : u4.cell? ⟨w.heap.size, 12, none⟩ = some _ := I4.out.b0.cell 12
  have q9 : u4.cell? ⟨w.heap.size + 1, 12, none⟩ = some _ := I4.out.b1.cell 12
  go_wp2_with fail
  refine (CR.out _ I4.out.be).mono ?_
  rintro e u5 ⟨rfl, b2⟩
  have I5 : Hid (SB w u5 _ _) := I4.out.below b2
  go_wp2
  go_ret
  exact ⟨rfl, I5.out.be⟩

theorem bit2 (w : World) : Calls Tryz.prog 24 #[.int .i64 2] w fun e w' => e = .returned (.int .u64 4) ∧ w' = w := by
  go_enter Tryz.func24, Tryz.ntmps24
  go_wp2
  go_ret
  exact ⟨rfl, rfl⟩
theorem bit0 (w : World) : Calls Tryz.prog 24 #[.int .i64 0] w fun e w' => e = .returned (.int .u64 1) ∧ w' = w := by
  go_enter Tryz.func24, Tryz.ntmps24
  go_wp2
  go_ret
  exact ⟨rfl, rfl⟩
theorem upto2 (w : World) : Calls Tryz.prog 15 #[.int .i64 2] w fun e w' => e = .returned (.int .u64 3) ∧ w' = w := by
  have C : Hid (∀ w, _) := fun w => bit2 w
  go_enter Tryz.func15, Tryz.ntmps15
  go_wp2_with fail
  refine (C.out _).mono ?_
  rintro e u1 ⟨rfl, rfl⟩
  go_wp2
  go_ret
  exact ⟨rfl, rfl⟩
theorem has30 (w : World) : Calls Tryz.prog 26 #[.int .u64 3, .int .i64 0] w fun e w' => e = .returned (.bool true) ∧ w' = w := by
  have C : Hid (∀ w, _) := fun w => bit0 w
  go_enter Tryz.func26, Tryz.ntmps26
  go_wp2_with fail
  refine (C.out _).mono ?_
  rintro e u1 ⟨rfl, rfl⟩
  go_wp2
  go_ret
  exact ⟨rfl, rfl⟩

theorem mkints (n : Nat) (hn : n ≤ 1000) (w : World) : (Instr.makeSlice 27 (.int .i64 (n : Int)) (.int .i64 (n : Int))).run Tryz.prog w = .ok (.slice (some ⟨w.heap.size, 0, none⟩) n n) (w.alloc (.cells ((List.replicate n (0 : Int)).map iv).toArray 3)) := by
  obtain ⟨i0, hi, hz⟩ := Option.map_eq_some_iff.1 Tryz.info3
  simp only [Prod.mk.injEq] at hz
  obtain ⟨hz0, hz1, hz2⟩ := hz
  have := run_make (P := Tryz.prog) w 27 3 i0 _ Tryz.underlying27 hi hz0 .i64 .i64 n n (by omega) (by omega) (by rw [hz2]; omega) (by omega)
  rw [this, hz1, ← made_int]
  simp [Value.cells]
theorem sl_made (w : World) (n : Nat) : SL (w.alloc (.cells ((List.replicate n (0 : Int)).map iv).toArray 3)) (.slice (some ⟨w.heap.size, 0, none⟩) n n) (List.replicate n 0) :=
  ⟨orow_new w _ 3 n n (by simp), fun a cap e h => by subst h; cases e⟩

theorem ct_ret {f : Func} {w : World} {z p u : Nat} {cs : List Value} {v : Value} {tmps : Array Value} (hf : f.results = #[.cell p 32, .tmp u]) (h : Blk w z cs 32) (hl : cs.length = 13) (h1 : tmps.getD p undef = .pointer (some ⟨z, 0, none⟩)) (h2 : tmps.getD u undef = v) :
    (results f tmps).run Tryz.prog w = .ok (.tuple #[.agg cs.toArray, v]) w := by
  rw [results_cell_tmp hf, h1, h2]
  simp [asAddr, run_loadVar_row w z 32 32 cs.toArray (0, 0) _ h Tryz.underlying32 rfl (by rw [size_st]; simp [hl])]

set_option maxHeartbeats 4000000 in
theorem new2 (w : World) : Calls Tryz.prog 7 #[.int .i64 2] w fun e w' => ∃ r, e = .returned (.tuple #[.agg (sc 2 3 (.slice none 0 0) r).toArray, .int .i64 0]) ∧ Below w.heap.size w w' ∧ SL w' r [0, 0] := by
  have C : Hid (∀ w, _) := fun w => upto2 w
  have hmk : ∀ v : World, (Instr.makeSlice 27 (.int .i64 2) (.int .i64 2)).run Tryz.prog v = .ok (.slice (some ⟨v.heap.size, 0, none⟩) 2 2) (v.alloc (.cells #[.int .i64 0, .int .i64 0] 3)) := fun v => mkints 2 (by decide) v
  have SM : Hid (SL ((w.alloc (.cells (sc 2 3 (.slice none 0 0) (.slice (some ⟨w.heap.size + 1, 0, none⟩) 2 2)).toArray 32)).alloc (.cells #[.int .i64 0, .int .i64 0] 3)).drew (.slice (some ⟨w.heap.size + 1, 0, none⟩) 2 2) [0, 0]) := by
    have := sl_made (w.alloc (.cells (sc 2 3 (.slice none 0 0) (.slice (some ⟨w.heap.size + 1, 0, none⟩) 2 2)).toArray 32)) 2
    rw [show (w.alloc (.cells (sc 2 3 (.slice none 0 0) (.slice (some ⟨w.heap.size + 1, 0, none⟩) 2 2)).toArray 32)).heap.size = w.heap.size + 1 by simp] at this
    exact ⟨this.1.heap rfl, this.2⟩
  unfold sc
  go_enter Tryz.func7, Tryz.ntmps7
  go_wp2
  go_region_with (first | (go_at_call 15; refine (C.out _).mono ?_; rintro e v1 ⟨rfl, rfl⟩))
  all_goals (
    go_wp2
    exact bodyPost_ret (ct_ret (f := Tryz.f7) (p := 2) (u := 3) (cs := sc 2 3 (.slice none 0 0) (.slice (some ⟨w.heap.size + 1, 0, none⟩) 2 2)) rfl (((Blk.new w _ _).alloc _).heap rfl) rfl rfl rfl) rfl ⟨_, rfl, (((Below.refl _ _).alloc (Nat.le_refl _) _).alloc (by simp) _).drew, SM.out⟩)
end Go.Proofs.YtaebebgoijgolaaGreat
