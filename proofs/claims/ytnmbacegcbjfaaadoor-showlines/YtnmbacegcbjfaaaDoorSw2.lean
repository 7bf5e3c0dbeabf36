/- Records as lines: a record's line. -/
import Derived.Test.YtnmbacegcbjfaaaDoorRows
import Derived.Test.YtnmbacegcbjfaaaDoorSw1
import Derived.Laws.ResultCell
import Derived.Deep.RegionHeld3
import Derived.Deep.RegionLaw
import Derived.WalkKit
import Derived.ProofKit
import Derived.OpenShut
import Derived.BigQuiet
import Derived.WalkSmall
import Derived.WalkSpells
namespace Go.Proofs.YtnmbacegcbjfaaaDoor
open Go.ChangeShapes Go.WideShapes Go.ChangeAt Go.RowKit
open Wd Mm
set_option linter.unusedVariables false
set_option linter.unusedSimpArgs false
set_option maxRecDepth 100000
open Sv

theorem size_fl : (Tryd.prog.info? 41).map (·.size) = some 4 := by kernel_rfl
theorem of_ret {w : World} {z : Nat} {cs : List Value} {tmps : Array Value} (h : Blk w z cs 41) (hl : cs.length = 4) (h2 : tmps.getD 2 undef = .pointer (some ⟨z, 0, none⟩)) :
    (results Tryd.f16 tmps).run Tryd.prog w = .ok (.agg cs.toArray) w :=
  results_cell_row (p := 2) (ty := 41) rfl tmps w z 41 cs.toArray (0, 0) _ h2 h Tryd.underlying41 rfl (by rw [size_fl]; simp [hl])

def fls (r : Sv.R) : List Value := [.int .i64 r.c, .int .i64 r.i, .int .i64 r.n, .int .i64 r.y]
set_option maxHeartbeats 1000000 in
theorem of_any (r : Sv.R) (w : World) :
    Calls Tryd.prog 16 #[.agg (R.vals r).toArray] w fun e w' => e = .returned (.agg (fls r).toArray) ∧ Below w.heap.size w w' := by
  have KB : Hid (∀ cs : List Value, Blk (((w.alloc (.cells (R.vals r).toArray 28)).alloc (.cells cs.toArray 41))) (w.heap.size + 1) cs 41) := fun cs => by
    have := Blk.new (w.alloc (.cells (R.vals r).toArray 28)) cs 41
    rwa [World.size_alloc] at this
  have BB : Hid (∀ cs : List Value, Below w.heap.size w ((w.alloc (.cells (R.vals r).toArray 28)).alloc (.cells cs.toArray 41))) := fun cs => ((Below.refl _ _).alloc (Nat.le_refl _) _).alloc (by simp) _
  obtain ⟨k, c, i, n, y⟩ := r
  dsimp only [R.vals, fls] at KB BB ⊢
  go_enter Tryd.func16, Tryd.ntmps16
  go_wp2
  exact bodyPost_ret (of_ret (KB.out _) rfl rfl) rfl ⟨rfl, BB.out _⟩

/-- The fields of a line, the letters, the numbers. -/
def lts4 : List UInt8 := [99, 105, 110, 101]
def nms4 (r : Sv.R) : List Int := [r.c, r.i, r.n, r.y]
def ln4 (r : Sv.R) : Nat → List UInt8
  | 0 => []
  | 1 => fw 99 r.c
  | 2 => fw 99 r.c ++ fw 105 r.i
  | 3 => fw 99 r.c ++ fw 105 r.i ++ fw 110 r.n
  | _ => fw 99 r.c ++ fw 105 r.i ++ fw 110 r.n ++ fw 101 r.y
theorem ln4_next (r : Sv.R) (k : Nat) (h : k < 4) : ln4 r (k + 1) = ln4 r k ++ fw (lts4.getD k 0) ((nms4 r).getD k 0) := by
  obtain rfl | rfl | rfl | rfl : k = 0 ∨ k = 1 ∨ k = 2 ∨ k = 3 := by omega
  all_goals simp [ln4, lts4, nms4]
theorem ln4_len (r : Sv.R) (hr : r.wf) (k : Nat) (h : k < 5) : (ln4 r k).length ≤ 92 := by
  have h1 := fw_len 99 r.c hr.c
  have h2 := fw_len 105 r.i hr.i
  have h3 := fw_len 110 r.n hr.n
  have h4 := fw_len 101 r.y hr.y
  obtain rfl | rfl | rfl | rfl | rfl : k = 0 ∨ k = 1 ∨ k = 2 ∨ k = 3 ∨ k = 4 := by omega
  all_goals simp [ln4]
  all_goals omega
theorem nms4_in (r : Sv.R) (hr : r.wf) (k : Nat) (h : k < 4) : inR ((nms4 r).getD k 0) := by
  obtain rfl | rfl | rfl | rfl : k = 0 ∨ k = 1 ∨ k = 2 ∨ k = 3 := by omega
  · exact hr.c
  · exact hr.i
  · exact hr.n
  · exact hr.y
theorem idx4_run (c i n y : Int) (k : Nat) (h : k < 4) (W : World) : (Instr.index 41 (.agg #[.int .i64 c, .int .i64 i, .int .i64 n, .int .i64 y]) (.int .i64 (k : Int))).run Tryd.prog W = .ok (.int .i64 ([c, i, n, y].getD k 0)) W := by
  obtain rfl | rfl | rfl | rfl : k = 0 ∨ k = 1 ∨ k = 2 ∨ k = 3 := by omega
  all_goals rfl
theorem lt_run (k : Nat) (h : k < 4) (W : World) : (Instr.slice 9 (.string (sb [99, 105, 110, 101])) (some (.int .i64 (k : Int))) (some (.int .i64 ((k : Int) + 1))) none).run Tryd.prog W = .ok (.string (sb [lts4.getD k 0])) W := by
  have := slice_run [99, 105, 110, 101] k h W
  rw [this]
  obtain rfl | rfl | rfl | rfl : k = 0 ∨ k = 1 ∨ k = 2 ∨ k = 3 := by omega
  all_goals rfl

set_option maxHeartbeats 4000000 in
theorem line_any (r : Sv.R) (hr : r.wf) (w : World) (g : GW w) :
    Calls Tryd.prog 7 #[.agg (R.vals r).toArray] w fun e w' => e = .returned (.string (sb (rl r))) ∧ Below w.heap.size w w' := by
  have BA : Hid (Below w.heap.size w (w.alloc (.cells (R.vals r).toArray 28))) := (Below.refl _ _).alloc (Nat.le_refl _) _
  by_cases hk : isR r.k
  · have CO : Hid (∀ w, _) := fun w => of_any r w
    have g2 := nrk_pos hk
    have g1 := g.below BA.out
    have a0 := g1.nr _ g2.1
    have kn : ((r.k.toNat : Nat) : Int) = r.k := by unfold isR at hk; omega
    have LE : Hid (∀ k, k < 5 → (nrk r.k.toNat ++ ln4 r k).length ≤ 98) := fun k hk => by
      have := nrk_len r.k.toNat
      have := ln4_len r hr k hk
      rw [List.length_append]
      omega
    have NX : Hid (∀ k, k < 4 → ln4 r (k + 1) = ln4 r k ++ fw (lts4.getD k 0) ((nms4 r).getD k 0)) := fun k hk => ln4_next r k hk
    have IN : Hid (∀ k, k < 4 → inR ((nms4 r).getD k 0)) := fun k hk => nms4_in r hr k hk
    have CF : Hid (∀ (u : World), Below w.heap.size w u → ∀ n, inR n → _) := fun u b n hn => fmt_any n u (g.below b) hn
    have IX : Hid (∀ (k : Nat) (h : k < 4) (W : World), _) := fun k h W => idx4_run r.c r.i r.n r.y k h W
    have EN : Hid (nrk r.k.toNat ++ ln4 r 4 = rl r) := by
      show _ = _
      rw [rl_yes hk]
      simp [ln4, tl]
    rw [show [r.c, r.i, r.n, r.y] = nms4 r from rfl] at IX
    generalize nms4 r = Y at *
    have LN0 : Hid (ln4 r 0 = []) := rfl
    generalize ln4 r = LN at *
    generalize rl r = R1 at *
    generalize nrk r.k.toNat = nm at *
    have k1 : (1 : Int) ≤ r.k := hk.1
    have k7 : r.k ≤ 7 := hk.2
    have k0 : ¬ r.k < 1 := by omega
    have k8 : ¬ (7 : Int) < r.k := by omega
    have k9 : decide (r.k < 1) = false := decide_eq_false k0
    have k10 : decide ((7 : Int) < r.k) = false := decide_eq_false k8
    have c0 : (w.alloc (.cells (R.vals r).toArray 28)).cell? ⟨0, r.k.toNat, none⟩ = some (.string (sb nm)) := a0
    obtain ⟨q, hq⟩ : ∃ q, r.k.toNat = q := ⟨_, rfl⟩
    rw [hq] at c0 kn
    obtain ⟨k, c, i, n, y⟩ := r
    simp only at kn
    subst kn
    dsimp only [R.vals, fls] at *
    clear hk g2 g1 a0 hq hr g k0 k8
    go_enter Tryd.func7, Tryd.ntmps7
    go_wp2_with fail
    refine (CO.out _).mono ?_
    rintro e u ⟨rfl, bu⟩
    have BU : Hid (Below w.heap.size w u) := BA.out.trans (bu.mono BA.out.size)
    clear bu BA CO
    go_wp2
    go_loopw [3, 20] (fun l i wr => ∃ k : Nat, (k : Int) ≤ 4 ∧ i = .int .i64 k ∧ l = .string (sb (nm ++ LN k)) ∧ Hid (Below w.heap.size w wr)) (fun _ i _ => 4 - (intOf i).toNat)
    case atStart => exact ⟨0, by omega, rfl, by rw [LN0.out, List.append_nil], BU⟩
    case round =>
      obtain ⟨k, hk, rfl, rfl, B⟩ := hrel
      by_cases h : (k : Int) < 4
      · have hk4 : k < 4 := by omega
        have hix : ∀ W, _ := fun W => IX.out k hk4 W
        have hlt : ∀ W, _ := fun W => lt_run k hk4 W
        have wk : IntKind.i64.wrap ((k : Int) + 1) = (k : Int) + 1 := by rw [IntKind.wrap_i64]; omega
        have nx := NX.out k hk4
        have l0 := LE.out k (by omega)
        have l1 := LE.out (k + 1) (by omega)
        have xin := IN.out k hk4
        generalize Y.getD k 0 = x at *
        generalize lts4.getD k 0 = l at *
        by_cases hx : x = 0
        · have q1 : (x == 0) = true := by rw [beq_iff_eq]; exact hx
          have e1 : fw l x = [] := if_pos hx
          rw [e1, List.append_nil] at nx
          have HN : Hid (nm ++ LN (k + 1) = nm ++ LN k) := by rw [nx]; rfl
          clear hx e1 nx xin l0 l1
          go_wp2
          go_roundw
          case rel => exact ⟨k + 1, by omega, by go_num, by rw [HN.out], B⟩
          case measure => simp [intOf]; omega
        · have q1 : (x == 0) = false := by rw [beq_eq_false_iff_ne]; exact hx
          have e1 : fw l x = 32 :: l :: Lib.itoa x := if_neg hx
          rw [e1] at nx
          have il := Lib.itoa_length_le x xin.1 xin.2
          have HN : Hid (nm ++ LN (k + 1) = nm ++ LN k ++ 32 :: l :: Lib.itoa x) := by show _ = _; rw [nx]; simp
          have CF1 : Hid (∀ u, Below w.heap.size w u → _) := fun u b => CF.out u b x xin
          have A1 : ∀ W, (Op.stringOp .add (sb [32]) (sb [l])).run Tryd.prog W = .ok (.string (sb [32, l])) W := fun W => add_str _ _ (by simp) W
          have A2 : ∀ W, (Op.stringOp .add (sb [32, l]) (sb (Lib.itoa x))).run Tryd.prog W = .ok (.string (sb (32 :: l :: Lib.itoa x))) W := fun W => by
            rw [add_str _ _ (by simp; omega) W]
            rfl
          have A3 : ∀ W, (Op.stringOp .add (sb (nm ++ LN k)) (sb (32 :: l :: Lib.itoa x))).run Tryd.prog W = .ok (.string (sb (nm ++ LN k ++ 32 :: l :: Lib.itoa x))) W := fun W => add_str _ _ (by simp only [List.length_cons]; omega) W
          generalize nm ++ LN k ++ 32 :: l :: Lib.itoa x = X3 at *
          generalize nm ++ LN k = X0 at *
          generalize 32 :: l :: Lib.itoa x = X2 at *
          generalize Lib.itoa x = D at *
          generalize [32, l] = X1 at *
          have B0 : Hid (Below w.heap.size w wr) := B
          clear hx e1 nx xin l0 l1 il
          go_wp2
          go_region_held3 (fun _ => True) (trivial) (first | (go_at_call 17; refine (CF1.out _ ?_).mono ?_; (exact ⟨B0.out.os, B0.out.tape, B0.out.output, B0.out.size, B0.out.block⟩); rintro e v ⟨rfl, bv⟩))
          have B1 : Hid (Below w.heap.size w v) := B0.out.trans ((show Below wr.heap.size wr v from ⟨bv.os, bv.tape, bv.output, bv.size, bv.block⟩).mono B0.out.size)
          clear bv B0 B
          go_wp2
          go_roundw
          case rel => exact ⟨k + 1, by omega, by go_num, by rw [HN.out], B1⟩
          case measure => simp [intOf]; omega
      · obtain rfl : k = 4 := by omega
        rw [EN.out]
        go_wp2
        go_ret
        exact ⟨rfl, B.out⟩
  · have e0 := rl_no hk
    rw [e0]
    unfold isR at hk
    obtain ⟨k, c, i, n, y⟩ := r
    dsimp only [R.vals] at *
    by_cases h1 : k < 1
    · clear e0 hk hr g
      go_enter Tryd.func7, Tryd.ntmps7
      go_wp2
      go_ret
      exact ⟨rfl, BA.out⟩
    · have h2 : (7 : Int) < k := by omega
      have h3 : decide (k < 1) = false := decide_eq_false h1
      clear e0 hk hr g
      go_enter Tryd.func7, Tryd.ntmps7
      go_wp2
      go_ret
      exact ⟨rfl, BA.out⟩
end Go.Proofs.YtnmbacegcbjfaaaDoor
