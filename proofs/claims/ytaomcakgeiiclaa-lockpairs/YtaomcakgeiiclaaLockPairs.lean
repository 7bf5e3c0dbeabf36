/- Proved: for every list acts and every number stamp, davitlaw05.LockPairs(acts, stamp) returns true: a pair that cores write answers what the document says (200 acts at most, as the law itself says), and acts is left alone, with no condition. -/
import Derived.Test.YtaomcakgeiiclaaRows
import Derived.Test.YtaomcakgeiiclaaFo
import Derived.Test.YtaomcakgeiiclaaLd
import Derived.Test.YtaomcakgeiiclaaLe
import Derived.WalkKit
import Derived.ProofKit
import Derived.OpenShut
import Derived.Stop.Joined
import Derived.ShutString
import Derived.ChangeOld
import Derived.Below
import Derived.Carry
import Derived.Test.YtaomcakgeiiclaaFs
import Derived.Deep.DeepCutAuto
import Derived.Deep.CutBlock
import Derived.Deep.RegionHeld3
namespace Go.Proofs.Ytaomcakgeiiclaa.lockPairs
open Go.ChangeShapes Go.WideShapes Go.ChangeAt Go.RowKit
open Fm Ll
set_option linter.unusedVariables false

theorem own : ownKnob Try.prog.godebug = none := by kernel_rfl
theorem laidOut : laidOutB Try.prog = true := by kernel_rfl

set_option maxRecDepth 100000 in
set_option maxHeartbeats 4000000 in
theorem walk (a0 : Option Addr) (len0 cap0 : Nat) (X0 : Nat → Nat → Int) (a1 : Int) (w : World) (w0 : SRow w (.slice a0 len0 cap0) len0 [true, true, true, true] X0) (z0 : ∀ i, i < len0 → ∀ j, j < [true, true, true, true].length → [true, true, true, true].getD j true = true → (Lit.int .i64 (X0 i j)).wf = true) (w1 : (Lit.int .i64 a1).wf = true) :
    Calls Try.prog 5 #[.slice a0 len0 cap0, .int .i64 a1] w fun e w' => e = .returned (.bool true) ∧ Below w.heap.size w w' := by
  have KN : Hid (∀ w, _) := fun w => known_yes w
  have HR : Hid (SRow w (.slice a0 len0 cap0) len0 [true, true, true, true] X0) := w0
  have PP0 : Hid (∀ o1 o2, o1 = _ → o2 = _ → _) := fun o1 o2 h1 h2 => pp_new w o1 o2 h1 h2
  have HS : Hid (SRow w (.slice a0 len0 cap0) len0 [true, true, true, true] X0) := w0
  clear w0 z0 w1
  go_enter Try.func5, Try.ntmps5
  go_wp2
  go_loopw [7] (fun i wr => ∃ (k : Nat) (v : PV), (k : Int) ≤ 200 ∧ (k : Int) ≤ len0 ∧ PP w wr w.heap.size v ∧ Hid ((v.t : Int) ≤ k) ∧ i = .int .i64 k) (fun i _ => 200 - (intOf i).toNat)
  case atStart => exact ⟨0, _, by omega, by omega, PP0.out _ _ rfl rfl, by simp [Hid], rfl⟩
  case round =>
    obtain ⟨k, v, hk, hk2, pp, ht, rfl⟩ := hrel
    clear PP0
    by_cases h : (k : Int) < len0
    · by_cases h2 : (k : Int) < 200
      · obtain ⟨ab, off, rfl, hA⟩ := srow_cell (wr := wr) HR.out pp.bel h
        have x0 := hA 0 (by decide)
        have x1 := hA 1 (by decide)
        have x2 := hA 2 (by decide)
        have x3 := hA 3 (by decide)
        simp only [List.length_cons, List.length_nil, Nat.zero_add, Nat.reduceAdd, Nat.add_zero, fval, List.getD_cons_zero, List.getD_cons_succ, if_true] at x0 x1 x2 x3
        clear hA
        generalize X0 k 0 = y0 at *
        generalize X0 k 1 = y1 at *
        generalize X0 k 2 = y2 at *
        generalize X0 k 3 = y3 at *
        have pp2 := pp.alloc (.cells #[.int .i64 y0, .int .i64 y1, .int .i64 y2, .int .i64 y3] 51)
        have BA : Hid (Blk (wr.alloc (.cells #[.int .i64 y0, .int .i64 y1, .int .i64 y2, .int .i64 y3] 51)) wr.heap.size [.int .i64 y0, .int .i64 y1, .int .i64 y2, .int .i64 y3] 51) := Blk.new wr [.int .i64 y0, .int .i64 y1, .int .i64 y2, .int .i64 y3] 51
        have tb : (v.t : Int) ≤ 1000 := by have := ht.out; omega
        have l1 := Blk.lt pp.rb
        have KA : Hid (∀ u1 : World, Fr (wr.alloc (.cells #[.int .i64 y0, .int .i64 y1, .int .i64 y2, .int .i64 y3] 51)).heap.size [w.heap.size] (wr.alloc (.cells #[.int .i64 y0, .int .i64 y1, .int .i64 y2, .int .i64 y3] 51)) u1 → Blk u1 wr.heap.size [.int .i64 y0, .int .i64 y1, .int .i64 y2, .int .i64 y3] 51) := fun u1 f => BA.out.keep f BA.out.lt (by simp; omega)
        have KB : Hid (∀ u1 u2 : World, Fr (wr.alloc (.cells #[.int .i64 y0, .int .i64 y1, .int .i64 y2, .int .i64 y3] 51)).heap.size [w.heap.size] (wr.alloc (.cells #[.int .i64 y0, .int .i64 y1, .int .i64 y2, .int .i64 y3] 51)) u1 → Blk u1 wr.heap.size [.int .i64 y0, .int .i64 y1, .int .i64 y2, .int .i64 y3] 51 → Fr u1.heap.size [w.heap.size + 1] u1 u2 → Blk u2 wr.heap.size [.int .i64 y0, .int .i64 y1, .int .i64 y2, .int .i64 y3] 51) := fun u1 u2 _ b f => b.keep f b.lt (by simp; omega)
        clear pp l1
        go_upto_block 2 with (fail)
        go_cut [7, 8] (fun i pa wx => i = .int .i64 k ∧ pa = .pointer (some ⟨wr.heap.size, 0, none⟩) ∧ ∃ v2, PP w wx w.heap.size v2 ∧ Blk wx wr.heap.size [.int .i64 y0, .int .i64 y1, .int .i64 y2, .int .i64 y3] 51 ∧ Hid ((v2.t : Int) ≤ (k : Int) + 1))
        case first =>
          by_cases t0 : y0.tmod 4 = 0
          · have e0 : (y0.tmod 4 == 0) = true := by simpa using t0
            clear t0
            have C1 : Hid (∀ u : World, Sm u (wr.alloc (.cells #[.int .i64 y0, .int .i64 y1, .int .i64 y2, .int .i64 y3] 51)) → _) := sm_call pp2.pb fun u hu => begin_any y1 u hu tb
            have C2 : Hid (∀ (u1 : World), Fr (wr.alloc (.cells #[.int .i64 y0, .int .i64 y1, .int .i64 y2, .int .i64 y3] 51)).heap.size [w.heap.size] (wr.alloc (.cells #[.int .i64 y0, .int .i64 y1, .int .i64 y2, .int .i64 y3] 51)) u1 → ∀ u : World, Sm u u1 → _) := fun u1 f => sm_call (pp2.other f) fun u hu => rbegin_any y1 u hu tb
            have ACT : Hid (∀ u1 u2 : World, PB 46 u1 w.heap.size (bgV v y1) → Fr (wr.alloc (.cells #[.int .i64 y0, .int .i64 y1, .int .i64 y2, .int .i64 y3] 51)).heap.size [w.heap.size] (wr.alloc (.cells #[.int .i64 y0, .int .i64 y1, .int .i64 y2, .int .i64 y3] 51)) u1 → PB 49 u2 (w.heap.size + 1) (bgV v y1) → Fr u1.heap.size [w.heap.size + 1] u1 u2 → PP w u2 w.heap.size (bgV v y1)) := fun u1 u2 a b c d => pp2.act a b c d
            have TT : Hid (((bgV v y1).t : Int) ≤ (k : Int) + 1) := by have := bg_t v y1; have := ht.out; unfold Hid; omega
            clear pp2 tb
            generalize bgV v y1 = v2 at *
            generalize bgE v y1 = ee at *
            have bb : (ee != ee) = false := by simp
            have b1 := BA.out.cell 1
            simp only [List.getElem?_cons_zero, List.getElem?_cons_succ] at b1
            go_wp2_with fail
            go_region_held3 (fun w' => w'.cell? ⟨wr.heap.size, 1, none⟩ = some (.int .i64 y1)) (go_keep)
              (first | (go_at_call 17; refine (C1.out _ ?_).mono ?_; exact ⟨rfl, rfl, rfl, rfl⟩; rintro e u1 ⟨rfl, k1, f1⟩; have A1 := KA.out u1 f1; have d1 := (A1).cell 1; simp only [List.getElem?_cons_zero, List.getElem?_cons_succ] at d1; have K1 : Hid (PB 46 u1 w.heap.size v2) := k1; have F1 : Hid (Fr (wr.alloc (.cells #[.int .i64 y0, .int .i64 y1, .int .i64 y2, .int .i64 y3] 51)).heap.size [w.heap.size] (wr.alloc (.cells #[.int .i64 y0, .int .i64 y1, .int .i64 y2, .int .i64 y3] 51)) u1) := f1; have H1 : Hid (Blk u1 wr.heap.size _ _) := A1; clear k1 f1 A1) | (go_at_call 18; refine (C2.out u1 F1.out _ ?_).mono ?_; exact ⟨rfl, rfl, rfl, rfl⟩; rintro e u2 ⟨rfl, k2, f2⟩; have A2 := KB.out u1 u2 F1.out H1.out f2; have g1 := (A2).cell 1; simp only [List.getElem?_cons_zero, List.getElem?_cons_succ] at g1; have P2 : Hid (PP w u2 w.heap.size v2) := ACT.out _ _ K1.out F1.out k2 f2; have H2 : Hid (Blk u2 wr.heap.size _ _) := A2; clear k2 f2 A2 K1 F1 H1))
            all_goals go_wp2
            go_meet
            case rel => exact ⟨rfl, rfl, v2, P2.out.sm ⟨rfl, rfl, rfl, rfl⟩, H2.out.heap rfl, TT⟩
          · have e0 : (y0.tmod 4 == 0) = false := by simpa using t0
            by_cases t1 : y0.tmod 4 = 1
            · have e1 : (y0.tmod 4 == 1) = true := by simpa using t1
              clear t0 t1
              have C1 : Hid (∀ u : World, Sm u (wr.alloc (.cells #[.int .i64 y0, .int .i64 y1, .int .i64 y2, .int .i64 y3] 51)) → _) := sm_call pp2.pb fun u hu => put_any y1 y2 y3 u hu tb
              have C2 : Hid (∀ (u1 : World), Fr (wr.alloc (.cells #[.int .i64 y0, .int .i64 y1, .int .i64 y2, .int .i64 y3] 51)).heap.size [w.heap.size] (wr.alloc (.cells #[.int .i64 y0, .int .i64 y1, .int .i64 y2, .int .i64 y3] 51)) u1 → ∀ u : World, Sm u u1 → _) := fun u1 f => sm_call (pp2.other f) fun u hu => rput_any y1 y2 y3 u hu tb
              have ACT : Hid (∀ u1 u2 : World, PB 46 u1 w.heap.size (ptV v y1 y2 y3) → Fr (wr.alloc (.cells #[.int .i64 y0, .int .i64 y1, .int .i64 y2, .int .i64 y3] 51)).heap.size [w.heap.size] (wr.alloc (.cells #[.int .i64 y0, .int .i64 y1, .int .i64 y2, .int .i64 y3] 51)) u1 → PB 49 u2 (w.heap.size + 1) (ptV v y1 y2 y3) → Fr u1.heap.size [w.heap.size + 1] u1 u2 → PP w u2 w.heap.size (ptV v y1 y2 y3)) := fun u1 u2 a b c d => pp2.act a b c d
              have TT : Hid (((ptV v y1 y2 y3).t : Int) ≤ (k : Int) + 1) := by have := pt_t v y1 y2 y3; have := ht.out; unfold Hid; omega
              clear pp2 tb
              generalize ptV v y1 y2 y3 = v2 at *
              generalize ptE v y1 y2 = ee at *
              have bb : (ee != ee) = false := by simp
              have b1 := BA.out.cell 1
              have b2 := BA.out.cell 2
              have b3 := BA.out.cell 3
              simp only [List.getElem?_cons_zero, List.getElem?_cons_succ] at b1 b2 b3
              go_wp2_with fail
              go_region_held3 (fun w' => w'.cell? ⟨wr.heap.size, 1, none⟩ = some (.int .i64 y1) ∧ w'.cell? ⟨wr.heap.size, 2, none⟩ = some (.int .i64 y2) ∧ w'.cell? ⟨wr.heap.size, 3, none⟩ = some (.int .i64 y3)) (go_keep)
                (first | (go_at_call 19; refine (C1.out _ ?_).mono ?_; exact ⟨rfl, rfl, rfl, rfl⟩; rintro e u1 ⟨rfl, k1, f1⟩; have A1 := KA.out u1 f1; have d1 := (A1).cell 1; have d2 := (A1).cell 2; have d3 := (A1).cell 3; simp only [List.getElem?_cons_zero, List.getElem?_cons_succ] at d1 d2 d3; have K1 : Hid (PB 46 u1 w.heap.size v2) := k1; have F1 : Hid (Fr (wr.alloc (.cells #[.int .i64 y0, .int .i64 y1, .int .i64 y2, .int .i64 y3] 51)).heap.size [w.heap.size] (wr.alloc (.cells #[.int .i64 y0, .int .i64 y1, .int .i64 y2, .int .i64 y3] 51)) u1) := f1; have H1 : Hid (Blk u1 wr.heap.size _ _) := A1; clear k1 f1 A1) | (go_at_call 20; refine (C2.out u1 F1.out _ ?_).mono ?_; exact ⟨rfl, rfl, rfl, rfl⟩; rintro e u2 ⟨rfl, k2, f2⟩; have A2 := KB.out u1 u2 F1.out H1.out f2; have g1 := (A2).cell 1; have g2 := (A2).cell 2; have g3 := (A2).cell 3; simp only [List.getElem?_cons_zero, List.getElem?_cons_succ] at g1 g2 g3; have P2 : Hid (PP w u2 w.heap.size v2) := ACT.out _ _ K1.out F1.out k2 f2; have H2 : Hid (Blk u2 wr.heap.size _ _) := A2; clear k2 f2 A2 K1 F1 H1))
              all_goals go_wp2
              go_meet
              case rel => exact ⟨rfl, rfl, v2, P2.out.sm ⟨rfl, rfl, rfl, rfl⟩, H2.out.heap rfl, TT⟩
            · have e1 : (y0.tmod 4 == 1) = false := by simpa using t1
              by_cases t2 : y0.tmod 4 = 2
              · have e2 : (y0.tmod 4 == 2) = true := by simpa using t2
                clear t0 t1 t2
                have C1 : Hid (∀ u : World, Sm u (wr.alloc (.cells #[.int .i64 y0, .int .i64 y1, .int .i64 y2, .int .i64 y3] 51)) → _) := sm_call pp2.pb fun u hu => end_any y1 u hu tb
                have C2 : Hid (∀ (u1 : World), Fr (wr.alloc (.cells #[.int .i64 y0, .int .i64 y1, .int .i64 y2, .int .i64 y3] 51)).heap.size [w.heap.size] (wr.alloc (.cells #[.int .i64 y0, .int .i64 y1, .int .i64 y2, .int .i64 y3] 51)) u1 → ∀ u : World, Sm u u1 → _) := fun u1 f => sm_call (pp2.other f) fun u hu => rend_any y1 u hu tb
                have ACT : Hid (∀ u1 u2 : World, PB 46 u1 w.heap.size (enV v y1) → Fr (wr.alloc (.cells #[.int .i64 y0, .int .i64 y1, .int .i64 y2, .int .i64 y3] 51)).heap.size [w.heap.size] (wr.alloc (.cells #[.int .i64 y0, .int .i64 y1, .int .i64 y2, .int .i64 y3] 51)) u1 → PB 49 u2 (w.heap.size + 1) (enV v y1) → Fr u1.heap.size [w.heap.size + 1] u1 u2 → PP w u2 w.heap.size (enV v y1)) := fun u1 u2 a b c d => pp2.act a b c d
                have TT : Hid (((enV v y1).t : Int) ≤ (k : Int) + 1) := by have := en_t v y1; have := ht.out; unfold Hid; omega
                clear pp2 tb
                generalize enV v y1 = v2 at *
                generalize enE v y1 = ee at *
                have bb : (ee != ee) = false := by simp
                have b1 := BA.out.cell 1
                simp only [List.getElem?_cons_zero, List.getElem?_cons_succ] at b1
                go_wp2_with fail
                go_region_held3 (fun w' => w'.cell? ⟨wr.heap.size, 1, none⟩ = some (.int .i64 y1)) (go_keep)
                  (first | (go_at_call 21; refine (C1.out _ ?_).mono ?_; exact ⟨rfl, rfl, rfl, rfl⟩; rintro e u1 ⟨rfl, k1, f1⟩; have A1 := KA.out u1 f1; have d1 := (A1).cell 1; simp only [List.getElem?_cons_zero, List.getElem?_cons_succ] at d1; have K1 : Hid (PB 46 u1 w.heap.size v2) := k1; have F1 : Hid (Fr (wr.alloc (.cells #[.int .i64 y0, .int .i64 y1, .int .i64 y2, .int .i64 y3] 51)).heap.size [w.heap.size] (wr.alloc (.cells #[.int .i64 y0, .int .i64 y1, .int .i64 y2, .int .i64 y3] 51)) u1) := f1; have H1 : Hid (Blk u1 wr.heap.size _ _) := A1; clear k1 f1 A1) | (go_at_call 22; refine (C2.out u1 F1.out _ ?_).mono ?_; exact ⟨rfl, rfl, rfl, rfl⟩; rintro e u2 ⟨rfl, k2, f2⟩; have A2 := KB.out u1 u2 F1.out H1.out f2; have g1 := (A2).cell 1; simp only [List.getElem?_cons_zero, List.getElem?_cons_succ] at g1; have P2 : Hid (PP w u2 w.heap.size v2) := ACT.out _ _ K1.out F1.out k2 f2; have H2 : Hid (Blk u2 wr.heap.size _ _) := A2; clear k2 f2 A2 K1 F1 H1))
                all_goals go_wp2
                go_meet
                case rel => exact ⟨rfl, rfl, v2, P2.out.sm ⟨rfl, rfl, rfl, rfl⟩, H2.out.heap rfl, TT⟩
              · have e2 : (y0.tmod 4 == 2) = false := by simpa using t2
                have C1 : Hid (∀ _ : Unit, _) := fun _ => start_any _ pp2.pb
                have C2 : Hid (∀ _ : Unit, _) := fun _ => rstart_any _ pp2.rb
                have P2 : Hid (PP w (wr.alloc (.cells #[.int .i64 y0, .int .i64 y1, .int .i64 y2, .int .i64 y3] 51)) w.heap.size v) := pp2
                clear t0 t1 t2 pp2 tb
                generalize sN v = n1 at *
                generalize sE v = n2 at *
                have bb : (n1 != n1) = false := by simp
                have bc : (n2 != n2) = false := by simp
                go_wp2_with fail
                refine (C1.out ()).mono ?_
                rintro e u1 ⟨rfl, rfl⟩
                go_wp2_with fail
                refine (C2.out ()).mono ?_
                rintro e u1 ⟨rfl, rfl⟩
                go_wp2
                go_meet
                case rel => exact ⟨rfl, rfl, v, P2.out, BA.out, by have := ht.out; unfold Hid; omega⟩
        case rest =>
          obtain ⟨rfl, rfl, v2, p2, ba, tt⟩ := hcut
          have G : Hid (∀ (a : Int) (u : World), Sm u wc → _) := fun a u e => get_any a u (Blk.heap p2.pb e.1)
          have G2 : Hid (∀ (a : Int) (u : World), Sm u wc → _) := fun a u e => rget_any a u (Blk.heap p2.rb e.1)
          have AG : Hid (∀ (u : World), Sm u wc → _) := fun u e => again_any a1 u (Blk.heap p2.pb e.1)
          have P2 : Hid (PP w wc w.heap.size v2) := p2
          obtain ⟨r0, r1, r2, _⟩ := PB.cs p2.rb
          have b2 := ba.cell 2
          simp only [List.getElem?_cons_zero, List.getElem?_cons_succ] at b2
          have g0 : gN v2 0 = v2.x0 := rfl
          have g1 : gN v2 1 = v2.x1 := rfl
          obtain ⟨bv, h1, h3⟩ : ∃ bv, ((v2.t : Int) != a1) = bv ∧ (a1 != (v2.t : Int)) = bv := ⟨_, rfl, by rw [bne_comm]⟩
          rw [h1] at AG
          have q0 : (v2.x0 != v2.x0) = false := by simp
          have q1 : (v2.x1 != v2.x1) = false := by simp
          have q2 : (gN v2 y2 != gN v2 y2) = false := by simp
          have q3 : (bv != bv) = false := by simp
          clear p2 ba h1 BA KA KB pp2 tb x0 x1 x2 x3
          go_wp2_with fail
          go_region_held3 (fun w' => w'.cell? ⟨w.heap.size + 1, 0, none⟩ = some (.int .i64 v2.x0) ∧ w'.cell? ⟨w.heap.size + 1, 1, none⟩ = some (.int .i64 v2.x1) ∧ w'.cell? ⟨w.heap.size + 1, 2, none⟩ = some (.int .i64 (v2.t : Int)) ∧ w'.cell? ⟨wr.heap.size, 2, none⟩ = some (.int .i64 y2)) (go_keep) (first | (go_at_call 25; refine (G.out _ _ ?_).mono ?_; exact ⟨rfl, rfl, rfl, rfl⟩; rintro e u1 ⟨rfl, rfl⟩) | (go_at_call 26; refine (G2.out _ _ ?_).mono ?_; exact ⟨rfl, rfl, rfl, rfl⟩; rintro e u1 ⟨rfl, rfl⟩) | (go_at_call 27; refine (AG.out _ ?_).mono ?_; exact ⟨rfl, rfl, rfl, rfl⟩; rintro e u1 ⟨rfl, rfl⟩))
          all_goals go_wp2
          go_roundw
          case rel => exact ⟨k + 1, v2, by omega, by omega, P2.out.sm ⟨rfl, rfl, rfl, rfl⟩, by have := tt.out; unfold Hid; omega, by go_num⟩
          case measure => simp [intOf]; omega
      · have hb := pp.bel
        have hz := Blk.lt pp.pb
        clear pp
        go_wp2_with fail
        refine (KN.out wr).mono ?_
        rintro e u5 ⟨rfl, hb5⟩
        go_wp2
        go_ret
        exact ⟨rfl, hb.trans (hb5.mono (by omega))⟩
    · have hb := pp.bel
      have hz := Blk.lt pp.pb
      have hd : decide ((k : Int) < len0) = false := decide_eq_false h
      clear pp
      go_wp2_with fail
      refine (KN.out wr).mono ?_
      rintro e u5 ⟨rfl, hb5⟩
      go_wp2
      go_ret
      exact ⟨rfl, hb.trans (hb5.mono (by omega))⟩

set_option maxRecDepth 100000 in
theorem lifted (os : Os) (started : os.Started) (H : Type) (enc : TypeId × Value → H) :
    ReturnsInHanded {} Try.checked os 5 .any (Rows.lockPairsSpec.pre6 enc Try.prog Try.f5 Rows.lockPairsRow.domain false) (Rows.lockPairsSpec.post enc Try.prog Try.f5 false true false false) := by
  refine returnsInHanded_of_change (C := Try.checked) own started (by kernel_rfl) Try.func5
    (ChangeSpec.witness6 (enc := enc) (C := Try.checked) false ⟨#[], #[.slice none 0 0, .int .i64 0], []⟩ 8 (by kernel_rfl) (by kernel_rfl) (by kernel_rfl) (by kernel_rfl)) ?_
  intro W base args ds gs before hval0 hW hcnd _
  have hval : ∀ (j : Nat) t v, Try.f5.params[j]? = some t → args[j]? = some v → Value.okWide Try.prog W .any base t v := hval0
  have hW' := hW
  obtain ⟨p, q, hA0, hV, rfl, hfz, hnd⟩ := hW
  have hA : DataW.TrodAll enc Try.prog W 0 (fun _ => true) true Try.f5.params.toList args.toList ds p := hA0
  rw [Try.params5] at hA hval
  obtain ⟨v0, vs0, d0, ds0, p0, q0, hargs, rfl, rfl, h0, r0⟩ := trodAll_cons hA
  obtain ⟨v1, vs1, d1, ds1, p1, q1, rfl, rfl, rfl, h1, r1⟩ := trodAll_cons r0
  obtain ⟨rfl, rfl, rfl⟩ := trodAll_nil r1
  obtain rfl : args = #[v0, v1] := by cases args; simp_all
  obtain ⟨rfl, rfl⟩ := trodVars_none hV
  obtain ⟨a0, len0, cap0, rfl⟩ := okWide_slice Try.underlying42 (hval 0 42 v0 rfl rfl)
  have k0 := h0
  have lt0 : ∀ x ∈ p0, x.block < W.heap.size := by obtain ⟨m, hm⟩ := k0; exact DataW.trod_lt m _ _ _ hm
  obtain ⟨X0, w0, z0⟩ : ∃ X : Nat → Nat → Int, SRow W (.slice a0 len0 cap0) len0 [true, true, true, true] X ∧ ∀ i, i < len0 → ∀ j, j < [true, true, true, true].length → [true, true, true, true].getD j true = true → (Lit.int .i64 (X i j)).wf = true := by
    obtain ⟨fuel, hf⟩ := h0
    exact open_recs [true, true, true, true] Try.underlying42 Try.underlying51 (by kernel_rfl) rfl (by decide) (fun | 0, _ => ⟨_, rfl, rfl, by kernel_rfl, Try.underlying3⟩ | 1, _ => ⟨_, rfl, rfl, by kernel_rfl, Try.underlying3⟩ | 2, _ => ⟨_, rfl, rfl, by kernel_rfl, Try.underlying3⟩ | 3, _ => ⟨_, rfl, rfl, by kernel_rfl, Try.underlying2⟩ | n + 4, h => absurd h (by simp only [List.length]; omega)) hf
  obtain ⟨a1, rfl, rfl, rfl, w1⟩ := open_int Try.underlying2 (hval 1 2 v1 rfl rfl) h1
  clear hA0 hval0
  refine (walk a0 len0 cap0 X0 a1 W w0 z0 w1).mono fun e W' ⟨he, bel⟩ => ?_
  subst he
  exact ⟨_, rfl, _, _, _, [], _, [], hW', trodAll_mk1 (shut_bool Try.underlying4 _), (trodAll_cons_mk (Below.trod laidOut (by kernel_rfl) (of_decide_eq_true (by kernel_rfl)) k0 bel lt0) (trodAll_cons_mk (shut_int Try.underlying2 w1) trodAll_mk0)), rfl, bel.frame _, fun h => by cases h⟩

theorem over : Rows.LockPairsSaid :=
  OpenClaim.holds_of_wide 5 Try.f5 rfl rfl rfl rfl rfl rfl rfl ⟨rfl, rfl, rfl, rfl, rfl⟩ rfl rfl rfl rfl rfl (by kernel_rfl) Try.func5 (by kernel_rfl)
    (of_decide_eq_true (by kernel_rfl)) (by unfold Func.isWrapper; first | (rw [if_pos (by decide +kernel)]; kernel_rfl) | (rw [if_neg (by decide +kernel)]; exact ⟨rfl, rfl⟩))
    (fun os started H enc _ => lifted os started H enc)
end Go.Proofs.Ytaomcakgeiiclaa.lockPairs

namespace Go.Proofs.Ytaomcakgeiiclaa
open Go
theorem lockPairs_holds : Rows.LockPairsSaid := lockPairs.over
#print axioms lockPairs_holds
end Go.Proofs.Ytaomcakgeiiclaa
