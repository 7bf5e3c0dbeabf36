/- Proved: for every number cpus and every list acts, davitlaw06.SplitPlays(cpus, acts) returns true: a number in parts that is played with answers what the document says (100 acts at most, as the law itself says), and acts is left alone, with no condition. -/
import Derived.Test.YtaomcakgeiiclaaRows
import Derived.Test.YtaomcakgeiiclaaFo
import Derived.Test.YtaomcakgeiiclaaPe
import Derived.WalkKit
import Derived.ProofKit
import Derived.OpenShut
import Derived.Stop.Joined
import Derived.ShutString
import Derived.ChangeOld
import Derived.Below
import Derived.Carry
import Derived.Test.YtaomcakgeiiclaaFs
import Derived.Deep.DeepCutAuto
import Derived.Deep.CutBlock
import Derived.Deep.RegionHeld3
import Derived.Deep.RegionHeldLaw
namespace Go.Proofs.Ytaomcakgeiiclaa.splitPlays
open Go.ChangeShapes Go.WideShapes Go.ChangeAt Go.RowKit
open Pm
set_option linter.unusedVariables false
set_option linter.unusedSimpArgs false

theorem own : ownKnob Try.prog.godebug = none := by kernel_rfl
theorem laidOut : laidOutB Try.prog = true := by kernel_rfl

set_option maxRecDepth 100000 in
set_option maxHeartbeats 4000000 in
theorem walk (a0 : Int) (a1 : Option Addr) (len1 cap1 : Nat) (X1 : Nat → Nat → Int) (w : World) (w0 : (Lit.int .i64 a0).wf = true) (w1 : SRow w (.slice a1 len1 cap1) len1 [true, true, true, false] X1) (z1 : ∀ i, i < len1 → ∀ j, j < [true, true, true, false].length → [true, true, true, false].getD j true = true → (Lit.int .i64 (X1 i j)).wf = true) :
    Calls Try.prog 8 #[.int .i64 a0, .slice a1 len1 cap1] w fun e w' => e = .returned (.bool true) ∧ Below w.heap.size w w' := by
  have KN : Hid (∀ w, _) := fun w => known_yes w
  by_cases wrong : a0 < 1 ∨ 64 < a0
  · have C : Hid (∀ w, _) := fun w => new_bad a0 w wrong
    have D : Hid (∀ w, _) := fun w => rnew_bad a0 w wrong
    clear wrong w0 w1 z1
    go_enter Try.func8, Try.ntmps8
    go_wp2_with fail
    refine (C.out _).mono ?_
    rintro e u1 ⟨rfl, rfl⟩
    go_wp2_with fail
    refine (D.out _).mono ?_
    rintro e u1 ⟨rfl, rfl⟩
    go_wp2_with fail
    refine (KN.out _).mono ?_
    rintro e u1 ⟨rfl, hb⟩
    go_wp2
    go_ret
    exact ⟨rfl, hb⟩
  · obtain ⟨m, rfl⟩ := Int.eq_ofNat_of_zero_le (show 0 ≤ a0 by omega)
    have m1 : (1 : Int) ≤ m := by omega
    have m2 : (m : Int) ≤ 64 := by omega
    have C : Hid (∀ _ : Unit, _) := fun _ => new_any m w m1 m2
    have D : Hid (∀ w, _) := fun w => rnew_any m w m1 m2
    have HR : Hid (SRow w (.slice a1 len1 cap1) len1 [true, true, true, false] X1) := w1
    have HZ : Hid (∀ i, i < len1 → I64 (X1 i 2)) := fun i hi => bounds_i64 (z1 i hi 2 (by decide) rfl)
    obtain ⟨s, hs⟩ : ∃ s, w.heap.size = s := ⟨_, rfl⟩
    have HS : Hid (w.heap.size = s) := hs
    rw [hs] at C ⊢
    clear wrong w0 w1 z1 hs
    go_enter Try.func8, Try.ntmps8
    go_wp2_with fail
    refine (C.out ()).mono ?_
    rintro e u1 ⟨rfl, s1, f1⟩
    have S1 : Hid (SL u1 (s + 1) s (List.replicate m 0)) := s1
    have B1 : Hid (Below s w u1) := f1.below (by simp)
    have Z1 : Hid (s + 1 < u1.heap.size) := s1.sb.lt
    clear s1 f1
    go_wp2_with fail
    refine (D.out u1).mono ?_
    rintro e u2 ⟨rfl, r2, f2⟩
    have P0 : Hid (PQ w u2 s u1.heap.size (List.replicate m 0)) := ⟨S1.out.keep f2 ⟨S1.out.sb.lt, S1.out.sg.lt⟩ ⟨by simp, by simp⟩, r2, B1.out.trans ((f2.less (by have := Z1.out; omega)).below (by simp)), Z1.out⟩
    clear r2 f2
    generalize u1.heap.size = t at *
    clear S1 B1 Z1
    go_wp2
    go_loopw [9] (fun i wr => ∃ (k : Nat) (L : List Int), (k : Int) ≤ 100 ∧ (k : Int) ≤ len1 ∧ PQ w wr s t L ∧ i = .int .i64 k) (fun i _ => 100 - (intOf i).toNat)
    case atStart => exact ⟨0, _, by omega, by omega, P0.out, rfl⟩
    case round =>
      obtain ⟨k, L, hk, hk2, pq, rfl⟩ := hrel
      clear P0
      by_cases h : (k : Int) < len1
      · by_cases h2 : (k : Int) < 100
        · obtain ⟨ab, off, rfl, hA⟩ := srow_cell (wr := wr) HR.out (by rw [HS.out]; exact pq.bel) h
          have x0 := hA 0 (by decide)
          have x1 := hA 1 (by decide)
          have x2 := hA 2 (by decide)
          have x3 := hA 3 (by decide)
          simp only [List.length_cons, List.length_nil, Nat.zero_add, Nat.reduceAdd, Nat.add_zero, fval, List.getD_cons_zero, List.getD_cons_succ, if_true, Bool.false_eq_true, if_false] at x0 x1 x2 x3
          have hy : Hid (I64 (X1 k 2)) := HZ.out k (by omega)
          clear hA
          generalize X1 k 0 = y0 at *
          generalize X1 k 1 = y1 at *
          generalize X1 k 2 = y2 at *
          generalize (X1 k 3 != 0) = y3 at *
          have pq2 := pq.alloc (.cells #[.int .i64 y0, .int .i64 y1, .int .i64 y2, .bool y3] 68)
          have lt := pq.lt
          have st := pq.st
          have BA : Hid (Blk (wr.alloc (.cells #[.int .i64 y0, .int .i64 y1, .int .i64 y2, .bool y3] 68)) wr.heap.size [.int .i64 y0, .int .i64 y1, .int .i64 y2, .bool y3] 68) := Blk.new wr [.int .i64 y0, .int .i64 y1, .int .i64 y2, .bool y3] 68
          have KA : Hid (∀ u1 : World, Fr (wr.alloc (.cells #[.int .i64 y0, .int .i64 y1, .int .i64 y2, .bool y3] 68)).heap.size [s] (wr.alloc (.cells #[.int .i64 y0, .int .i64 y1, .int .i64 y2, .bool y3] 68)) u1 → Blk u1 wr.heap.size [.int .i64 y0, .int .i64 y1, .int .i64 y2, .bool y3] 68) := fun u1 f => BA.out.keep f BA.out.lt (by simp; omega)
          have KB : Hid (∀ u1 u2 : World, Blk u1 wr.heap.size [.int .i64 y0, .int .i64 y1, .int .i64 y2, .bool y3] 68 → Fr u1.heap.size [t] u1 u2 → Blk u2 wr.heap.size [.int .i64 y0, .int .i64 y1, .int .i64 y2, .bool y3] 68) := fun u1 u2 b f => b.keep f b.lt (by simp; omega)
          clear pq lt st
          go_upto_if 55 with (fail)
          go_cut [9, 10] (fun i pa wx => i = .int .i64 k ∧ pa = .pointer (some ⟨wr.heap.size, 0, none⟩) ∧ ∃ L2, PQ w wx s t L2 ∧ Blk wx wr.heap.size [.int .i64 y0, .int .i64 y1, .int .i64 y2, .bool y3] 68)
          case first =>
            cases y3 with
            | true =>
              have C1 : Hid (∀ u : World, Sm u (wr.alloc (.cells #[.int .i64 y0, .int .i64 y1, .int .i64 y2, .bool true] 68)) → _) := smS pq2.sl fun u hu => fold_any y0 y1 u hu
              have C2 : Hid (∀ (u1 : World), Fr (wr.alloc (.cells #[.int .i64 y0, .int .i64 y1, .int .i64 y2, .bool true] 68)).heap.size [s] (wr.alloc (.cells #[.int .i64 y0, .int .i64 y1, .int .i64 y2, .bool true] 68)) u1 → ∀ u : World, Sm u u1 → _) := fun u1 f => smR (pq2.other f) fun u hu => rfold_any y0 y1 u hu
              have ACT : Hid (∀ u1 u2 : World, SL u1 (s + 1) s (fdL L y0 y1) → Fr (wr.alloc (.cells #[.int .i64 y0, .int .i64 y1, .int .i64 y2, .bool true] 68)).heap.size [s] (wr.alloc (.cells #[.int .i64 y0, .int .i64 y1, .int .i64 y2, .bool true] 68)) u1 → RL u2 (t + 1) t (fdL L y0 y1) → Fr u1.heap.size [t] u1 u2 → PQ w u2 s t (fdL L y0 y1)) := fun u1 u2 a b c d => pq2.act a b c d
              clear pq2
              generalize fdL L y0 y1 = L2 at *
              generalize fdE L y0 y1 = ee at *
              have bb : (ee != ee) = false := by simp
              have b0 := BA.out.cell 0
              have b1 := BA.out.cell 1
              simp only [List.getElem?_cons_zero, List.getElem?_cons_succ] at b0 b1
              go_wp2_with fail
              go_region_held3 (fun w' => w'.cell? ⟨wr.heap.size, 0, none⟩ = some (.int .i64 y0) ∧ w'.cell? ⟨wr.heap.size, 1, none⟩ = some (.int .i64 y1)) (go_keep)
                (first | (go_at_call 31; refine (C1.out _ ?_).mono ?_; exact ⟨rfl, rfl, rfl, rfl⟩; rintro e u1 ⟨rfl, k1, f1⟩; have A1 := KA.out u1 f1; have d0 := (A1).cell 0; have d1 := (A1).cell 1; simp only [List.getElem?_cons_zero, List.getElem?_cons_succ] at d0 d1; have K1 : Hid (SL u1 (s + 1) s L2) := k1; have F1 : Hid (Fr (wr.alloc (.cells #[.int .i64 y0, .int .i64 y1, .int .i64 y2, .bool true] 68)).heap.size [s] (wr.alloc (.cells #[.int .i64 y0, .int .i64 y1, .int .i64 y2, .bool true] 68)) u1) := f1; have H1 : Hid (Blk u1 wr.heap.size _ _) := A1; clear k1 f1 A1) | (go_at_call 32; refine (C2.out u1 F1.out _ ?_).mono ?_; exact ⟨rfl, rfl, rfl, rfl⟩; rintro e u2 ⟨rfl, k2, f2⟩; have A2 := KB.out u1 u2 H1.out f2; have g0 := (A2).cell 0; have g1 := (A2).cell 1; simp only [List.getElem?_cons_zero, List.getElem?_cons_succ] at g0 g1; have P2 : Hid (PQ w u2 s t L2) := ACT.out _ _ K1.out F1.out k2 f2; have H2 : Hid (Blk u2 wr.heap.size _ _) := A2; clear k2 f2 A2 K1 F1 H1))
              all_goals go_wp2
              go_meet
              case rel => exact ⟨rfl, rfl, L2, P2.out.sm ⟨rfl, rfl, rfl, rfl⟩, H2.out.heap rfl⟩
            | false =>
              have C1 : Hid (∀ u : World, Sm u (wr.alloc (.cells #[.int .i64 y0, .int .i64 y1, .int .i64 y2, .bool false] 68)) → _) := smS pq2.sl fun u hu => add_any y0 y2 u hu hy.out
              have C2 : Hid (∀ (u1 : World), Fr (wr.alloc (.cells #[.int .i64 y0, .int .i64 y1, .int .i64 y2, .bool false] 68)).heap.size [s] (wr.alloc (.cells #[.int .i64 y0, .int .i64 y1, .int .i64 y2, .bool false] 68)) u1 → ∀ u : World, Sm u u1 → _) := fun u1 f => smR (pq2.other f) fun u hu => radd_any y0 y2 u hu hy.out
              have ACT : Hid (∀ u1 u2 : World, SL u1 (s + 1) s (adL L y0 y2) → Fr (wr.alloc (.cells #[.int .i64 y0, .int .i64 y1, .int .i64 y2, .bool false] 68)).heap.size [s] (wr.alloc (.cells #[.int .i64 y0, .int .i64 y1, .int .i64 y2, .bool false] 68)) u1 → RL u2 (t + 1) t (adL L y0 y2) → Fr u1.heap.size [t] u1 u2 → PQ w u2 s t (adL L y0 y2)) := fun u1 u2 a b c d => pq2.act a b c d
              clear pq2
              generalize adL L y0 y2 = L2 at *
              generalize adE L y0 y2 = ee at *
              have bb : (ee != ee) = false := by simp
              have b0 := BA.out.cell 0
              have b2 := BA.out.cell 2
              simp only [List.getElem?_cons_zero, List.getElem?_cons_succ] at b0 b2
              go_wp2_with fail
              go_region_held3 (fun w' => w'.cell? ⟨wr.heap.size, 0, none⟩ = some (.int .i64 y0) ∧ w'.cell? ⟨wr.heap.size, 2, none⟩ = some (.int .i64 y2)) (go_keep)
                (first | (go_at_call 33; refine (C1.out _ ?_).mono ?_; exact ⟨rfl, rfl, rfl, rfl⟩; rintro e u1 ⟨rfl, k1, f1⟩; have A1 := KA.out u1 f1; have d0 := (A1).cell 0; have d2 := (A1).cell 2; simp only [List.getElem?_cons_zero, List.getElem?_cons_succ] at d0 d2; have K1 : Hid (SL u1 (s + 1) s L2) := k1; have F1 : Hid (Fr (wr.alloc (.cells #[.int .i64 y0, .int .i64 y1, .int .i64 y2, .bool false] 68)).heap.size [s] (wr.alloc (.cells #[.int .i64 y0, .int .i64 y1, .int .i64 y2, .bool false] 68)) u1) := f1; have H1 : Hid (Blk u1 wr.heap.size _ _) := A1; clear k1 f1 A1) | (go_at_call 34; refine (C2.out u1 F1.out _ ?_).mono ?_; exact ⟨rfl, rfl, rfl, rfl⟩; rintro e u2 ⟨rfl, k2, f2⟩; have A2 := KB.out u1 u2 H1.out f2; have g0 := (A2).cell 0; have g2 := (A2).cell 2; simp only [List.getElem?_cons_zero, List.getElem?_cons_succ] at g0 g2; have P2 : Hid (PQ w u2 s t L2) := ACT.out _ _ K1.out F1.out k2 f2; have H2 : Hid (Blk u2 wr.heap.size _ _) := A2; clear k2 f2 A2 K1 F1 H1))
              all_goals go_wp2
              go_meet
              case rel => exact ⟨rfl, rfl, L2, P2.out.sm ⟨rfl, rfl, rfl, rfl⟩, H2.out.heap rfl⟩
          case rest =>
            obtain ⟨rfl, rfl, L2, p2, ba⟩ := hcut
            clear BA KA KB pq2 x0 x1 x2 x3 hy
            have P2 : Hid (PQ w wc s t L2) := p2
            have M1 : Hid (∀ _ : Unit, _) := fun _ => sum_any wc p2.sl
            have M2 : Hid (∀ _ : Unit, _) := fun _ => rsum_any wc p2.rl
            have M3 : Hid (∀ _ : Unit, _) := fun _ => get_any y0 wc p2.sl
            have W1 : Hid (∀ u : World, Sm u wc → _) := fun u e => act_list p2 u e
            have I1 : Hid (∀ (u1 : World) (v : Value), Gl wc u1 v L2 → ∀ u : World, Sm u u1 → _) := fun u1 v g u e => act_same p2 u1 v g u e
            have IS : Hid (∀ (u1 : World) (v : Value), Gl wc u1 v L2 → ∀ u : World, Sm u u1 → _) := fun u1 v g u e => is_any y0 u ((p2.new g.bel).rl.heap e.1)
            have c0 := p2.rl.c0
            have b0 := ba.cell 0
            simp only [List.getElem?_cons_zero] at b0
            have hl := p2.rl.len
            have KA : Hid (∀ u1 : World, Below wc.heap.size wc u1 → u1.cell? ⟨wr.heap.size, 0, none⟩ = some (.int .i64 y0)) := fun u1 b => by
              have := (ba.keep (Fr.of_below b) ba.lt (by simp)).cell 0
              simpa using this
            have KR : Hid (∀ u1 : World, Below wc.heap.size wc u1 → RL u1 (t + 1) t L2) := fun u1 b => (p2.new b).rl
            clear p2 ba
            generalize fv L2.sum = n1 at *
            generalize fe L2.sum = n2 at *
            have q1 : (n1 != n1) = false := by simp
            have q2 : (n2 != n2) = false := by simp
            cases i : ic L2 y0 with
            | true =>
              rw [show gtN L2 y0 = at' L2 y0 from if_pos i, show gtE L2 y0 = 0 from if_pos i] at M3
              rw [i] at IS
              obtain ⟨j, rfl⟩ := Int.eq_ofNat_of_zero_le (ic_lt i).1
              have hj : (j : Int) < L2.length := (ic_lt i).2.1
              have hj0 : (0 : Int) ≤ j := by omega
              rw [show at' L2 (j : Int) = L2.getD j 0 by unfold at'; rw [Int.toNat_natCast]] at M3
              have KC : Hid (∀ u1 : World, Below wc.heap.size wc u1 → u1.cell? ⟨t + 1, 0, none⟩ = some (.slice (some ⟨t, 0, none⟩) L2.length L2.length) ∧ u1.cell? ⟨wr.heap.size, 0, none⟩ = some (.int .i64 (j : Int)) ∧ u1.cell? ⟨t, j, none⟩ = some (.int .i64 (L2.getD j 0))) := fun u1 b => ⟨(KR.out u1 b).c0, KA.out u1 b, (KR.out u1 b).at j (by omega)⟩
              have cj := (KC.out wc (Below.refl _ _)).2.2
              clear i KR KA
              generalize L2.getD j 0 = x at *
              have q3 : (x != x) = false := by simp
              generalize L2.length = l at *
              go_wp2_with fail
              refine (M1.out ()).mono ?_
              rintro e v4 ⟨rfl, rfl⟩
              go_wp2_with fail
              refine (M2.out ()).mono ?_
              rintro e v4 ⟨rfl, rfl⟩
              go_wp2_with fail
              refine (M3.out ()).mono ?_
              rintro e v4 ⟨rfl, rfl⟩
              go_wp2_with fail
              refine wp_region_held_drew (S := fun w' => w'.cell? ⟨t + 1, 0, none⟩ = some (.slice (some ⟨t, 0, none⟩) l l) ∧ w'.cell? ⟨wr.heap.size, 0, none⟩ = some (.int .i64 (j : Int)) ∧ w'.cell? ⟨t, j, none⟩ = some (.int .i64 x)) (by kernel_rfl) (by go_keep) (fun hHeld => ?_)
              refine wpAnyH_take (i := 0) (oi := { dst := some 99, op := Op.move (Operand.tmp 11), type := 2, pos := "law.go:53", after := #[], guard := none }) (v := ?va0) rfl (by kernel_rfl) (by kernel_rfl) (by kernel_rfl) (fun _ _ _ h => h) (Or.inl ⟨by rfl, ?ha0⟩) (by assumption) ?ra0
              case ha0 => (intro wz hSw; (try dsimp only at hSw); go_simp <;> with_reducible rfl)
              try simp only [Act.put, List.setIfInBounds_toArray, List.set_cons_zero, List.set_cons_succ]
              refine wpAnyH_take (i := 1) (oi := { dst := some 100, op := Op.move (Operand.tmp 13), type := 2, pos := "law.go:53", after := #[], guard := none }) (v := ?va1) rfl (by kernel_rfl) (by kernel_rfl) (by kernel_rfl) (fun _ _ _ h => h) (Or.inl ⟨by rfl, ?ha1⟩) (by assumption) ?ra1
              case ha1 => (intro wz hSw; (try dsimp only at hSw); go_simp <;> with_reducible rfl)
              try simp only [Act.put, List.setIfInBounds_toArray, List.set_cons_zero, List.set_cons_succ]
              refine wpAnyH_take (i := 2) (oi := { dst := some 101, op := Op.binOp BinOp.neq 2 (Operand.tmp 99) (Operand.tmp 100) 2, type := 4, pos := "law.go:53", after := #[{ on := 0, ground := Ground.data }, { on := 1, ground := Ground.data }], guard := none }) (v := ?va2) rfl (by kernel_rfl) (by kernel_rfl) (by kernel_rfl) (fun _ _ _ h => h) (Or.inl ⟨by rfl, ?ha2⟩) (by assumption) ?ra2
              case ha2 => (intro wz hSw; (try dsimp only at hSw); go_simp <;> with_reducible rfl)
              try simp only [Act.put, List.setIfInBounds_toArray, List.set_cons_zero, List.set_cons_succ]
              refine wpAnyH_take (i := 3) (oi := { dst := some 102, op := Op.move (Operand.tmp 101), type := 4, pos := "law.go:53", after := #[{ on := 2, ground := Ground.data }], guard := none }) (v := ?va3) rfl (by kernel_rfl) (by kernel_rfl) (by kernel_rfl) (fun _ _ _ h => h) (Or.inl ⟨by rfl, ?ha3⟩) (by assumption) ?ra3
              case ha3 => (intro wz hSw; (try dsimp only at hSw); go_simp <;> with_reducible rfl)
              try simp only [Act.put, List.setIfInBounds_toArray, List.set_cons_zero, List.set_cons_succ]
              refine wpAnyH_take (i := 4) (oi := { dst := some 103, op := Op.move (Operand.tmp 12), type := 33, pos := "law.go:53", after := #[{ on := 3, ground := Ground.guard }], guard := some (3, false) }) (v := ?va4) rfl (by kernel_rfl) (by kernel_rfl) (by kernel_rfl) (fun _ _ _ h => h) (Or.inl ⟨by rfl, ?ha4⟩) (by assumption) ?ra4
              case ha4 => (intro wz hSw; (try dsimp only at hSw); go_simp <;> with_reducible rfl)
              try simp only [Act.put, List.setIfInBounds_toArray, List.set_cons_zero, List.set_cons_succ]
              refine wpAnyH_take (i := 5) (oi := { dst := some 104, op := Op.move (Operand.tmp 14), type := 33, pos := "law.go:53", after := #[{ on := 3, ground := Ground.guard }], guard := some (3, false) }) (v := ?va5) rfl (by kernel_rfl) (by kernel_rfl) (by kernel_rfl) (fun _ _ _ h => h) (Or.inl ⟨by rfl, ?ha5⟩) (by assumption) ?ra5
              case ha5 => (intro wz hSw; (try dsimp only at hSw); go_simp <;> with_reducible rfl)
              try simp only [Act.put, List.setIfInBounds_toArray, List.set_cons_zero, List.set_cons_succ]
              refine wpAnyH_take (i := 6) (oi := { dst := some 105, op := Op.binOp BinOp.neq 33 (Operand.tmp 103) (Operand.tmp 104) 33, type := 4, pos := "law.go:53", after := #[{ on := 4, ground := Ground.data }, { on := 5, ground := Ground.data }, { on := 3, ground := Ground.guard }], guard := some (3, false) }) (v := ?va6) rfl (by kernel_rfl) (by kernel_rfl) (by kernel_rfl) (fun _ _ _ h => h) (Or.inl ⟨by rfl, ?ha6⟩) (by assumption) ?ra6
              case ha6 => (intro wz hSw; (try dsimp only at hSw); go_simp <;> with_reducible rfl)
              try simp only [Act.put, List.setIfInBounds_toArray, List.set_cons_zero, List.set_cons_succ]
              refine wpAnyH_take (i := 7) (oi := { dst := some 106, op := Op.pick (Operand.tmp 102) (Operand.const (Value.bool true)) (Operand.tmp 105), type := 4, pos := "law.go:53", after := #[{ on := 3, ground := Ground.data }, { on := 6, ground := Ground.data }], guard := none }) (v := ?va7) rfl (by kernel_rfl) (by kernel_rfl) (by kernel_rfl) (fun _ _ _ h => h) (Or.inl ⟨by rfl, ?ha7⟩) (by assumption) ?ra7
              case ha7 => (intro wz hSw; (try dsimp only at hSw); go_simp <;> with_reducible rfl)
              try simp only [Act.put, List.setIfInBounds_toArray, List.set_cons_zero, List.set_cons_succ]
              refine wpAnyH_take (i := 8) (oi := { dst := some 107, op := Op.move (Operand.tmp 106), type := 4, pos := "law.go:53", after := #[{ on := 7, ground := Ground.data }, { on := 3, ground := Ground.chain }], guard := none }) (v := ?va8) rfl (by kernel_rfl) (by kernel_rfl) (by kernel_rfl) (fun _ _ _ h => h) (Or.inl ⟨by rfl, ?ha8⟩) (by assumption) ?ra8
              case ha8 => (intro wz hSw; (try dsimp only at hSw); go_simp <;> with_reducible rfl)
              try simp only [Act.put, List.setIfInBounds_toArray, List.set_cons_zero, List.set_cons_succ]
              refine wpAnyH_take (i := 9) (oi := { dst := some 108, op := Op.move (Operand.tmp 5), type := 61, pos := "law.go:53", after := #[{ on := 8, ground := Ground.guard }], guard := some (8, false) }) (v := ?va9) rfl (by kernel_rfl) (by kernel_rfl) (by kernel_rfl) (fun _ _ _ h => h) (Or.inl ⟨by rfl, ?ha9⟩) (by assumption) ?ra9
              case ha9 => (intro wz hSw; (try dsimp only at hSw); go_simp <;> with_reducible rfl)
              try simp only [Act.put, List.setIfInBounds_toArray, List.set_cons_zero, List.set_cons_succ]
              refine wpAnyH_take (i := 11) (oi := { dst := some 110, op := Op.move (Operand.tmp 7), type := 64, pos := "law.go:53", after := #[{ on := 8, ground := Ground.guard }], guard := some (8, false) }) (v := ?va11) rfl (by kernel_rfl) (by kernel_rfl) (by kernel_rfl) (fun _ _ _ h => h) (Or.inl ⟨by rfl, ?ha11⟩) (by assumption) ?ra11
              case ha11 => (intro wz hSw; (try dsimp only at hSw); go_simp <;> with_reducible rfl)
              try simp only [Act.put, List.setIfInBounds_toArray, List.set_cons_zero, List.set_cons_succ]
              refine wpAnyH_take (i := 12) (oi := { dst := some 111, op := Op.nilCheck (Operand.tmp 110), type := 0, pos := "law.go:53", after := #[{ on := 11, ground := Ground.data }, { on := 8, ground := Ground.guard }], guard := some (8, false) }) (v := ?va12) rfl (by kernel_rfl) (by kernel_rfl) (by kernel_rfl) (fun _ _ _ h => h) (Or.inl ⟨by rfl, ?ha12⟩) (by assumption) ?ra12
              case ha12 => (intro wz hSw; (try dsimp only at hSw); go_simp <;> with_reducible rfl)
              try simp only [Act.put, List.setIfInBounds_toArray, List.set_cons_zero, List.set_cons_succ]
              refine wpAnyH_take (i := 13) (oi := { dst := some 112, op := Op.fieldAddr 76 (Operand.tmp 111) 0, type := 0, pos := "law.go:53", after := #[{ on := 12, ground := Ground.data }, { on := 8, ground := Ground.guard }], guard := some (8, false) }) (v := ?va13) rfl (by kernel_rfl) (by kernel_rfl) (by kernel_rfl) (fun _ _ _ h => h) (Or.inl ⟨by rfl, ?ha13⟩) (by assumption) ?ra13
              case ha13 => (intro wz hSw; (try dsimp only at hSw); go_simp <;> with_reducible rfl)
              try simp only [Act.put, List.setIfInBounds_toArray, List.set_cons_zero, List.set_cons_succ]
              refine wpAnyH_take (i := 14) (oi := { dst := some 113, op := Op.load 73 (Operand.tmp 112), type := 73, pos := "law.go:53", after := #[{ on := 13, ground := Ground.data }, { on := 8, ground := Ground.guard }], guard := some (8, false) }) (v := ?va14) rfl (by kernel_rfl) (by kernel_rfl) (by kernel_rfl) (fun _ _ _ h => h) (Or.inl ⟨by rfl, ?ha14⟩) (by assumption) ?ra14
              case ha14 => (intro wz hSw; (try dsimp only at hSw); go_simp <;> with_reducible rfl)
              try simp only [Act.put, List.setIfInBounds_toArray, List.set_cons_zero, List.set_cons_succ]
              refine wpAnyH_ready (rs := [10]) (by kernel_rfl) (by simp) ?_
              refine AllReadyH.cons (o := { dst := some 109, op := Op.call { callee := Callee.value (Operand.func 39), args := #[Operand.tmp 108], argTypes := #[61] }, type := 73, pos := "law.go:53", after := #[{ on := 9, ground := Ground.data }, { on := 8, ground := Ground.chain }, { on := 8, ground := Ground.guard }], guard := some (8, false) }) rfl (fun K hK => ?_) AllReadyH.nil
              go_simp
              refine (W1.out _ ?_).mono ?_
              · exact ⟨rfl, rfl, rfl, rfl⟩
              rintro e u1 ⟨v, rfl, gt⟩
              obtain ⟨d1, d2, d3⟩ := KC.out u1 gt.bel
              have G1 : Hid (Gl _ u1 v _) := gt
              clear gt
              (try go_wp2_with fail)
              refine hK.out _ _ ?sa10 (fun hHeld => ?ta10)
              case sa10 => go_keep
              clear hK K
              try simp only [Act.put, List.setIfInBounds_toArray, List.set_cons_zero, List.set_cons_succ]
              refine wpAnyH_ready (rs := [15]) (by kernel_rfl) (by simp) ?_
              refine AllReadyH.cons (o := { dst := some 114, op := Op.call { callee := Callee.value (Operand.func 38), args := #[Operand.tmp 109, Operand.tmp 113], argTypes := #[73, 73] }, type := 4, pos := "law.go:53", after := #[{ on := 10, ground := Ground.data }, { on := 14, ground := Ground.data }, { on := 10, ground := Ground.chain }, { on := 8, ground := Ground.guard }], guard := some (8, false) }) rfl (fun K hK => ?_) AllReadyH.nil
              go_simp
              refine (I1.out u1 v G1.out _ ?_).mono ?_
              · exact ⟨rfl, rfl, rfl, rfl⟩
              rintro e u2 ⟨rfl, nn, rfl⟩
              (try go_wp2_with fail)
              refine hK.out _ _ ?sa15 (fun hHeld => ?ta15)
              case sa15 => go_keep
              clear hK K
              try simp only [Act.put, List.setIfInBounds_toArray, List.set_cons_zero, List.set_cons_succ]
              refine wpAnyH_take (i := 16) (oi := { dst := some 115, op := Op.unOp UnOp.not 4 (Operand.tmp 114), type := 4, pos := "law.go:53", after := #[{ on := 15, ground := Ground.data }, { on := 8, ground := Ground.guard }], guard := some (8, false) }) (v := ?va16) rfl (by kernel_rfl) (by kernel_rfl) (by kernel_rfl) (fun _ _ _ h => h) (Or.inl ⟨by rfl, ?ha16⟩) (by assumption) ?ra16
              case ha16 => (intro wz hSw; (try dsimp only at hSw); go_simp <;> with_reducible rfl)
              try simp only [Act.put, List.setIfInBounds_toArray, List.set_cons_zero, List.set_cons_succ]
              refine wpAnyH_take (i := 17) (oi := { dst := some 116, op := Op.pick (Operand.tmp 107) (Operand.const (Value.bool true)) (Operand.tmp 115), type := 4, pos := "law.go:53", after := #[{ on := 8, ground := Ground.data }, { on := 16, ground := Ground.data }], guard := none }) (v := ?va17) rfl (by kernel_rfl) (by kernel_rfl) (by kernel_rfl) (fun _ _ _ h => h) (Or.inl ⟨by rfl, ?ha17⟩) (by assumption) ?ra17
              case ha17 => (intro wz hSw; (try dsimp only at hSw); go_simp <;> with_reducible rfl)
              try simp only [Act.put, List.setIfInBounds_toArray, List.set_cons_zero, List.set_cons_succ]
              refine wpAnyH_take (i := 18) (oi := { dst := some 117, op := Op.move (Operand.tmp 116), type := 4, pos := "law.go:53", after := #[{ on := 17, ground := Ground.data }, { on := 15, ground := Ground.chain }], guard := none }) (v := ?va18) rfl (by kernel_rfl) (by kernel_rfl) (by kernel_rfl) (fun _ _ _ h => h) (Or.inl ⟨by rfl, ?ha18⟩) (by assumption) ?ra18
              case ha18 => (intro wz hSw; (try dsimp only at hSw); go_simp <;> with_reducible rfl)
              try simp only [Act.put, List.setIfInBounds_toArray, List.set_cons_zero, List.set_cons_succ]
              refine wpAnyH_take (i := 19) (oi := { dst := some 118, op := Op.move (Operand.tmp 16), type := 33, pos := "law.go:53", after := #[{ on := 18, ground := Ground.guard }], guard := some (18, false) }) (v := ?va19) rfl (by kernel_rfl) (by kernel_rfl) (by kernel_rfl) (fun _ _ _ h => h) (Or.inl ⟨by rfl, ?ha19⟩) (by assumption) ?ra19
              case ha19 => (intro wz hSw; (try dsimp only at hSw); go_simp <;> with_reducible rfl)
              try simp only [Act.put, List.setIfInBounds_toArray, List.set_cons_zero, List.set_cons_succ]
              refine wpAnyH_take (i := 20) (oi := { dst := some 119, op := Op.binOp BinOp.eql 33 (Operand.tmp 118) (Operand.const (Value.int IntKind.i64 0)) 33, type := 4, pos := "law.go:53", after := #[{ on := 19, ground := Ground.data }, { on := 18, ground := Ground.guard }], guard := some (18, false) }) (v := ?va20) rfl (by kernel_rfl) (by kernel_rfl) (by kernel_rfl) (fun _ _ _ h => h) (Or.inl ⟨by rfl, ?ha20⟩) (by assumption) ?ra20
              case ha20 => (intro wz hSw; (try dsimp only at hSw); go_simp <;> with_reducible rfl)
              try simp only [Act.put, List.setIfInBounds_toArray, List.set_cons_zero, List.set_cons_succ]
              refine wpAnyH_take (i := 21) (oi := { dst := some 120, op := Op.move (Operand.tmp 7), type := 64, pos := "law.go:53", after := #[{ on := 18, ground := Ground.guard }], guard := some (18, false) }) (v := ?va21) rfl (by kernel_rfl) (by kernel_rfl) (by kernel_rfl) (fun _ _ _ h => h) (Or.inl ⟨by rfl, ?ha21⟩) (by assumption) ?ra21
              case ha21 => (intro wz hSw; (try dsimp only at hSw); go_simp <;> with_reducible rfl)
              try simp only [Act.put, List.setIfInBounds_toArray, List.set_cons_zero, List.set_cons_succ]
              refine wpAnyH_take (i := 22) (oi := { dst := some 121, op := Op.fieldAddr 68 (Operand.tmp 10) 0, type := 0, pos := "law.go:53", after := #[{ on := 18, ground := Ground.guard }], guard := some (18, false) }) (v := ?va22) rfl (by kernel_rfl) (by kernel_rfl) (by kernel_rfl) (fun _ _ _ h => h) (Or.inl ⟨by rfl, ?ha22⟩) (by assumption) ?ra22
              case ha22 => (intro wz hSw; (try dsimp only at hSw); go_simp <;> with_reducible rfl)
              try simp only [Act.put, List.setIfInBounds_toArray, List.set_cons_zero, List.set_cons_succ]
              refine wpAnyH_take (i := 23) (oi := { dst := some 122, op := Op.load 3 (Operand.tmp 121), type := 3, pos := "law.go:53", after := #[{ on := 22, ground := Ground.data }, { on := 18, ground := Ground.guard }], guard := some (18, false) }) (v := ?va23) rfl (by kernel_rfl) (by kernel_rfl) (by kernel_rfl) (fun _ _ _ h => h) (Or.inl ⟨by rfl, ?ha23⟩) (by assumption) ?ra23
              case ha23 => (intro wz hSw; (try dsimp only at hSw); go_simp <;> with_reducible rfl)
              try simp only [Act.put, List.setIfInBounds_toArray, List.set_cons_zero, List.set_cons_succ]
              refine wpAnyH_ready (rs := [24]) (by kernel_rfl) (by simp) ?_
              refine AllReadyH.cons (o := { dst := some 123, op := Op.call { callee := Callee.value (Operand.func 40), args := #[Operand.tmp 120, Operand.tmp 122], argTypes := #[64, 3] }, type := 4, pos := "law.go:53", after := #[{ on := 21, ground := Ground.data }, { on := 23, ground := Ground.data }, { on := 18, ground := Ground.chain }, { on := 18, ground := Ground.guard }], guard := some (18, false) }) rfl (fun K hK => ?_) AllReadyH.nil
              go_simp
              refine (IS.out u1 v G1.out _ ?_).mono ?_
              · exact ⟨rfl, rfl, rfl, rfl⟩
              rintro e u2 ⟨rfl, rfl⟩
              (try go_wp2_with fail)
              refine hK.out _ _ ?sa24 (fun hHeld => ?ta24)
              case sa24 => go_keep
              clear hK K
              try simp only [Act.put, List.setIfInBounds_toArray, List.set_cons_zero, List.set_cons_succ]
              refine wpAnyH_take (i := 25) (oi := { dst := some 124, op := Op.binOp BinOp.neq 4 (Operand.tmp 119) (Operand.tmp 123) 4, type := 4, pos := "law.go:53", after := #[{ on := 20, ground := Ground.data }, { on := 24, ground := Ground.data }, { on := 18, ground := Ground.guard }], guard := some (18, false) }) (v := ?va25) rfl (by kernel_rfl) (by kernel_rfl) (by kernel_rfl) (fun _ _ _ h => h) (Or.inl ⟨by rfl, ?ha25⟩) (by assumption) ?ra25
              case ha25 => (intro wz hSw; (try dsimp only at hSw); go_simp <;> with_reducible rfl)
              try simp only [Act.put, List.setIfInBounds_toArray, List.set_cons_zero, List.set_cons_succ]
              refine wpAnyH_take (i := 26) (oi := { dst := some 125, op := Op.pick (Operand.tmp 117) (Operand.const (Value.bool true)) (Operand.tmp 124), type := 4, pos := "law.go:53", after := #[{ on := 18, ground := Ground.data }, { on := 25, ground := Ground.data }], guard := none }) (v := ?va26) rfl (by kernel_rfl) (by kernel_rfl) (by kernel_rfl) (fun _ _ _ h => h) (Or.inl ⟨by rfl, ?ha26⟩) (by assumption) ?ra26
              case ha26 => (intro wz hSw; (try dsimp only at hSw); go_simp <;> with_reducible rfl)
              try simp only [Act.put, List.setIfInBounds_toArray, List.set_cons_zero, List.set_cons_succ]
              refine wpAnyH_take (i := 27) (oi := { dst := some 126, op := Op.move (Operand.tmp 125), type := 4, pos := "law.go:53", after := #[{ on := 26, ground := Ground.data }, { on := 24, ground := Ground.chain }], guard := none }) (v := ?va27) rfl (by kernel_rfl) (by kernel_rfl) (by kernel_rfl) (fun _ _ _ h => h) (Or.inl ⟨by rfl, ?ha27⟩) (by assumption) ?ra27
              case ha27 => (intro wz hSw; (try dsimp only at hSw); go_simp <;> with_reducible rfl)
              try simp only [Act.put, List.setIfInBounds_toArray, List.set_cons_zero, List.set_cons_succ]
              refine wpAnyH_take (i := 28) (oi := { dst := some 127, op := Op.move (Operand.tmp 16), type := 33, pos := "law.go:53", after := #[{ on := 27, ground := Ground.guard }], guard := some (27, false) }) (v := ?va28) rfl (by kernel_rfl) (by kernel_rfl) (by kernel_rfl) (fun _ _ _ h => h) (Or.inl ⟨by rfl, ?ha28⟩) (by assumption) ?ra28
              case ha28 => (intro wz hSw; (try dsimp only at hSw); go_simp <;> with_reducible rfl)
              try simp only [Act.put, List.setIfInBounds_toArray, List.set_cons_zero, List.set_cons_succ]
              refine wpAnyH_take (i := 29) (oi := { dst := some 128, op := Op.binOp BinOp.eql 33 (Operand.tmp 127) (Operand.const (Value.int IntKind.i64 0)) 33, type := 4, pos := "law.go:53", after := #[{ on := 28, ground := Ground.data }, { on := 27, ground := Ground.guard }], guard := some (27, false) }) (v := ?va29) rfl (by kernel_rfl) (by kernel_rfl) (by kernel_rfl) (fun _ _ _ h => h) (Or.inl ⟨by rfl, ?ha29⟩) (by assumption) ?ra29
              case ha29 => (intro wz hSw; (try dsimp only at hSw); go_simp <;> with_reducible rfl)
              try simp only [Act.put, List.setIfInBounds_toArray, List.set_cons_zero, List.set_cons_succ]
              refine wpAnyH_take (i := 30) (oi := { dst := some 129, op := Op.move (Operand.tmp 128), type := 4, pos := "law.go:53", after := #[{ on := 29, ground := Ground.data }, { on := 27, ground := Ground.chain }, { on := 27, ground := Ground.guard }], guard := some (27, false) }) (v := ?va30) rfl (by kernel_rfl) (by kernel_rfl) (by kernel_rfl) (fun _ _ _ h => h) (Or.inl ⟨by rfl, ?ha30⟩) (by assumption) ?ra30
              case ha30 => (intro wz hSw; (try dsimp only at hSw); go_simp <;> with_reducible rfl)
              try simp only [Act.put, List.setIfInBounds_toArray, List.set_cons_zero, List.set_cons_succ]
              refine wpAnyH_take (i := 31) (oi := { dst := some 130, op := Op.move (Operand.tmp 15), type := 2, pos := "law.go:53", after := #[{ on := 30, ground := Ground.guard }], guard := some (30, true) }) (v := ?va31) rfl (by kernel_rfl) (by kernel_rfl) (by kernel_rfl) (fun _ _ _ h => h) (Or.inl ⟨by rfl, ?ha31⟩) (by assumption) ?ra31
              case ha31 => (intro wz hSw; (try dsimp only at hSw); go_simp <;> with_reducible rfl)
              try simp only [Act.put, List.setIfInBounds_toArray, List.set_cons_zero, List.set_cons_succ]
              refine wpAnyH_take (i := 32) (oi := { dst := some 131, op := Op.move (Operand.tmp 7), type := 64, pos := "law.go:53", after := #[{ on := 30, ground := Ground.guard }], guard := some (30, true) }) (v := ?va32) rfl (by kernel_rfl) (by kernel_rfl) (by kernel_rfl) (fun _ _ _ h => h) (Or.inl ⟨by rfl, ?ha32⟩) (by assumption) ?ra32
              case ha32 => (intro wz hSw; (try dsimp only at hSw); go_simp <;> with_reducible rfl)
              try simp only [Act.put, List.setIfInBounds_toArray, List.set_cons_zero, List.set_cons_succ]
              refine wpAnyH_take (i := 33) (oi := { dst := some 132, op := Op.nilCheck (Operand.tmp 131), type := 0, pos := "law.go:53", after := #[{ on := 32, ground := Ground.data }, { on := 30, ground := Ground.guard }], guard := some (30, true) }) (v := ?va33) rfl (by kernel_rfl) (by kernel_rfl) (by kernel_rfl) (fun _ _ _ h => h) (Or.inl ⟨by rfl, ?ha33⟩) (by assumption) ?ra33
              case ha33 => (intro wz hSw; (try dsimp only at hSw); go_simp <;> with_reducible rfl)
              try simp only [Act.put, List.setIfInBounds_toArray, List.set_cons_zero, List.set_cons_succ]
              refine wpAnyH_take (i := 34) (oi := { dst := some 133, op := Op.fieldAddr 76 (Operand.tmp 132) 0, type := 0, pos := "law.go:53", after := #[{ on := 33, ground := Ground.data }, { on := 30, ground := Ground.guard }], guard := some (30, true) }) (v := ?va34) rfl (by kernel_rfl) (by kernel_rfl) (by kernel_rfl) (fun _ _ _ h => h) (Or.inl ⟨by rfl, ?ha34⟩) (by assumption) ?ra34
              case ha34 => (intro wz hSw; (try dsimp only at hSw); go_simp <;> with_reducible rfl)
              try simp only [Act.put, List.setIfInBounds_toArray, List.set_cons_zero, List.set_cons_succ]
              refine wpAnyH_take (i := 35) (oi := { dst := some 134, op := Op.load 73 (Operand.tmp 133), type := 73, pos := "law.go:53", after := #[{ on := 34, ground := Ground.data }, { on := 30, ground := Ground.guard }], guard := some (30, true) }) (v := ?va35) rfl (by kernel_rfl) (by kernel_rfl) (by kernel_rfl) (fun _ _ _ h => h) (Or.inl ⟨by rfl, ?ha35⟩) (by assumption) ?ra35
              case ha35 => (intro wz hSw; (try dsimp only at hSw); go_simp <;> with_reducible rfl)
              try simp only [Act.put, List.setIfInBounds_toArray, List.set_cons_zero, List.set_cons_succ]
              refine wpAnyH_take (i := 36) (oi := { dst := some 135, op := Op.fieldAddr 68 (Operand.tmp 10) 0, type := 0, pos := "law.go:53", after := #[{ on := 30, ground := Ground.guard }], guard := some (30, true) }) (v := ?va36) rfl (by kernel_rfl) (by kernel_rfl) (by kernel_rfl) (fun _ _ _ h => h) (Or.inl ⟨by rfl, ?ha36⟩) (by assumption) ?ra36
              case ha36 => (intro wz hSw; (try dsimp only at hSw); go_simp <;> with_reducible rfl)
              try simp only [Act.put, List.setIfInBounds_toArray, List.set_cons_zero, List.set_cons_succ]
              refine wpAnyH_take (i := 37) (oi := { dst := some 136, op := Op.load 3 (Operand.tmp 135), type := 3, pos := "law.go:53", after := #[{ on := 36, ground := Ground.data }, { on := 30, ground := Ground.guard }], guard := some (30, true) }) (v := ?va37) rfl (by kernel_rfl) (by kernel_rfl) (by kernel_rfl) (fun _ _ _ h => h) (Or.inl ⟨by rfl, ?ha37⟩) (by assumption) ?ra37
              case ha37 => (intro wz hSw; (try dsimp only at hSw); go_simp <;> with_reducible rfl)
              try simp only [Act.put, List.setIfInBounds_toArray, List.set_cons_zero, List.set_cons_succ]
              refine wpAnyH_take (i := 38) (oi := { dst := some 137, op := Op.indexAddr 73 (Operand.tmp 134) (Operand.tmp 136), type := 0, pos := "law.go:53", after := #[{ on := 35, ground := Ground.data }, { on := 37, ground := Ground.data }, { on := 30, ground := Ground.guard }], guard := some (30, true) }) (v := ?va38) rfl (by kernel_rfl) (by kernel_rfl) (by kernel_rfl) (fun _ _ _ h => h) (Or.inl ⟨by rfl, ?ha38⟩) (by assumption) ?ra38
              case ha38 => (intro wz hSw; (try dsimp only at hSw); go_simp <;> with_reducible rfl)
              try simp only [Act.put, List.setIfInBounds_toArray, List.set_cons_zero, List.set_cons_succ]
              refine wpAnyH_take (i := 39) (oi := { dst := some 138, op := Op.load 2 (Operand.tmp 137), type := 2, pos := "law.go:53", after := #[{ on := 38, ground := Ground.data }, { on := 30, ground := Ground.guard }], guard := some (30, true) }) (v := ?va39) rfl (by kernel_rfl) (by kernel_rfl) (by kernel_rfl) (fun _ _ _ h => h) (Or.inl ⟨by rfl, ?ha39⟩) (by assumption) ?ra39
              case ha39 => (intro wz hSw; (try dsimp only at hSw); go_simp <;> with_reducible rfl)
              try simp only [Act.put, List.setIfInBounds_toArray, List.set_cons_zero, List.set_cons_succ]
              refine wpAnyH_take (i := 40) (oi := { dst := some 139, op := Op.binOp BinOp.neq 2 (Operand.tmp 130) (Operand.tmp 138) 2, type := 4, pos := "law.go:53", after := #[{ on := 31, ground := Ground.data }, { on := 39, ground := Ground.data }, { on := 30, ground := Ground.guard }], guard := some (30, true) }) (v := ?va40) rfl (by kernel_rfl) (by kernel_rfl) (by kernel_rfl) (fun _ _ _ h => h) (Or.inl ⟨by rfl, ?ha40⟩) (by assumption) ?ra40
              case ha40 => (intro wz hSw; (try dsimp only at hSw); go_simp <;> with_reducible rfl)
              try simp only [Act.put, List.setIfInBounds_toArray, List.set_cons_zero, List.set_cons_succ]
              refine wpAnyH_take (i := 41) (oi := { dst := some 140, op := Op.pick (Operand.tmp 129) (Operand.tmp 139) (Operand.const (Value.bool false)), type := 4, pos := "law.go:53", after := #[{ on := 30, ground := Ground.data }, { on := 40, ground := Ground.data }, { on := 27, ground := Ground.guard }], guard := some (27, false) }) (v := ?va41) rfl (by kernel_rfl) (by kernel_rfl) (by kernel_rfl) (fun _ _ _ h => h) (Or.inl ⟨by rfl, ?ha41⟩) (by assumption) ?ra41
              case ha41 => (intro wz hSw; (try dsimp only at hSw); go_simp <;> with_reducible rfl)
              try simp only [Act.put, List.setIfInBounds_toArray, List.set_cons_zero, List.set_cons_succ]
              refine wpAnyH_take (i := 42) (oi := { dst := some 141, op := Op.pick (Operand.tmp 126) (Operand.const (Value.bool true)) (Operand.tmp 140), type := 4, pos := "law.go:53", after := #[{ on := 27, ground := Ground.data }, { on := 41, ground := Ground.data }], guard := none }) (v := ?va42) rfl (by kernel_rfl) (by kernel_rfl) (by kernel_rfl) (fun _ _ _ h => h) (Or.inl ⟨by rfl, ?ha42⟩) (by assumption) ?ra42
              case ha42 => (intro wz hSw; (try dsimp only at hSw); go_simp <;> with_reducible rfl)
              try simp only [Act.put, List.setIfInBounds_toArray, List.set_cons_zero, List.set_cons_succ]
              refine wpAnyH_take (i := 43) (oi := { dst := some 142, op := Op.move (Operand.tmp 141), type := 4, pos := "law.go:53", after := #[{ on := 42, ground := Ground.data }, { on := 30, ground := Ground.chain }], guard := none }) (v := ?va43) rfl (by kernel_rfl) (by kernel_rfl) (by kernel_rfl) (fun _ _ _ h => h) (Or.inl ⟨by rfl, ?ha43⟩) (by assumption) ?ra43
              case ha43 => (intro wz hSw; (try dsimp only at hSw); go_simp <;> with_reducible rfl)
              try simp only [Act.put, List.setIfInBounds_toArray, List.set_cons_zero, List.set_cons_succ]
              refine wpAnyH_take (i := 44) (oi := { dst := some 143, op := Op.move (Operand.tmp 16), type := 33, pos := "law.go:53", after := #[{ on := 43, ground := Ground.guard }], guard := some (43, false) }) (v := ?va44) rfl (by kernel_rfl) (by kernel_rfl) (by kernel_rfl) (fun _ _ _ h => h) (Or.inl ⟨by rfl, ?ha44⟩) (by assumption) ?ra44
              case ha44 => (intro wz hSw; (try dsimp only at hSw); go_simp <;> with_reducible rfl)
              try simp only [Act.put, List.setIfInBounds_toArray, List.set_cons_zero, List.set_cons_succ]
              refine wpAnyH_take (i := 45) (oi := { dst := some 144, op := Op.binOp BinOp.neq 33 (Operand.tmp 143) (Operand.const (Value.int IntKind.i64 0)) 33, type := 4, pos := "law.go:53", after := #[{ on := 44, ground := Ground.data }, { on := 43, ground := Ground.guard }], guard := some (43, false) }) (v := ?va45) rfl (by kernel_rfl) (by kernel_rfl) (by kernel_rfl) (fun _ _ _ h => h) (Or.inl ⟨by rfl, ?ha45⟩) (by assumption) ?ra45
              case ha45 => (intro wz hSw; (try dsimp only at hSw); go_simp <;> with_reducible rfl)
              try simp only [Act.put, List.setIfInBounds_toArray, List.set_cons_zero, List.set_cons_succ]
              refine wpAnyH_take (i := 46) (oi := { dst := some 145, op := Op.move (Operand.tmp 144), type := 4, pos := "law.go:53", after := #[{ on := 45, ground := Ground.data }, { on := 43, ground := Ground.chain }, { on := 43, ground := Ground.guard }], guard := some (43, false) }) (v := ?va46) rfl (by kernel_rfl) (by kernel_rfl) (by kernel_rfl) (fun _ _ _ h => h) (Or.inl ⟨by rfl, ?ha46⟩) (by assumption) ?ra46
              case ha46 => (intro wz hSw; (try dsimp only at hSw); go_simp <;> with_reducible rfl)
              try simp only [Act.put, List.setIfInBounds_toArray, List.set_cons_zero, List.set_cons_succ]
              refine wpAnyH_take (i := 47) (oi := { dst := some 146, op := Op.move (Operand.tmp 15), type := 2, pos := "law.go:53", after := #[{ on := 46, ground := Ground.guard }], guard := some (46, true) }) (v := undef) rfl (by kernel_rfl) (by kernel_rfl) (by kernel_rfl) (fun _ _ _ h => h) (Or.inr ⟨by rfl, rfl⟩) (by assumption) ?_
              try simp only [Act.put, List.setIfInBounds_toArray, List.set_cons_zero, List.set_cons_succ]
              refine wpAnyH_take (i := 48) (oi := { dst := some 147, op := Op.binOp BinOp.neq 2 (Operand.tmp 146) (Operand.const (Value.int IntKind.i64 0)) 2, type := 4, pos := "law.go:53", after := #[{ on := 47, ground := Ground.data }, { on := 46, ground := Ground.guard }], guard := some (46, true) }) (v := undef) rfl (by kernel_rfl) (by kernel_rfl) (by kernel_rfl) (fun _ _ _ h => h) (Or.inr ⟨by rfl, rfl⟩) (by assumption) ?_
              try simp only [Act.put, List.setIfInBounds_toArray, List.set_cons_zero, List.set_cons_succ]
              refine wpAnyH_take (i := 49) (oi := { dst := some 148, op := Op.move (Operand.tmp 147), type := 4, pos := "law.go:53", after := #[{ on := 48, ground := Ground.data }, { on := 46, ground := Ground.chain }, { on := 46, ground := Ground.guard }], guard := some (46, true) }) (v := undef) rfl (by kernel_rfl) (by kernel_rfl) (by kernel_rfl) (fun _ _ _ h => h) (Or.inr ⟨by rfl, rfl⟩) (by assumption) ?_
              try simp only [Act.put, List.setIfInBounds_toArray, List.set_cons_zero, List.set_cons_succ]
              refine wpAnyH_take (i := 50) (oi := { dst := some 149, op := Op.move (Operand.tmp 16), type := 33, pos := "law.go:53", after := #[{ on := 49, ground := Ground.guard }], guard := some (49, false) }) (v := undef) rfl (by kernel_rfl) (by kernel_rfl) (by kernel_rfl) (fun _ _ _ h => h) (Or.inr ⟨by rfl, rfl⟩) (by assumption) ?_
              try simp only [Act.put, List.setIfInBounds_toArray, List.set_cons_zero, List.set_cons_succ]
              refine wpAnyH_take (i := 51) (oi := { dst := some 150, op := Op.binOp BinOp.neq 33 (Operand.tmp 149) (Operand.const (Value.int IntKind.i64 3)) 33, type := 4, pos := "law.go:53", after := #[{ on := 50, ground := Ground.data }, { on := 49, ground := Ground.guard }], guard := some (49, false) }) (v := undef) rfl (by kernel_rfl) (by kernel_rfl) (by kernel_rfl) (fun _ _ _ h => h) (Or.inr ⟨by rfl, rfl⟩) (by assumption) ?_
              try simp only [Act.put, List.setIfInBounds_toArray, List.set_cons_zero, List.set_cons_succ]
              refine wpAnyH_take (i := 52) (oi := { dst := some 151, op := Op.pick (Operand.tmp 148) (Operand.const (Value.bool true)) (Operand.tmp 150), type := 4, pos := "law.go:53", after := #[{ on := 49, ground := Ground.data }, { on := 51, ground := Ground.data }, { on := 46, ground := Ground.guard }], guard := some (46, true) }) (v := undef) rfl (by kernel_rfl) (by kernel_rfl) (by kernel_rfl) (fun _ _ _ h => h) (Or.inr ⟨by rfl, rfl⟩) (by assumption) ?_
              try simp only [Act.put, List.setIfInBounds_toArray, List.set_cons_zero, List.set_cons_succ]
              refine wpAnyH_take (i := 53) (oi := { dst := some 152, op := Op.pick (Operand.tmp 145) (Operand.tmp 151) (Operand.const (Value.bool false)), type := 4, pos := "law.go:53", after := #[{ on := 46, ground := Ground.data }, { on := 52, ground := Ground.data }, { on := 43, ground := Ground.guard }], guard := some (43, false) }) (v := ?va53) rfl (by kernel_rfl) (by kernel_rfl) (by kernel_rfl) (fun _ _ _ h => h) (Or.inl ⟨by rfl, ?ha53⟩) (by assumption) ?ra53
              case ha53 => (intro wz hSw; (try dsimp only at hSw); go_simp <;> with_reducible rfl)
              try simp only [Act.put, List.setIfInBounds_toArray, List.set_cons_zero, List.set_cons_succ]
              refine wpAnyH_take (i := 54) (oi := { dst := some 153, op := Op.pick (Operand.tmp 142) (Operand.const (Value.bool true)) (Operand.tmp 152), type := 4, pos := "law.go:53", after := #[{ on := 43, ground := Ground.data }, { on := 53, ground := Ground.data }], guard := none }) (v := ?va54) rfl (by kernel_rfl) (by kernel_rfl) (by kernel_rfl) (fun _ _ _ h => h) (Or.inl ⟨by rfl, ?ha54⟩) (by assumption) ?ra54
              case ha54 => (intro wz hSw; (try dsimp only at hSw); go_simp <;> with_reducible rfl)
              try simp only [Act.put, List.setIfInBounds_toArray, List.set_cons_zero, List.set_cons_succ]
              refine wpAnyH_done (by kernel_rfl) ?_ _
              go_wp2
              go_roundw
              case rel => exact ⟨k + 1, _, by omega, by omega, (P2.out.new G1.out.bel).sm ⟨rfl, rfl, rfl, rfl⟩, by go_num⟩
              case measure => simp [intOf]; omega
            | false =>
              rw [show gtN L2 y0 = 0 from if_neg (by rw [i]; simp), show gtE L2 y0 = 3 from if_neg (by rw [i]; simp)] at M3
              rw [i] at IS
              have KC : Hid (∀ u1 : World, Below wc.heap.size wc u1 → u1.cell? ⟨t + 1, 0, none⟩ = some (.slice (some ⟨t, 0, none⟩) L2.length L2.length) ∧ u1.cell? ⟨wr.heap.size, 0, none⟩ = some (.int .i64 y0)) := fun u1 b => ⟨(KR.out u1 b).c0, KA.out u1 b⟩
              clear i KR KA
              generalize L2.length = l at *
              go_wp2_with fail
              refine (M1.out ()).mono ?_
              rintro e v4 ⟨rfl, rfl⟩
              go_wp2_with fail
              refine (M2.out ()).mono ?_
              rintro e v4 ⟨rfl, rfl⟩
              go_wp2_with fail
              refine (M3.out ()).mono ?_
              rintro e v4 ⟨rfl, rfl⟩
              go_wp2_with fail
              refine wp_region_held_drew (S := fun w' => w'.cell? ⟨t + 1, 0, none⟩ = some (.slice (some ⟨t, 0, none⟩) l l) ∧ w'.cell? ⟨wr.heap.size, 0, none⟩ = some (.int .i64 y0)) (by kernel_rfl) (by go_keep) (fun hHeld => ?_)
              refine wpAnyH_take (i := 0) (oi := { dst := some 99, op := Op.move (Operand.tmp 11), type := 2, pos := "law.go:53", after := #[], guard := none }) (v := ?vb0) rfl (by kernel_rfl) (by kernel_rfl) (by kernel_rfl) (fun _ _ _ h => h) (Or.inl ⟨by rfl, ?hb0⟩) (by assumption) ?rb0
              case hb0 => (intro wz hSw; (try dsimp only at hSw); go_simp <;> with_reducible rfl)
              try simp only [Act.put, List.setIfInBounds_toArray, List.set_cons_zero, List.set_cons_succ]
              refine wpAnyH_take (i := 1) (oi := { dst := some 100, op := Op.move (Operand.tmp 13), type := 2, pos := "law.go:53", after := #[], guard := none }) (v := ?vb1) rfl (by kernel_rfl) (by kernel_rfl) (by kernel_rfl) (fun _ _ _ h => h) (Or.inl ⟨by rfl, ?hb1⟩) (by assumption) ?rb1
              case hb1 => (intro wz hSw; (try dsimp only at hSw); go_simp <;> with_reducible rfl)
              try simp only [Act.put, List.setIfInBounds_toArray, List.set_cons_zero, List.set_cons_succ]
              refine wpAnyH_take (i := 2) (oi := { dst := some 101, op := Op.binOp BinOp.neq 2 (Operand.tmp 99) (Operand.tmp 100) 2, type := 4, pos := "law.go:53", after := #[{ on := 0, ground := Ground.data }, { on := 1, ground := Ground.data }], guard := none }) (v := ?vb2) rfl (by kernel_rfl) (by kernel_rfl) (by kernel_rfl) (fun _ _ _ h => h) (Or.inl ⟨by rfl, ?hb2⟩) (by assumption) ?rb2
              case hb2 => (intro wz hSw; (try dsimp only at hSw); go_simp <;> with_reducible rfl)
              try simp only [Act.put, List.setIfInBounds_toArray, List.set_cons_zero, List.set_cons_succ]
              refine wpAnyH_take (i := 3) (oi := { dst := some 102, op := Op.move (Operand.tmp 101), type := 4, pos := "law.go:53", after := #[{ on := 2, ground := Ground.data }], guard := none }) (v := ?vb3) rfl (by kernel_rfl) (by kernel_rfl) (by kernel_rfl) (fun _ _ _ h => h) (Or.inl ⟨by rfl, ?hb3⟩) (by assumption) ?rb3
              case hb3 => (intro wz hSw; (try dsimp only at hSw); go_simp <;> with_reducible rfl)
              try simp only [Act.put, List.setIfInBounds_toArray, List.set_cons_zero, List.set_cons_succ]
              refine wpAnyH_take (i := 4) (oi := { dst := some 103, op := Op.move (Operand.tmp 12), type := 33, pos := "law.go:53", after := #[{ on := 3, ground := Ground.guard }], guard := some (3, false) }) (v := ?vb4) rfl (by kernel_rfl) (by kernel_rfl) (by kernel_rfl) (fun _ _ _ h => h) (Or.inl ⟨by rfl, ?hb4⟩) (by assumption) ?rb4
              case hb4 => (intro wz hSw; (try dsimp only at hSw); go_simp <;> with_reducible rfl)
              try simp only [Act.put, List.setIfInBounds_toArray, List.set_cons_zero, List.set_cons_succ]
              refine wpAnyH_take (i := 5) (oi := { dst := some 104, op := Op.move (Operand.tmp 14), type := 33, pos := "law.go:53", after := #[{ on := 3, ground := Ground.guard }], guard := some (3, false) }) (v := ?vb5) rfl (by kernel_rfl) (by kernel_rfl) (by kernel_rfl) (fun _ _ _ h => h) (Or.inl ⟨by rfl, ?hb5⟩) (by assumption) ?rb5
              case hb5 => (intro wz hSw; (try dsimp only at hSw); go_simp <;> with_reducible rfl)
              try simp only [Act.put, List.setIfInBounds_toArray, List.set_cons_zero, List.set_cons_succ]
              refine wpAnyH_take (i := 6) (oi := { dst := some 105, op := Op.binOp BinOp.neq 33 (Operand.tmp 103) (Operand.tmp 104) 33, type := 4, pos := "law.go:53", after := #[{ on := 4, ground := Ground.data }, { on := 5, ground := Ground.data }, { on := 3, ground := Ground.guard }], guard := some (3, false) }) (v := ?vb6) rfl (by kernel_rfl) (by kernel_rfl) (by kernel_rfl) (fun _ _ _ h => h) (Or.inl ⟨by rfl, ?hb6⟩) (by assumption) ?rb6
              case hb6 => (intro wz hSw; (try dsimp only at hSw); go_simp <;> with_reducible rfl)
              try simp only [Act.put, List.setIfInBounds_toArray, List.set_cons_zero, List.set_cons_succ]
              refine wpAnyH_take (i := 7) (oi := { dst := some 106, op := Op.pick (Operand.tmp 102) (Operand.const (Value.bool true)) (Operand.tmp 105), type := 4, pos := "law.go:53", after := #[{ on := 3, ground := Ground.data }, { on := 6, ground := Ground.data }], guard := none }) (v := ?vb7) rfl (by kernel_rfl) (by kernel_rfl) (by kernel_rfl) (fun _ _ _ h => h) (Or.inl ⟨by rfl, ?hb7⟩) (by assumption) ?rb7
              case hb7 => (intro wz hSw; (try dsimp only at hSw); go_simp <;> with_reducible rfl)
              try simp only [Act.put, List.setIfInBounds_toArray, List.set_cons_zero, List.set_cons_succ]
              refine wpAnyH_take (i := 8) (oi := { dst := some 107, op := Op.move (Operand.tmp 106), type := 4, pos := "law.go:53", after := #[{ on := 7, ground := Ground.data }, { on := 3, ground := Ground.chain }], guard := none }) (v := ?vb8) rfl (by kernel_rfl) (by kernel_rfl) (by kernel_rfl) (fun _ _ _ h => h) (Or.inl ⟨by rfl, ?hb8⟩) (by assumption) ?rb8
              case hb8 => (intro wz hSw; (try dsimp only at hSw); go_simp <;> with_reducible rfl)
              try simp only [Act.put, List.setIfInBounds_toArray, List.set_cons_zero, List.set_cons_succ]
              refine wpAnyH_take (i := 9) (oi := { dst := some 108, op := Op.move (Operand.tmp 5), type := 61, pos := "law.go:53", after := #[{ on := 8, ground := Ground.guard }], guard := some (8, false) }) (v := ?vb9) rfl (by kernel_rfl) (by kernel_rfl) (by kernel_rfl) (fun _ _ _ h => h) (Or.inl ⟨by rfl, ?hb9⟩) (by assumption) ?rb9
              case hb9 => (intro wz hSw; (try dsimp only at hSw); go_simp <;> with_reducible rfl)
              try simp only [Act.put, List.setIfInBounds_toArray, List.set_cons_zero, List.set_cons_succ]
              refine wpAnyH_take (i := 11) (oi := { dst := some 110, op := Op.move (Operand.tmp 7), type := 64, pos := "law.go:53", after := #[{ on := 8, ground := Ground.guard }], guard := some (8, false) }) (v := ?vb11) rfl (by kernel_rfl) (by kernel_rfl) (by kernel_rfl) (fun _ _ _ h => h) (Or.inl ⟨by rfl, ?hb11⟩) (by assumption) ?rb11
              case hb11 => (intro wz hSw; (try dsimp only at hSw); go_simp <;> with_reducible rfl)
              try simp only [Act.put, List.setIfInBounds_toArray, List.set_cons_zero, List.set_cons_succ]
              refine wpAnyH_take (i := 12) (oi := { dst := some 111, op := Op.nilCheck (Operand.tmp 110), type := 0, pos := "law.go:53", after := #[{ on := 11, ground := Ground.data }, { on := 8, ground := Ground.guard }], guard := some (8, false) }) (v := ?vb12) rfl (by kernel_rfl) (by kernel_rfl) (by kernel_rfl) (fun _ _ _ h => h) (Or.inl ⟨by rfl, ?hb12⟩) (by assumption) ?rb12
              case hb12 => (intro wz hSw; (try dsimp only at hSw); go_simp <;> with_reducible rfl)
              try simp only [Act.put, List.setIfInBounds_toArray, List.set_cons_zero, List.set_cons_succ]
              refine wpAnyH_take (i := 13) (oi := { dst := some 112, op := Op.fieldAddr 76 (Operand.tmp 111) 0, type := 0, pos := "law.go:53", after := #[{ on := 12, ground := Ground.data }, { on := 8, ground := Ground.guard }], guard := some (8, false) }) (v := ?vb13) rfl (by kernel_rfl) (by kernel_rfl) (by kernel_rfl) (fun _ _ _ h => h) (Or.inl ⟨by rfl, ?hb13⟩) (by assumption) ?rb13
              case hb13 => (intro wz hSw; (try dsimp only at hSw); go_simp <;> with_reducible rfl)
              try simp only [Act.put, List.setIfInBounds_toArray, List.set_cons_zero, List.set_cons_succ]
              refine wpAnyH_take (i := 14) (oi := { dst := some 113, op := Op.load 73 (Operand.tmp 112), type := 73, pos := "law.go:53", after := #[{ on := 13, ground := Ground.data }, { on := 8, ground := Ground.guard }], guard := some (8, false) }) (v := ?vb14) rfl (by kernel_rfl) (by kernel_rfl) (by kernel_rfl) (fun _ _ _ h => h) (Or.inl ⟨by rfl, ?hb14⟩) (by assumption) ?rb14
              case hb14 => (intro wz hSw; (try dsimp only at hSw); go_simp <;> with_reducible rfl)
              try simp only [Act.put, List.setIfInBounds_toArray, List.set_cons_zero, List.set_cons_succ]
              refine wpAnyH_ready (rs := [10]) (by kernel_rfl) (by simp) ?_
              refine AllReadyH.cons (o := { dst := some 109, op := Op.call { callee := Callee.value (Operand.func 39), args := #[Operand.tmp 108], argTypes := #[61] }, type := 73, pos := "law.go:53", after := #[{ on := 9, ground := Ground.data }, { on := 8, ground := Ground.chain }, { on := 8, ground := Ground.guard }], guard := some (8, false) }) rfl (fun K hK => ?_) AllReadyH.nil
              go_simp
              refine (W1.out _ ?_).mono ?_
              · exact ⟨rfl, rfl, rfl, rfl⟩
              rintro e u1 ⟨v, rfl, gt⟩
              obtain ⟨d1, d2⟩ := KC.out u1 gt.bel
              have G1 : Hid (Gl _ u1 v _) := gt
              clear gt
              (try go_wp2_with fail)
              refine hK.out _ _ ?sb10 (fun hHeld => ?tb10)
              case sb10 => go_keep
              clear hK K
              try simp only [Act.put, List.setIfInBounds_toArray, List.set_cons_zero, List.set_cons_succ]
              refine wpAnyH_ready (rs := [15]) (by kernel_rfl) (by simp) ?_
              refine AllReadyH.cons (o := { dst := some 114, op := Op.call { callee := Callee.value (Operand.func 38), args := #[Operand.tmp 109, Operand.tmp 113], argTypes := #[73, 73] }, type := 4, pos := "law.go:53", after := #[{ on := 10, ground := Ground.data }, { on := 14, ground := Ground.data }, { on := 10, ground := Ground.chain }, { on := 8, ground := Ground.guard }], guard := some (8, false) }) rfl (fun K hK => ?_) AllReadyH.nil
              go_simp
              refine (I1.out u1 v G1.out _ ?_).mono ?_
              · exact ⟨rfl, rfl, rfl, rfl⟩
              rintro e u2 ⟨rfl, nn, rfl⟩
              (try go_wp2_with fail)
              refine hK.out _ _ ?sb15 (fun hHeld => ?tb15)
              case sb15 => go_keep
              clear hK K
              try simp only [Act.put, List.setIfInBounds_toArray, List.set_cons_zero, List.set_cons_succ]
              refine wpAnyH_take (i := 16) (oi := { dst := some 115, op := Op.unOp UnOp.not 4 (Operand.tmp 114), type := 4, pos := "law.go:53", after := #[{ on := 15, ground := Ground.data }, { on := 8, ground := Ground.guard }], guard := some (8, false) }) (v := ?vb16) rfl (by kernel_rfl) (by kernel_rfl) (by kernel_rfl) (fun _ _ _ h => h) (Or.inl ⟨by rfl, ?hb16⟩) (by assumption) ?rb16
              case hb16 => (intro wz hSw; (try dsimp only at hSw); go_simp <;> with_reducible rfl)
              try simp only [Act.put, List.setIfInBounds_toArray, List.set_cons_zero, List.set_cons_succ]
              refine wpAnyH_take (i := 17) (oi := { dst := some 116, op := Op.pick (Operand.tmp 107) (Operand.const (Value.bool true)) (Operand.tmp 115), type := 4, pos := "law.go:53", after := #[{ on := 8, ground := Ground.data }, { on := 16, ground := Ground.data }], guard := none }) (v := ?vb17) rfl (by kernel_rfl) (by kernel_rfl) (by kernel_rfl) (fun _ _ _ h => h) (Or.inl ⟨by rfl, ?hb17⟩) (by assumption) ?rb17
              case hb17 => (intro wz hSw; (try dsimp only at hSw); go_simp <;> with_reducible rfl)
              try simp only [Act.put, List.setIfInBounds_toArray, List.set_cons_zero, List.set_cons_succ]
              refine wpAnyH_take (i := 18) (oi := { dst := some 117, op := Op.move (Operand.tmp 116), type := 4, pos := "law.go:53", after := #[{ on := 17, ground := Ground.data }, { on := 15, ground := Ground.chain }], guard := none }) (v := ?vb18) rfl (by kernel_rfl) (by kernel_rfl) (by kernel_rfl) (fun _ _ _ h => h) (Or.inl ⟨by rfl, ?hb18⟩) (by assumption) ?rb18
              case hb18 => (intro wz hSw; (try dsimp only at hSw); go_simp <;> with_reducible rfl)
              try simp only [Act.put, List.setIfInBounds_toArray, List.set_cons_zero, List.set_cons_succ]
              refine wpAnyH_take (i := 19) (oi := { dst := some 118, op := Op.move (Operand.tmp 16), type := 33, pos := "law.go:53", after := #[{ on := 18, ground := Ground.guard }], guard := some (18, false) }) (v := ?vb19) rfl (by kernel_rfl) (by kernel_rfl) (by kernel_rfl) (fun _ _ _ h => h) (Or.inl ⟨by rfl, ?hb19⟩) (by assumption) ?rb19
              case hb19 => (intro wz hSw; (try dsimp only at hSw); go_simp <;> with_reducible rfl)
              try simp only [Act.put, List.setIfInBounds_toArray, List.set_cons_zero, List.set_cons_succ]
              refine wpAnyH_take (i := 20) (oi := { dst := some 119, op := Op.binOp BinOp.eql 33 (Operand.tmp 118) (Operand.const (Value.int IntKind.i64 0)) 33, type := 4, pos := "law.go:53", after := #[{ on := 19, ground := Ground.data }, { on := 18, ground := Ground.guard }], guard := some (18, false) }) (v := ?vb20) rfl (by kernel_rfl) (by kernel_rfl) (by kernel_rfl) (fun _ _ _ h => h) (Or.inl ⟨by rfl, ?hb20⟩) (by assumption) ?rb20
              case hb20 => (intro wz hSw; (try dsimp only at hSw); go_simp <;> with_reducible rfl)
              try simp only [Act.put, List.setIfInBounds_toArray, List.set_cons_zero, List.set_cons_succ]
              refine wpAnyH_take (i := 21) (oi := { dst := some 120, op := Op.move (Operand.tmp 7), type := 64, pos := "law.go:53", after := #[{ on := 18, ground := Ground.guard }], guard := some (18, false) }) (v := ?vb21) rfl (by kernel_rfl) (by kernel_rfl) (by kernel_rfl) (fun _ _ _ h => h) (Or.inl ⟨by rfl, ?hb21⟩) (by assumption) ?rb21
              case hb21 => (intro wz hSw; (try dsimp only at hSw); go_simp <;> with_reducible rfl)
              try simp only [Act.put, List.setIfInBounds_toArray, List.set_cons_zero, List.set_cons_succ]
              refine wpAnyH_take (i := 22) (oi := { dst := some 121, op := Op.fieldAddr 68 (Operand.tmp 10) 0, type := 0, pos := "law.go:53", after := #[{ on := 18, ground := Ground.guard }], guard := some (18, false) }) (v := ?vb22) rfl (by kernel_rfl) (by kernel_rfl) (by kernel_rfl) (fun _ _ _ h => h) (Or.inl ⟨by rfl, ?hb22⟩) (by assumption) ?rb22
              case hb22 => (intro wz hSw; (try dsimp only at hSw); go_simp <;> with_reducible rfl)
              try simp only [Act.put, List.setIfInBounds_toArray, List.set_cons_zero, List.set_cons_succ]
              refine wpAnyH_take (i := 23) (oi := { dst := some 122, op := Op.load 3 (Operand.tmp 121), type := 3, pos := "law.go:53", after := #[{ on := 22, ground := Ground.data }, { on := 18, ground := Ground.guard }], guard := some (18, false) }) (v := ?vb23) rfl (by kernel_rfl) (by kernel_rfl) (by kernel_rfl) (fun _ _ _ h => h) (Or.inl ⟨by rfl, ?hb23⟩) (by assumption) ?rb23
              case hb23 => (intro wz hSw; (try dsimp only at hSw); go_simp <;> with_reducible rfl)
              try simp only [Act.put, List.setIfInBounds_toArray, List.set_cons_zero, List.set_cons_succ]
              refine wpAnyH_ready (rs := [24]) (by kernel_rfl) (by simp) ?_
              refine AllReadyH.cons (o := { dst := some 123, op := Op.call { callee := Callee.value (Operand.func 40), args := #[Operand.tmp 120, Operand.tmp 122], argTypes := #[64, 3] }, type := 4, pos := "law.go:53", after := #[{ on := 21, ground := Ground.data }, { on := 23, ground := Ground.data }, { on := 18, ground := Ground.chain }, { on := 18, ground := Ground.guard }], guard := some (18, false) }) rfl (fun K hK => ?_) AllReadyH.nil
              go_simp
              refine (IS.out u1 v G1.out _ ?_).mono ?_
              · exact ⟨rfl, rfl, rfl, rfl⟩
              rintro e u2 ⟨rfl, rfl⟩
              (try go_wp2_with fail)
              refine hK.out _ _ ?sb24 (fun hHeld => ?tb24)
              case sb24 => go_keep
              clear hK K
              try simp only [Act.put, List.setIfInBounds_toArray, List.set_cons_zero, List.set_cons_succ]
              refine wpAnyH_take (i := 25) (oi := { dst := some 124, op := Op.binOp BinOp.neq 4 (Operand.tmp 119) (Operand.tmp 123) 4, type := 4, pos := "law.go:53", after := #[{ on := 20, ground := Ground.data }, { on := 24, ground := Ground.data }, { on := 18, ground := Ground.guard }], guard := some (18, false) }) (v := ?vb25) rfl (by kernel_rfl) (by kernel_rfl) (by kernel_rfl) (fun _ _ _ h => h) (Or.inl ⟨by rfl, ?hb25⟩) (by assumption) ?rb25
              case hb25 => (intro wz hSw; (try dsimp only at hSw); go_simp <;> with_reducible rfl)
              try simp only [Act.put, List.setIfInBounds_toArray, List.set_cons_zero, List.set_cons_succ]
              refine wpAnyH_take (i := 26) (oi := { dst := some 125, op := Op.pick (Operand.tmp 117) (Operand.const (Value.bool true)) (Operand.tmp 124), type := 4, pos := "law.go:53", after := #[{ on := 18, ground := Ground.data }, { on := 25, ground := Ground.data }], guard := none }) (v := ?vb26) rfl (by kernel_rfl) (by kernel_rfl) (by kernel_rfl) (fun _ _ _ h => h) (Or.inl ⟨by rfl, ?hb26⟩) (by assumption) ?rb26
              case hb26 => (intro wz hSw; (try dsimp only at hSw); go_simp <;> with_reducible rfl)
              try simp only [Act.put, List.setIfInBounds_toArray, List.set_cons_zero, List.set_cons_succ]
              refine wpAnyH_take (i := 27) (oi := { dst := some 126, op := Op.move (Operand.tmp 125), type := 4, pos := "law.go:53", after := #[{ on := 26, ground := Ground.data }, { on := 24, ground := Ground.chain }], guard := none }) (v := ?vb27) rfl (by kernel_rfl) (by kernel_rfl) (by kernel_rfl) (fun _ _ _ h => h) (Or.inl ⟨by rfl, ?hb27⟩) (by assumption) ?rb27
              case hb27 => (intro wz hSw; (try dsimp only at hSw); go_simp <;> with_reducible rfl)
              try simp only [Act.put, List.setIfInBounds_toArray, List.set_cons_zero, List.set_cons_succ]
              refine wpAnyH_take (i := 28) (oi := { dst := some 127, op := Op.move (Operand.tmp 16), type := 33, pos := "law.go:53", after := #[{ on := 27, ground := Ground.guard }], guard := some (27, false) }) (v := ?vb28) rfl (by kernel_rfl) (by kernel_rfl) (by kernel_rfl) (fun _ _ _ h => h) (Or.inl ⟨by rfl, ?hb28⟩) (by assumption) ?rb28
              case hb28 => (intro wz hSw; (try dsimp only at hSw); go_simp <;> with_reducible rfl)
              try simp only [Act.put, List.setIfInBounds_toArray, List.set_cons_zero, List.set_cons_succ]
              refine wpAnyH_take (i := 29) (oi := { dst := some 128, op := Op.binOp BinOp.eql 33 (Operand.tmp 127) (Operand.const (Value.int IntKind.i64 0)) 33, type := 4, pos := "law.go:53", after := #[{ on := 28, ground := Ground.data }, { on := 27, ground := Ground.guard }], guard := some (27, false) }) (v := ?vb29) rfl (by kernel_rfl) (by kernel_rfl) (by kernel_rfl) (fun _ _ _ h => h) (Or.inl ⟨by rfl, ?hb29⟩) (by assumption) ?rb29
              case hb29 => (intro wz hSw; (try dsimp only at hSw); go_simp <;> with_reducible rfl)
              try simp only [Act.put, List.setIfInBounds_toArray, List.set_cons_zero, List.set_cons_succ]
              refine wpAnyH_take (i := 30) (oi := { dst := some 129, op := Op.move (Operand.tmp 128), type := 4, pos := "law.go:53", after := #[{ on := 29, ground := Ground.data }, { on := 27, ground := Ground.chain }, { on := 27, ground := Ground.guard }], guard := some (27, false) }) (v := ?vb30) rfl (by kernel_rfl) (by kernel_rfl) (by kernel_rfl) (fun _ _ _ h => h) (Or.inl ⟨by rfl, ?hb30⟩) (by assumption) ?rb30
              case hb30 => (intro wz hSw; (try dsimp only at hSw); go_simp <;> with_reducible rfl)
              try simp only [Act.put, List.setIfInBounds_toArray, List.set_cons_zero, List.set_cons_succ]
              refine wpAnyH_take (i := 31) (oi := { dst := some 130, op := Op.move (Operand.tmp 15), type := 2, pos := "law.go:53", after := #[{ on := 30, ground := Ground.guard }], guard := some (30, true) }) (v := undef) rfl (by kernel_rfl) (by kernel_rfl) (by kernel_rfl) (fun _ _ _ h => h) (Or.inr ⟨by rfl, rfl⟩) (by assumption) ?_
              try simp only [Act.put, List.setIfInBounds_toArray, List.set_cons_zero, List.set_cons_succ]
              refine wpAnyH_take (i := 32) (oi := { dst := some 131, op := Op.move (Operand.tmp 7), type := 64, pos := "law.go:53", after := #[{ on := 30, ground := Ground.guard }], guard := some (30, true) }) (v := undef) rfl (by kernel_rfl) (by kernel_rfl) (by kernel_rfl) (fun _ _ _ h => h) (Or.inr ⟨by rfl, rfl⟩) (by assumption) ?_
              try simp only [Act.put, List.setIfInBounds_toArray, List.set_cons_zero, List.set_cons_succ]
              refine wpAnyH_take (i := 33) (oi := { dst := some 132, op := Op.nilCheck (Operand.tmp 131), type := 0, pos := "law.go:53", after := #[{ on := 32, ground := Ground.data }, { on := 30, ground := Ground.guard }], guard := some (30, true) }) (v := undef) rfl (by kernel_rfl) (by kernel_rfl) (by kernel_rfl) (fun _ _ _ h => h) (Or.inr ⟨by rfl, rfl⟩) (by assumption) ?_
              try simp only [Act.put, List.setIfInBounds_toArray, List.set_cons_zero, List.set_cons_succ]
              refine wpAnyH_take (i := 34) (oi := { dst := some 133, op := Op.fieldAddr 76 (Operand.tmp 132) 0, type := 0, pos := "law.go:53", after := #[{ on := 33, ground := Ground.data }, { on := 30, ground := Ground.guard }], guard := some (30, true) }) (v := undef) rfl (by kernel_rfl) (by kernel_rfl) (by kernel_rfl) (fun _ _ _ h => h) (Or.inr ⟨by rfl, rfl⟩) (by assumption) ?_
              try simp only [Act.put, List.setIfInBounds_toArray, List.set_cons_zero, List.set_cons_succ]
              refine wpAnyH_take (i := 35) (oi := { dst := some 134, op := Op.load 73 (Operand.tmp 133), type := 73, pos := "law.go:53", after := #[{ on := 34, ground := Ground.data }, { on := 30, ground := Ground.guard }], guard := some (30, true) }) (v := undef) rfl (by kernel_rfl) (by kernel_rfl) (by kernel_rfl) (fun _ _ _ h => h) (Or.inr ⟨by rfl, rfl⟩) (by assumption) ?_
              try simp only [Act.put, List.setIfInBounds_toArray, List.set_cons_zero, List.set_cons_succ]
              refine wpAnyH_take (i := 36) (oi := { dst := some 135, op := Op.fieldAddr 68 (Operand.tmp 10) 0, type := 0, pos := "law.go:53", after := #[{ on := 30, ground := Ground.guard }], guard := some (30, true) }) (v := undef) rfl (by kernel_rfl) (by kernel_rfl) (by kernel_rfl) (fun _ _ _ h => h) (Or.inr ⟨by rfl, rfl⟩) (by assumption) ?_
              try simp only [Act.put, List.setIfInBounds_toArray, List.set_cons_zero, List.set_cons_succ]
              refine wpAnyH_take (i := 37) (oi := { dst := some 136, op := Op.load 3 (Operand.tmp 135), type := 3, pos := "law.go:53", after := #[{ on := 36, ground := Ground.data }, { on := 30, ground := Ground.guard }], guard := some (30, true) }) (v := undef) rfl (by kernel_rfl) (by kernel_rfl) (by kernel_rfl) (fun _ _ _ h => h) (Or.inr ⟨by rfl, rfl⟩) (by assumption) ?_
              try simp only [Act.put, List.setIfInBounds_toArray, List.set_cons_zero, List.set_cons_succ]
              refine wpAnyH_take (i := 38) (oi := { dst := some 137, op := Op.indexAddr 73 (Operand.tmp 134) (Operand.tmp 136), type := 0, pos := "law.go:53", after := #[{ on := 35, ground := Ground.data }, { on := 37, ground := Ground.data }, { on := 30, ground := Ground.guard }], guard := some (30, true) }) (v := undef) rfl (by kernel_rfl) (by kernel_rfl) (by kernel_rfl) (fun _ _ _ h => h) (Or.inr ⟨by rfl, rfl⟩) (by assumption) ?_
              try simp only [Act.put, List.setIfInBounds_toArray, List.set_cons_zero, List.set_cons_succ]
              refine wpAnyH_take (i := 39) (oi := { dst := some 138, op := Op.load 2 (Operand.tmp 137), type := 2, pos := "law.go:53", after := #[{ on := 38, ground := Ground.data }, { on := 30, ground := Ground.guard }], guard := some (30, true) }) (v := undef) rfl (by kernel_rfl) (by kernel_rfl) (by kernel_rfl) (fun _ _ _ h => h) (Or.inr ⟨by rfl, rfl⟩) (by assumption) ?_
              try simp only [Act.put, List.setIfInBounds_toArray, List.set_cons_zero, List.set_cons_succ]
              refine wpAnyH_take (i := 40) (oi := { dst := some 139, op := Op.binOp BinOp.neq 2 (Operand.tmp 130) (Operand.tmp 138) 2, type := 4, pos := "law.go:53", after := #[{ on := 31, ground := Ground.data }, { on := 39, ground := Ground.data }, { on := 30, ground := Ground.guard }], guard := some (30, true) }) (v := undef) rfl (by kernel_rfl) (by kernel_rfl) (by kernel_rfl) (fun _ _ _ h => h) (Or.inr ⟨by rfl, rfl⟩) (by assumption) ?_
              try simp only [Act.put, List.setIfInBounds_toArray, List.set_cons_zero, List.set_cons_succ]
              refine wpAnyH_take (i := 41) (oi := { dst := some 140, op := Op.pick (Operand.tmp 129) (Operand.tmp 139) (Operand.const (Value.bool false)), type := 4, pos := "law.go:53", after := #[{ on := 30, ground := Ground.data }, { on := 40, ground := Ground.data }, { on := 27, ground := Ground.guard }], guard := some (27, false) }) (v := ?vb41) rfl (by kernel_rfl) (by kernel_rfl) (by kernel_rfl) (fun _ _ _ h => h) (Or.inl ⟨by rfl, ?hb41⟩) (by assumption) ?rb41
              case hb41 => (intro wz hSw; (try dsimp only at hSw); go_simp <;> with_reducible rfl)
              try simp only [Act.put, List.setIfInBounds_toArray, List.set_cons_zero, List.set_cons_succ]
              refine wpAnyH_take (i := 42) (oi := { dst := some 141, op := Op.pick (Operand.tmp 126) (Operand.const (Value.bool true)) (Operand.tmp 140), type := 4, pos := "law.go:53", after := #[{ on := 27, ground := Ground.data }, { on := 41, ground := Ground.data }], guard := none }) (v := ?vb42) rfl (by kernel_rfl) (by kernel_rfl) (by kernel_rfl) (fun _ _ _ h => h) (Or.inl ⟨by rfl, ?hb42⟩) (by assumption) ?rb42
              case hb42 => (intro wz hSw; (try dsimp only at hSw); go_simp <;> with_reducible rfl)
              try simp only [Act.put, List.setIfInBounds_toArray, List.set_cons_zero, List.set_cons_succ]
              refine wpAnyH_take (i := 43) (oi := { dst := some 142, op := Op.move (Operand.tmp 141), type := 4, pos := "law.go:53", after := #[{ on := 42, ground := Ground.data }, { on := 30, ground := Ground.chain }], guard := none }) (v := ?vb43) rfl (by kernel_rfl) (by kernel_rfl) (by kernel_rfl) (fun _ _ _ h => h) (Or.inl ⟨by rfl, ?hb43⟩) (by assumption) ?rb43
              case hb43 => (intro wz hSw; (try dsimp only at hSw); go_simp <;> with_reducible rfl)
              try simp only [Act.put, List.setIfInBounds_toArray, List.set_cons_zero, List.set_cons_succ]
              refine wpAnyH_take (i := 44) (oi := { dst := some 143, op := Op.move (Operand.tmp 16), type := 33, pos := "law.go:53", after := #[{ on := 43, ground := Ground.guard }], guard := some (43, false) }) (v := ?vb44) rfl (by kernel_rfl) (by kernel_rfl) (by kernel_rfl) (fun _ _ _ h => h) (Or.inl ⟨by rfl, ?hb44⟩) (by assumption) ?rb44
              case hb44 => (intro wz hSw; (try dsimp only at hSw); go_simp <;> with_reducible rfl)
              try simp only [Act.put, List.setIfInBounds_toArray, List.set_cons_zero, List.set_cons_succ]
              refine wpAnyH_take (i := 45) (oi := { dst := some 144, op := Op.binOp BinOp.neq 33 (Operand.tmp 143) (Operand.const (Value.int IntKind.i64 0)) 33, type := 4, pos := "law.go:53", after := #[{ on := 44, ground := Ground.data }, { on := 43, ground := Ground.guard }], guard := some (43, false) }) (v := ?vb45) rfl (by kernel_rfl) (by kernel_rfl) (by kernel_rfl) (fun _ _ _ h => h) (Or.inl ⟨by rfl, ?hb45⟩) (by assumption) ?rb45
              case hb45 => (intro wz hSw; (try dsimp only at hSw); go_simp <;> with_reducible rfl)
              try simp only [Act.put, List.setIfInBounds_toArray, List.set_cons_zero, List.set_cons_succ]
              refine wpAnyH_take (i := 46) (oi := { dst := some 145, op := Op.move (Operand.tmp 144), type := 4, pos := "law.go:53", after := #[{ on := 45, ground := Ground.data }, { on := 43, ground := Ground.chain }, { on := 43, ground := Ground.guard }], guard := some (43, false) }) (v := ?vb46) rfl (by kernel_rfl) (by kernel_rfl) (by kernel_rfl) (fun _ _ _ h => h) (Or.inl ⟨by rfl, ?hb46⟩) (by assumption) ?rb46
              case hb46 => (intro wz hSw; (try dsimp only at hSw); go_simp <;> with_reducible rfl)
              try simp only [Act.put, List.setIfInBounds_toArray, List.set_cons_zero, List.set_cons_succ]
              refine wpAnyH_take (i := 47) (oi := { dst := some 146, op := Op.move (Operand.tmp 15), type := 2, pos := "law.go:53", after := #[{ on := 46, ground := Ground.guard }], guard := some (46, true) }) (v := ?vb47) rfl (by kernel_rfl) (by kernel_rfl) (by kernel_rfl) (fun _ _ _ h => h) (Or.inl ⟨by rfl, ?hb47⟩) (by assumption) ?rb47
              case hb47 => (intro wz hSw; (try dsimp only at hSw); go_simp <;> with_reducible rfl)
              try simp only [Act.put, List.setIfInBounds_toArray, List.set_cons_zero, List.set_cons_succ]
              refine wpAnyH_take (i := 48) (oi := { dst := some 147, op := Op.binOp BinOp.neq 2 (Operand.tmp 146) (Operand.const (Value.int IntKind.i64 0)) 2, type := 4, pos := "law.go:53", after := #[{ on := 47, ground := Ground.data }, { on := 46, ground := Ground.guard }], guard := some (46, true) }) (v := ?vb48) rfl (by kernel_rfl) (by kernel_rfl) (by kernel_rfl) (fun _ _ _ h => h) (Or.inl ⟨by rfl, ?hb48⟩) (by assumption) ?rb48
              case hb48 => (intro wz hSw; (try dsimp only at hSw); go_simp <;> with_reducible rfl)
              try simp only [Act.put, List.setIfInBounds_toArray, List.set_cons_zero, List.set_cons_succ]
              refine wpAnyH_take (i := 49) (oi := { dst := some 148, op := Op.move (Operand.tmp 147), type := 4, pos := "law.go:53", after := #[{ on := 48, ground := Ground.data }, { on := 46, ground := Ground.chain }, { on := 46, ground := Ground.guard }], guard := some (46, true) }) (v := ?vb49) rfl (by kernel_rfl) (by kernel_rfl) (by kernel_rfl) (fun _ _ _ h => h) (Or.inl ⟨by rfl, ?hb49⟩) (by assumption) ?rb49
              case hb49 => (intro wz hSw; (try dsimp only at hSw); go_simp <;> with_reducible rfl)
              try simp only [Act.put, List.setIfInBounds_toArray, List.set_cons_zero, List.set_cons_succ]
              refine wpAnyH_take (i := 50) (oi := { dst := some 149, op := Op.move (Operand.tmp 16), type := 33, pos := "law.go:53", after := #[{ on := 49, ground := Ground.guard }], guard := some (49, false) }) (v := ?vb50) rfl (by kernel_rfl) (by kernel_rfl) (by kernel_rfl) (fun _ _ _ h => h) (Or.inl ⟨by rfl, ?hb50⟩) (by assumption) ?rb50
              case hb50 => (intro wz hSw; (try dsimp only at hSw); go_simp <;> with_reducible rfl)
              try simp only [Act.put, List.setIfInBounds_toArray, List.set_cons_zero, List.set_cons_succ]
              refine wpAnyH_take (i := 51) (oi := { dst := some 150, op := Op.binOp BinOp.neq 33 (Operand.tmp 149) (Operand.const (Value.int IntKind.i64 3)) 33, type := 4, pos := "law.go:53", after := #[{ on := 50, ground := Ground.data }, { on := 49, ground := Ground.guard }], guard := some (49, false) }) (v := ?vb51) rfl (by kernel_rfl) (by kernel_rfl) (by kernel_rfl) (fun _ _ _ h => h) (Or.inl ⟨by rfl, ?hb51⟩) (by assumption) ?rb51
              case hb51 => (intro wz hSw; (try dsimp only at hSw); go_simp <;> with_reducible rfl)
              try simp only [Act.put, List.setIfInBounds_toArray, List.set_cons_zero, List.set_cons_succ]
              refine wpAnyH_take (i := 52) (oi := { dst := some 151, op := Op.pick (Operand.tmp 148) (Operand.const (Value.bool true)) (Operand.tmp 150), type := 4, pos := "law.go:53", after := #[{ on := 49, ground := Ground.data }, { on := 51, ground := Ground.data }, { on := 46, ground := Ground.guard }], guard := some (46, true) }) (v := ?vb52) rfl (by kernel_rfl) (by kernel_rfl) (by kernel_rfl) (fun _ _ _ h => h) (Or.inl ⟨by rfl, ?hb52⟩) (by assumption) ?rb52
              case hb52 => (intro wz hSw; (try dsimp only at hSw); go_simp <;> with_reducible rfl)
              try simp only [Act.put, List.setIfInBounds_toArray, List.set_cons_zero, List.set_cons_succ]
              refine wpAnyH_take (i := 53) (oi := { dst := some 152, op := Op.pick (Operand.tmp 145) (Operand.tmp 151) (Operand.const (Value.bool false)), type := 4, pos := "law.go:53", after := #[{ on := 46, ground := Ground.data }, { on := 52, ground := Ground.data }, { on := 43, ground := Ground.guard }], guard := some (43, false) }) (v := ?vb53) rfl (by kernel_rfl) (by kernel_rfl) (by kernel_rfl) (fun _ _ _ h => h) (Or.inl ⟨by rfl, ?hb53⟩) (by assumption) ?rb53
              case hb53 => (intro wz hSw; (try dsimp only at hSw); go_simp <;> with_reducible rfl)
              try simp only [Act.put, List.setIfInBounds_toArray, List.set_cons_zero, List.set_cons_succ]
              refine wpAnyH_take (i := 54) (oi := { dst := some 153, op := Op.pick (Operand.tmp 142) (Operand.const (Value.bool true)) (Operand.tmp 152), type := 4, pos := "law.go:53", after := #[{ on := 43, ground := Ground.data }, { on := 53, ground := Ground.data }], guard := none }) (v := ?vb54) rfl (by kernel_rfl) (by kernel_rfl) (by kernel_rfl) (fun _ _ _ h => h) (Or.inl ⟨by rfl, ?hb54⟩) (by assumption) ?rb54
              case hb54 => (intro wz hSw; (try dsimp only at hSw); go_simp <;> with_reducible rfl)
              try simp only [Act.put, List.setIfInBounds_toArray, List.set_cons_zero, List.set_cons_succ]
              refine wpAnyH_done (by kernel_rfl) ?_ _
              go_wp2
              go_roundw
              case rel => exact ⟨k + 1, _, by omega, by omega, (P2.out.new G1.out.bel).sm ⟨rfl, rfl, rfl, rfl⟩, by go_num⟩
              case measure => simp [intOf]; omega
        · have hb := pq.bel
          have hz := pq.lt
          have hq := pq.st
          clear pq
          go_wp2_with fail
          refine (KN.out wr).mono ?_
          rintro e u5 ⟨rfl, hb5⟩
          go_wp2
          go_ret
          exact ⟨rfl, hb.trans (hb5.mono (by omega))⟩
      · have hb := pq.bel
        have hz := pq.lt
        have hq := pq.st
        have hd : decide ((k : Int) < len1) = false := decide_eq_false h
        clear pq
        go_wp2_with fail
        refine (KN.out wr).mono ?_
        rintro e u5 ⟨rfl, hb5⟩
        go_wp2
        go_ret
        exact ⟨rfl, hb.trans (hb5.mono (by omega))⟩

set_option maxRecDepth 100000 in
theorem lifted (os : Os) (started : os.Started) (H : Type) (enc : TypeId × Value → H) :
    ReturnsInHanded {} Try.checked os 8 .any (Rows.splitPlaysSpec.pre6 enc Try.prog Try.f8 Rows.splitPlaysRow.domain false) (Rows.splitPlaysSpec.post enc Try.prog Try.f8 false true false false) := by
  refine returnsInHanded_of_change (C := Try.checked) own started (by kernel_rfl) Try.func8
    (ChangeSpec.witness6 (enc := enc) (C := Try.checked) false ⟨#[], #[.int .i64 0, .slice none 0 0], []⟩ 8 (by kernel_rfl) (by kernel_rfl) (by kernel_rfl) (by kernel_rfl)) ?_
  intro W base args ds gs before hval0 hW hcnd _
  have hval : ∀ (j : Nat) t v, Try.f8.params[j]? = some t → args[j]? = some v → Value.okWide Try.prog W .any base t v := hval0
  have hW' := hW
  obtain ⟨p, q, hA0, hV, rfl, hfz, hnd⟩ := hW
  have hA : DataW.TrodAll enc Try.prog W 0 (fun _ => true) true Try.f8.params.toList args.toList ds p := hA0
  rw [Try.params8] at hA hval
  obtain ⟨v0, vs0, d0, ds0, p0, q0, hargs, rfl, rfl, h0, r0⟩ := trodAll_cons hA
  obtain ⟨v1, vs1, d1, ds1, p1, q1, rfl, rfl, rfl, h1, r1⟩ := trodAll_cons r0
  obtain ⟨rfl, rfl, rfl⟩ := trodAll_nil r1
  obtain rfl : args = #[v0, v1] := by cases args; simp_all
  obtain ⟨rfl, rfl⟩ := trodVars_none hV
  obtain ⟨a0, rfl, rfl, rfl, w0⟩ := open_int Try.underlying3 (hval 0 3 v0 rfl rfl) h0
  obtain ⟨a1, len1, cap1, rfl⟩ := okWide_slice Try.underlying60 (hval 1 60 v1 rfl rfl)
  have k1 := h1
  have lt1 : ∀ x ∈ p1, x.block < W.heap.size := by obtain ⟨m, hm⟩ := k1; exact DataW.trod_lt m _ _ _ hm
  obtain ⟨X1, w1, z1⟩ : ∃ X : Nat → Nat → Int, SRow W (.slice a1 len1 cap1) len1 [true, true, true, false] X ∧ ∀ i, i < len1 → ∀ j, j < [true, true, true, false].length → [true, true, true, false].getD j true = true → (Lit.int .i64 (X i j)).wf = true := by
    obtain ⟨fuel, hf⟩ := h1
    exact open_recs [true, true, true, false] Try.underlying60 Try.underlying68 (by kernel_rfl) rfl (by decide) (fun | 0, _ => ⟨_, rfl, rfl, by kernel_rfl, Try.underlying3⟩ | 1, _ => ⟨_, rfl, rfl, by kernel_rfl, Try.underlying3⟩ | 2, _ => ⟨_, rfl, rfl, by kernel_rfl, Try.underlying2⟩ | 3, _ => ⟨_, rfl, rfl, by kernel_rfl, Try.underlying4⟩ | n + 4, h => absurd h (by simp only [List.length]; omega)) hf
  clear hA0 hval0
  refine (walk a0 a1 len1 cap1 X1 W w0 w1 z1).mono fun e W' ⟨he, bel⟩ => ?_
  subst he
  exact ⟨_, rfl, _, _, _, [], _, [], hW', trodAll_mk1 (shut_bool Try.underlying4 _), (trodAll_cons_mk (shut_int Try.underlying3 w0) (trodAll_cons_mk (Below.trod laidOut (by kernel_rfl) (of_decide_eq_true (by kernel_rfl)) k1 bel lt1) trodAll_mk0)), rfl, bel.frame _, fun h => by cases h⟩

theorem over : Rows.SplitPlaysSaid :=
  OpenClaim.holds_of_wide 8 Try.f8 rfl rfl rfl rfl rfl rfl rfl ⟨rfl, rfl, rfl, rfl, rfl⟩ rfl rfl rfl rfl rfl (by kernel_rfl) Try.func8 (by kernel_rfl)
    (of_decide_eq_true (by kernel_rfl)) (by unfold Func.isWrapper; first | (rw [if_pos (by decide +kernel)]; kernel_rfl) | (rw [if_neg (by decide +kernel)]; exact ⟨rfl, rfl⟩))
    (fun os started H enc _ => lifted os started H enc)
end Go.Proofs.Ytaomcakgeiiclaa.splitPlays

namespace Go.Proofs.Ytaomcakgeiiclaa
open Go
theorem splitPlays_holds : Rows.SplitPlaysSaid := splitPlays.over
#print axioms splitPlays_holds
end Go.Proofs.Ytaomcakgeiiclaa
