/- Proved: for every tick now and every list acts, davitlaw13.WheelPlays(now, acts) returns true: a wheel of any tick that is played with answers what the document says, and what is due, and all that is in it, is what it says (120 acts at most, as the law itself says), and acts is left alone, with no condition. -/
import Derived.Test.YtadaghhgmflfdaaRows
import Derived.Test.YtadaghhgmflfdaaFo
import Derived.Test.YtadaghhgmflfdaaYe
import Derived.Test.YtadaghhgmflfdaaFs
import Derived.Test.YtadaghhgmflfdaaZo
import Derived.WalkKit
import Derived.ProofKit
import Derived.OpenShut
import Derived.Stop.Joined
import Derived.ShutString
import Derived.ChangeOld
import Derived.Below
import Derived.Carry
import Derived.Test.YtadaghhgmflfdaaFs
import Derived.Deep.DeepCutAuto
import Derived.Deep.CutBlock
import Derived.Deep.RegionHeld3
namespace Go.Proofs.Ytadaghhgmflfdaa.wheelPlays
open Go.ChangeShapes Go.WideShapes Go.ChangeAt Go.RowKit
open Wm
set_option linter.unusedVariables false
set_option linter.unusedSimpArgs false

theorem own : ownKnob Try.prog.godebug = none := by kernel_rfl
theorem laidOut : laidOutB Try.prog = true := by kernel_rfl

set_option maxRecDepth 100000 in
set_option maxHeartbeats 16000000 in
theorem walk (a0 : Int) (a1 : Option Addr) (len1 cap1 : Nat) (X1 : Nat → Nat → Int) (w : World) (w0 : (Lit.int .i64 a0).wf = true) (w1 : SRow w (.slice a1 len1 cap1) len1 [true, true, true] X1) (z1 : ∀ i, i < len1 → ∀ j, j < [true, true, true].length → [true, true, true].getD j true = true → (Lit.int .i64 (X1 i j)).wf = true) :
    Calls Try.prog 3 #[.int .i64 a0, .slice a1 len1 cap1] w fun e w' => e = .returned (.bool true) ∧ Below w.heap.size w w' := by
  have KN : Hid (∀ w, _) := fun w => known_yes w
  by_cases wrong : isT a0
  case neg =>
    have C : Hid (∀ w, _) := fun w => wnew_no a0 w wrong
    have D : Hid (∀ w, _) := fun w => rnew_no a0 w wrong
    clear wrong w0 w1 z1
    go_enter Try.func3, Try.ntmps3
    go_wp2_with fail
    refine (C.out _).mono ?_
    rintro e u1 ⟨rfl, rfl⟩
    go_wp2_with fail
    refine (D.out _).mono ?_
    rintro e u2 ⟨rfl, rfl⟩
    go_wp2_with fail
    refine (KN.out _).mono ?_
    rintro e u3 ⟨rfl, hb⟩
    go_wp2
    go_ret
    exact ⟨rfl, hb⟩
  case pos =>
    have C : Hid (∀ _ : Unit, _) := fun _ => wnew_any a0 w wrong
    have D : Hid (∀ w1, _) := fun w1 => rnew_yes a0 w1 wrong
    have HR : Hid (SRow w (.slice a1 len1 cap1) len1 [true, true, true] X1) := w1
    have HZ : Hid (∀ i, i < len1 → ∀ j, j < 3 → (Lit.int .i64 (X1 i j)).wf = true) := fun i hi j hj => z1 i hi j hj (by match j, hj with | 0, _ => rfl | 1, _ => rfl | 2, _ => rfl)
    have TW : Hid (isT a0) := wrong
    clear wrong w0 w1 z1
    go_enter Try.func3, Try.ntmps3
    go_wp2_with fail
    refine (C.out ()).mono ?_
    rintro e u1 ⟨rfl, q1, b1⟩
    have Q1 : Hid (WW u1 w.heap.size a0 [] [w.heap.size] ∧ Below w.heap.size w u1) := ⟨q1, b1⟩
    have D1 : Hid (∀ _ : Unit, _) := fun _ => D.out u1
    clear q1 b1
    go_wp2_with fail
    refine (D1.out ()).mono ?_
    rintro e u2 ⟨rfl, r2, b2⟩
    have PB0 : Hid (PB w u2 w.heap.size u1.heap.size a0 [] 0) := pb_start Q1.out.1 Q1.out.2 r2 b2
    obtain ⟨s, hs⟩ : ∃ s, s = w.heap.size := ⟨_, rfl⟩
    rw [← hs] at PB0 ⊢
    generalize u1.heap.size = r at *
    clear r2 b2 Q1 D1 hs
    go_wp2
    go_loopw [9] (fun i wr => ∃ (k : Nat) (now : Int) (L : List It), (k : Int) ≤ 120 ∧ (k : Int) ≤ len1 ∧ isT now ∧ Hid (PB w wr s r now L k) ∧ i = .int .i64 k) (fun i _ => 120 - (intOf i).toNat)
    case atStart => exact ⟨0, a0, [], by omega, by omega, TW.out, PB0, rfl⟩
    case round =>
      obtain ⟨k, now, L, hk, hk2, tn, p, rfl⟩ := hrel
      clear PB0
      have tail : (¬ (k : Int) < len1 ∧ decide ((k : Int) < len1) = false) ∨ ((k : Int) < len1 ∧ ¬ (k : Int) < 120) ∨ ((k : Int) < len1 ∧ (k : Int) < 120) := by
        by_cases h : (k : Int) < len1
        · by_cases h2 : (k : Int) < 120
          · exact Or.inr (Or.inr ⟨h, h2⟩)
          · exact Or.inr (Or.inl ⟨h, h2⟩)
        · exact Or.inl ⟨h, decide_eq_false h⟩
      rw [← or_assoc] at tail
      rcases tail with tail | ⟨h, h2⟩
      · have HB : Hid (Below w.heap.size w wr) := p.out.bel
        clear p
        rcases tail with ⟨h, hd⟩ | ⟨h, h2⟩
        all_goals (
          go_wp2_with fail
          refine (KN.out _).mono ?_
          rintro e w4 ⟨rfl, f4⟩
          go_wp2
          go_ret
          exact ⟨rfl, HB.out.trans (f4.mono HB.out.size)⟩)
      · obtain ⟨b0, off, rfl, hA⟩ := srow_cell (wr := wr) HR.out p.out.bel h
        have x0 : wr.cell? ⟨b0, off + k * 3, none⟩ = some (.int .i64 (X1 k 0)) := hA 0 (by decide)
        have x1 : wr.cell? ⟨b0, off + k * 3 + 1, none⟩ = some (.int .i64 (X1 k 1)) := hA 1 (by decide)
        have x2 : wr.cell? ⟨b0, off + k * 3 + 2, none⟩ = some (.int .i64 (X1 k 2)) := hA 2 (by decide)
        clear hA
        have v1 := HZ.out k (by omega) 1 (by decide)
        have v2 := HZ.out k (by omega) 2 (by decide)
        generalize X1 k 0 = y0 at *
        generalize X1 k 1 = y1 at *
        generalize X1 k 2 = y2 at *
        have PX0 := px_box p.out [.int .i64 y0, .int .i64 y1, .int .i64 y2]
        have c0 : (wr.alloc (.cells #[.int .i64 y0, .int .i64 y1, .int .i64 y2] 32)).cell? ⟨wr.heap.size, 0, none⟩ = some (.int .i64 y0) := PX0.bx.cell 0
        have c1 : (wr.alloc (.cells #[.int .i64 y0, .int .i64 y1, .int .i64 y2] 32)).cell? ⟨wr.heap.size, 1, none⟩ = some (.int .i64 y1) := PX0.bx.cell 1
        have c2 : (wr.alloc (.cells #[.int .i64 y0, .int .i64 y1, .int .i64 y2] 32)).cell? ⟨wr.heap.size, 2, none⟩ = some (.int .i64 y2) := PX0.bx.cell 2
        obtain ⟨B, hB⟩ : ∃ B, B = wr.heap.size := ⟨_, rfl⟩
        have PX1 : Hid (PX w (wr.alloc (.cells #[.int .i64 y0, .int .i64 y1, .int .i64 y2] 32)) s r now L now L B [.int .i64 y0, .int .i64 y1, .int .i64 y2] k) := by rw [hB]; exact PX0
        have KB : Hid (∀ (u : World) (n1 : Int) (L1 : List It) (n2 : Int) (L2 : List It) (m : Nat), PX w u s r n1 L1 n2 L2 B [.int .i64 y0, .int .i64 y1, .int .i64 y2] m → u.cell? ⟨B, 1, none⟩ = some (.int .i64 y1) ∧ u.cell? ⟨B, 2, none⟩ = some (.int .i64 y2)) := fun u n1 L1 n2 L2 m h => ⟨h.bx.cell 1, h.bx.cell 2⟩
        clear PX0 p
        have lk : k ≤ 120 := by omega
        rw [← hB] at c0 c1 c2
        go_upto_block 2 with (fail)
        generalize hu : wr.alloc (.cells #[.int .i64 y0, .int .i64 y1, .int .i64 y2] 32) = u0 at *
        rw [← hB]
        clear hu hB x0 x1 x2
        go_cut [9] (fun i wx => i = .int .i64 k ∧ ∃ n2 L2, isT n2 ∧ Hid (PX w wx s r n2 L2 n2 L2 B [.int .i64 y0, .int .i64 y1, .int .i64 y2] (k + 1)))
        case first =>
          by_cases t0 : y0.tmod 4 = 0
          · have e0 : (y0.tmod 4 == 0) = true := by simpa using t0
            clear t0
            have C1 : Hid (∀ W : World, Sm W u0 → Calls Try.prog 9 #[.pointer (some ⟨s, 0, none⟩), .int .i64 y1, .int .i64 y2] W fun e v1 => e = .returned (.int .i64 (adE L y1 y2)) ∧ PX w v1 s r (now) (adL L y1 y2) now L B [.int .i64 y0, .int .i64 y1, .int .i64 y2] (k + 1)) := fun W e => by
              have q := PX1.out.sm e
              obtain ⟨F0, ww⟩ := q.ww
              have hl := q.l1
              exact px_prog q (by have := len_ad ww y1 y2; omega) fun F h => add_any y1 y2 v1 h (by omega)
            have C2 : Hid (∀ v1 W : World, PX w v1 s r (now) (adL L y1 y2) now L B [.int .i64 y0, .int .i64 y1, .int .i64 y2] (k + 1) → Sm W v1 → Calls Try.prog 10 #[.pointer (some ⟨r, 0, none⟩), .int .i64 y1, .int .i64 y2] W fun e v2 => e = .returned (.int .i64 (adE L y1 y2)) ∧ PX w v2 s r (now) (adL L y1 y2) (now) (adL L y1 y2) B [.int .i64 y0, .int .i64 y1, .int .i64 y2] (k + 1)) := fun v1 W q e => by
              have q := q.sm e
              have hl := q.l2
              exact px_doc q q.l1 fun G h => radd_any y1 y2 h (by omega)
            have TN : Hid (isT (now)) := tn
            generalize adE L y1 y2 = ee at *
            have bb : (ee != ee) = false := by simp
            generalize adL L y1 y2 = L3 at *
            clear PX1
            go_wp2_with fail
            go_region_held3 (fun w' => w'.cell? ⟨B, 1, none⟩ = some (.int .i64 y1) ∧ w'.cell? ⟨B, 2, none⟩ = some (.int .i64 y2)) (go_keep) (first | (go_at_call 9; refine (C1.out _ ?_).mono ?_; exact ⟨rfl, rfl, rfl, rfl⟩; rintro e v3 ⟨rfl, p3⟩; obtain ⟨d1, d2⟩ := KB.out v3 _ _ _ _ _ p3; have P3 : Hid (PX w v3 s r now L3 now L B [.int .i64 y0, .int .i64 y1, .int .i64 y2] (k + 1)) := p3; clear p3) | (go_at_call 10; refine (C2.out v3 _ P3.out ?_).mono ?_; exact ⟨rfl, rfl, rfl, rfl⟩; rintro e v4 ⟨rfl, p4⟩; obtain ⟨d3, d4⟩ := KB.out v4 _ _ _ _ _ p4; have P4 : Hid (PX w v4 s r now L3 now L3 B [.int .i64 y0, .int .i64 y1, .int .i64 y2] (k + 1)) := p4; clear p4 P3))
            all_goals go_wp2
            go_meet
            case rel => exact ⟨rfl, _, _, TN.out, P4.out.sm ⟨rfl, rfl, rfl, rfl⟩⟩
          · have e0 : (y0.tmod 4 == 0) = false := by simpa using t0
            by_cases t1 : y0.tmod 4 = 1
            · have e1 : (y0.tmod 4 == 1) = true := by simpa using t1
              clear t0 t1
              have C1 : Hid (∀ W : World, Sm W u0 → Calls Try.prog 11 #[.pointer (some ⟨s, 0, none⟩), .int .i64 y1] W fun e v1 => e = .returned (.int .i64 (dpE L y1)) ∧ PX w v1 s r (now) (rid y1 L) now L B [.int .i64 y0, .int .i64 y1, .int .i64 y2] (k + 1)) := fun W e => by
                have q := PX1.out.sm e
                obtain ⟨F0, ww⟩ := q.ww
                have hl := q.l1
                exact px_prog q (by have := len_rid L y1; omega) fun F h => drop_any y1 v1 h (by omega)
              have C2 : Hid (∀ v1 W : World, PX w v1 s r (now) (rid y1 L) now L B [.int .i64 y0, .int .i64 y1, .int .i64 y2] (k + 1) → Sm W v1 → Calls Try.prog 12 #[.pointer (some ⟨r, 0, none⟩), .int .i64 y1] W fun e v2 => e = .returned (.int .i64 (dpE L y1)) ∧ PX w v2 s r (now) (rid y1 L) (now) (rid y1 L) B [.int .i64 y0, .int .i64 y1, .int .i64 y2] (k + 1)) := fun v1 W q e => by
                have q := q.sm e
                have hl := q.l2
                exact px_doc q q.l1 fun G h => rdrop_any y1 h (by omega)
              have TN : Hid (isT (now)) := tn
              generalize dpE L y1 = ee at *
              have bb : (ee != ee) = false := by simp
              generalize rid y1 L = L3 at *
              clear PX1
              go_wp2_with fail
              go_region_held3 (fun w' => w'.cell? ⟨B, 1, none⟩ = some (.int .i64 y1) ∧ w'.cell? ⟨B, 2, none⟩ = some (.int .i64 y2)) (go_keep) (first | (go_at_call 11; refine (C1.out _ ?_).mono ?_; exact ⟨rfl, rfl, rfl, rfl⟩; rintro e v3 ⟨rfl, p3⟩; obtain ⟨d1, d2⟩ := KB.out v3 _ _ _ _ _ p3; have P3 : Hid (PX w v3 s r now L3 now L B [.int .i64 y0, .int .i64 y1, .int .i64 y2] (k + 1)) := p3; clear p3) | (go_at_call 12; refine (C2.out v3 _ P3.out ?_).mono ?_; exact ⟨rfl, rfl, rfl, rfl⟩; rintro e v4 ⟨rfl, p4⟩; obtain ⟨d3, d4⟩ := KB.out v4 _ _ _ _ _ p4; have P4 : Hid (PX w v4 s r now L3 now L3 B [.int .i64 y0, .int .i64 y1, .int .i64 y2] (k + 1)) := p4; clear p4 P3))
              all_goals go_wp2
              go_meet
              case rel => exact ⟨rfl, _, _, TN.out, P4.out.sm ⟨rfl, rfl, rfl, rfl⟩⟩
            · have e1 : (y0.tmod 4 == 1) = false := by simpa using t1
              by_cases t2 : y0.tmod 4 = 2
              · have e2 : (y0.tmod 4 == 2) = true := by simpa using t2
                clear t0 t1 t2
                have C0 : Hid (∀ W : World, _) := fun W => on_any now y2 W tn
                have tq := isT_go tn (onN now y2)
                generalize onN now y2 = oy at *
                have C1 : Hid (∀ W : World, Sm W u0 → Calls Try.prog 13 #[.pointer (some ⟨s, 0, none⟩), .int .i64 oy] W fun e v1 => e = .returned (.int .i64 (goE now oy)) ∧ PX w v1 s r (goN now oy) L now L B [.int .i64 y0, .int .i64 y1, .int .i64 y2] (k + 1)) := fun W e => by
                  have q := PX1.out.sm e
                  have hl := q.l1
                  exact px_prog q (by omega) fun F h => go_any oy h (by omega)
                have C2 : Hid (∀ v1 W : World, PX w v1 s r (goN now oy) L now L B [.int .i64 y0, .int .i64 y1, .int .i64 y2] (k + 1) → Sm W v1 → Calls Try.prog 15 #[.pointer (some ⟨r, 0, none⟩), .int .i64 oy] W fun e v2 => e = .returned (.int .i64 (goE now oy)) ∧ PX w v2 s r (goN now oy) L (goN now oy) L B [.int .i64 y0, .int .i64 y1, .int .i64 y2] (k + 1)) := fun v1 W q e => by
                  have q := q.sm e
                  exact px_doc q q.l1 fun G h => (rgo_any oy h).mono fun _ _ ⟨e, h1, h2⟩ => ⟨e, G, h1, h2⟩
                have TN : Hid (isT (goN now oy)) := tq
                have KR : Hid (∀ (u : World) (n1 : Int) (L1 : List It) (m : Nat), PX w u s r n1 L1 now L B [.int .i64 y0, .int .i64 y1, .int .i64 y2] m → u.cell? ⟨r, 0, none⟩ = some (.int .i64 now)) := fun u n1 L1 m q => by
                  obtain ⟨G, g⟩ := q.dd
                  exact rnow_cell g
                have z0 := KR.out _ _ _ _ PX1.out
                generalize goE now oy = ee at *
                generalize goN now oy = n3 at *
                have bb : (ee != ee) = false := by simp
                clear PX1 tq c0 c1
                go_wp2_with fail
                refine wp_region_J 17 (fun w' => w'.cell? ⟨B, 2, none⟩ = some (.int .i64 y2) ∧ w'.cell? ⟨r, 0, none⟩ = some (.int .i64 now)) (by kernel_rfl) (by go_keep) (fun hHeld => ?_)
                refine wpAnyJ_take (i := 0) (oi := { dst := some 96, op := Op.move (Operand.tmp 5), type := 23, pos := "law.go:61", after := #[], guard := none }) (v := ?va0) rfl (by kernel_rfl) (by kernel_rfl) (by kernel_rfl) (by decide) (by kernel_rfl) (by kernel_rfl) (fun _ _ _ h => h) (Or.inl ⟨by rfl, ?ha0⟩) (by assumption) ?ra0
                case ha0 => (intro wz hSw; (try dsimp only at hSw); go_simp <;> with_reducible rfl)
                try simp only [Act.put, List.setIfInBounds_toArray, List.set_cons_zero, List.set_cons_succ]
                refine wpAnyJ_take (i := 1) (oi := { dst := some 97, op := Op.move (Operand.tmp 7), type := 27, pos := "law.go:61", after := #[], guard := none }) (v := ?va1) rfl (by kernel_rfl) (by kernel_rfl) (by kernel_rfl) (by decide) (by kernel_rfl) (by kernel_rfl) (fun _ _ _ h => h) (Or.inl ⟨by rfl, ?ha1⟩) (by assumption) ?ra1
                case ha1 => (intro wz hSw; (try dsimp only at hSw); go_simp <;> with_reducible rfl)
                try simp only [Act.put, List.setIfInBounds_toArray, List.set_cons_zero, List.set_cons_succ]
                refine wpAnyJ_take (i := 2) (oi := { dst := some 98, op := Op.nilCheck (Operand.tmp 97), type := 0, pos := "law.go:61", after := #[{ on := 1, ground := Ground.data }], guard := none }) (v := ?va2) rfl (by kernel_rfl) (by kernel_rfl) (by kernel_rfl) (by decide) (by kernel_rfl) (by kernel_rfl) (fun _ _ _ h => h) (Or.inl ⟨by rfl, ?ha2⟩) (by assumption) ?ra2
                case ha2 => (intro wz hSw; (try dsimp only at hSw); go_simp <;> with_reducible rfl)
                try simp only [Act.put, List.setIfInBounds_toArray, List.set_cons_zero, List.set_cons_succ]
                refine wpAnyJ_take (i := 3) (oi := { dst := some 99, op := Op.fieldAddr 39 (Operand.tmp 98) 0, type := 0, pos := "law.go:61", after := #[{ on := 2, ground := Ground.data }], guard := none }) (v := ?va3) rfl (by kernel_rfl) (by kernel_rfl) (by kernel_rfl) (by decide) (by kernel_rfl) (by kernel_rfl) (fun _ _ _ h => h) (Or.inl ⟨by rfl, ?ha3⟩) (by assumption) ?ra3
                case ha3 => (intro wz hSw; (try dsimp only at hSw); go_simp <;> with_reducible rfl)
                try simp only [Act.put, List.setIfInBounds_toArray, List.set_cons_zero, List.set_cons_succ]
                refine wpAnyJ_take (i := 4) (oi := { dst := some 100, op := Op.load 2 (Operand.tmp 99), type := 2, pos := "law.go:61", after := #[{ on := 3, ground := Ground.data }], guard := none }) (v := ?va4) rfl (by kernel_rfl) (by kernel_rfl) (by kernel_rfl) (by decide) (by kernel_rfl) (by kernel_rfl) (fun _ _ _ h => h) (Or.inl ⟨by rfl, ?ha4⟩) (by assumption) ?ra4
                case ha4 => (intro wz hSw; (try dsimp only at hSw); go_simp <;> with_reducible rfl)
                try simp only [Act.put, List.setIfInBounds_toArray, List.set_cons_zero, List.set_cons_succ]
                refine wpAnyJ_take (i := 5) (oi := { dst := some 101, op := Op.fieldAddr 32 (Operand.tmp 10) 2, type := 0, pos := "law.go:61", after := #[], guard := none }) (v := ?va5) rfl (by kernel_rfl) (by kernel_rfl) (by kernel_rfl) (by decide) (by kernel_rfl) (by kernel_rfl) (fun _ _ _ h => h) (Or.inl ⟨by rfl, ?ha5⟩) (by assumption) ?ra5
                case ha5 => (intro wz hSw; (try dsimp only at hSw); go_simp <;> with_reducible rfl)
                try simp only [Act.put, List.setIfInBounds_toArray, List.set_cons_zero, List.set_cons_succ]
                refine wpAnyJ_take (i := 6) (oi := { dst := some 102, op := Op.load 2 (Operand.tmp 101), type := 2, pos := "law.go:61", after := #[{ on := 5, ground := Ground.data }], guard := none }) (v := ?va6) rfl (by kernel_rfl) (by kernel_rfl) (by kernel_rfl) (by decide) (by kernel_rfl) (by kernel_rfl) (fun _ _ _ h => h) (Or.inl ⟨by rfl, ?ha6⟩) (by assumption) ?ra6
                case ha6 => (intro wz hSw; (try dsimp only at hSw); go_simp <;> with_reducible rfl)
                try simp only [Act.put, List.setIfInBounds_toArray, List.set_cons_zero, List.set_cons_succ]
                refine wpAnyJ_take (i := 9) (oi := { dst := some 105, op := Op.move (Operand.tmp 7), type := 27, pos := "law.go:61", after := #[], guard := none }) (v := ?va9) rfl (by kernel_rfl) (by kernel_rfl) (by kernel_rfl) (by decide) (by kernel_rfl) (by kernel_rfl) (fun _ _ _ h => h) (Or.inl ⟨by rfl, ?ha9⟩) (by assumption) ?ra9
                case ha9 => (intro wz hSw; (try dsimp only at hSw); go_simp <;> with_reducible rfl)
                try simp only [Act.put, List.setIfInBounds_toArray, List.set_cons_zero, List.set_cons_succ]
                refine wpAnyJ_take (i := 10) (oi := { dst := some 106, op := Op.move (Operand.tmp 7), type := 27, pos := "law.go:61", after := #[], guard := none }) (v := ?va10) rfl (by kernel_rfl) (by kernel_rfl) (by kernel_rfl) (by decide) (by kernel_rfl) (by kernel_rfl) (fun _ _ _ h => h) (Or.inl ⟨by rfl, ?ha10⟩) (by assumption) ?ra10
                case ha10 => (intro wz hSw; (try dsimp only at hSw); go_simp <;> with_reducible rfl)
                try simp only [Act.put, List.setIfInBounds_toArray, List.set_cons_zero, List.set_cons_succ]
                refine wpAnyJ_take (i := 11) (oi := { dst := some 107, op := Op.nilCheck (Operand.tmp 106), type := 0, pos := "law.go:61", after := #[{ on := 10, ground := Ground.data }], guard := none }) (v := ?va11) rfl (by kernel_rfl) (by kernel_rfl) (by kernel_rfl) (by decide) (by kernel_rfl) (by kernel_rfl) (fun _ _ _ h => h) (Or.inl ⟨by rfl, ?ha11⟩) (by assumption) ?ra11
                case ha11 => (intro wz hSw; (try dsimp only at hSw); go_simp <;> with_reducible rfl)
                try simp only [Act.put, List.setIfInBounds_toArray, List.set_cons_zero, List.set_cons_succ]
                refine wpAnyJ_take (i := 12) (oi := { dst := some 108, op := Op.fieldAddr 39 (Operand.tmp 107) 0, type := 0, pos := "law.go:61", after := #[{ on := 11, ground := Ground.data }], guard := none }) (v := ?va12) rfl (by kernel_rfl) (by kernel_rfl) (by kernel_rfl) (by decide) (by kernel_rfl) (by kernel_rfl) (fun _ _ _ h => h) (Or.inl ⟨by rfl, ?ha12⟩) (by assumption) ?ra12
                case ha12 => (intro wz hSw; (try dsimp only at hSw); go_simp <;> with_reducible rfl)
                try simp only [Act.put, List.setIfInBounds_toArray, List.set_cons_zero, List.set_cons_succ]
                refine wpAnyJ_take (i := 13) (oi := { dst := some 109, op := Op.load 2 (Operand.tmp 108), type := 2, pos := "law.go:61", after := #[{ on := 12, ground := Ground.data }], guard := none }) (v := ?va13) rfl (by kernel_rfl) (by kernel_rfl) (by kernel_rfl) (by decide) (by kernel_rfl) (by kernel_rfl) (fun _ _ _ h => h) (Or.inl ⟨by rfl, ?ha13⟩) (by assumption) ?ra13
                case ha13 => (intro wz hSw; (try dsimp only at hSw); go_simp <;> with_reducible rfl)
                try simp only [Act.put, List.setIfInBounds_toArray, List.set_cons_zero, List.set_cons_succ]
                refine wpAnyJ_take (i := 14) (oi := { dst := some 110, op := Op.fieldAddr 32 (Operand.tmp 10) 2, type := 0, pos := "law.go:61", after := #[], guard := none }) (v := ?va14) rfl (by kernel_rfl) (by kernel_rfl) (by kernel_rfl) (by decide) (by kernel_rfl) (by kernel_rfl) (fun _ _ _ h => h) (Or.inl ⟨by rfl, ?ha14⟩) (by assumption) ?ra14
                case ha14 => (intro wz hSw; (try dsimp only at hSw); go_simp <;> with_reducible rfl)
                try simp only [Act.put, List.setIfInBounds_toArray, List.set_cons_zero, List.set_cons_succ]
                refine wpAnyJ_take (i := 15) (oi := { dst := some 111, op := Op.load 2 (Operand.tmp 110), type := 2, pos := "law.go:61", after := #[{ on := 14, ground := Ground.data }], guard := none }) (v := ?va15) rfl (by kernel_rfl) (by kernel_rfl) (by kernel_rfl) (by decide) (by kernel_rfl) (by kernel_rfl) (fun _ _ _ h => h) (Or.inl ⟨by rfl, ?ha15⟩) (by assumption) ?ra15
                case ha15 => (intro wz hSw; (try dsimp only at hSw); go_simp <;> with_reducible rfl)
                try simp only [Act.put, List.setIfInBounds_toArray, List.set_cons_zero, List.set_cons_succ]
                refine wpAnyJ_one (i := 7) (o := { dst := some 103, op := Op.call { callee := Callee.value (Operand.func 14), args := #[Operand.tmp 100, Operand.tmp 102], argTypes := #[2, 2] }, type := 2, pos := "law.go:61", after := #[{ on := 4, ground := Ground.data }, { on := 6, ground := Ground.data }], guard := none }) (by kernel_rfl) rfl (fun K hK => ?_)
                go_simp
                refine (C0.out _).mono ?_
                rintro e w5 ⟨rfl, rfl⟩
                (try go_wp2_with fail)
                refine hK.out _ _ ?sa7 (fun hHeld => ?ta7)
                case sa7 => (intro _; go_keep)
                replace hHeld := hHeld (by kernel_rfl)
                clear hK K
                try simp only [Act.put, List.setIfInBounds_toArray, List.set_cons_zero, List.set_cons_succ]
                refine wpAnyJ_one (i := 8) (o := { dst := some 104, op := Op.call { callee := Callee.value (Operand.func 13), args := #[Operand.tmp 96, Operand.tmp 103], argTypes := #[23, 2] }, type := 24, pos := "law.go:61", after := #[{ on := 0, ground := Ground.data }, { on := 7, ground := Ground.data }, { on := 7, ground := Ground.chain }], guard := none }) (by kernel_rfl) rfl (fun K hK => ?_)
                go_simp
                refine (C1.out _ ?_).mono ?_
                · exact ⟨rfl, rfl, rfl, rfl⟩
                rintro e v3 ⟨rfl, p3⟩
                obtain ⟨-, d2⟩ := KB.out v3 _ _ _ _ _ p3
                have d0 := KR.out v3 _ _ _ p3
                have P3 : Hid (PX w v3 s r n3 L now L B [.int .i64 y0, .int .i64 y1, .int .i64 y2] (k + 1)) := p3
                clear p3
                (try go_wp2_with fail)
                refine hK.out _ _ ?sa8 (fun hHeld => ?ta8)
                case sa8 => (intro _; go_keep)
                replace hHeld := hHeld (by kernel_rfl)
                clear hK K
                try simp only [Act.put, List.setIfInBounds_toArray, List.set_cons_zero, List.set_cons_succ]
                refine wpAnyJ_one (i := 16) (o := { dst := some 112, op := Op.call { callee := Callee.value (Operand.func 14), args := #[Operand.tmp 109, Operand.tmp 111], argTypes := #[2, 2] }, type := 2, pos := "law.go:61", after := #[{ on := 13, ground := Ground.data }, { on := 15, ground := Ground.data }, { on := 8, ground := Ground.chain }], guard := none }) (by kernel_rfl) rfl (fun K hK => ?_)
                go_simp
                refine (C0.out _).mono ?_
                rintro e w5 ⟨rfl, rfl⟩
                (try go_wp2_with fail)
                refine hK.out _ _ ?sa16 (fun hHeld => ?ta16)
                case sa16 => (intro _; go_keep)
                replace hHeld := hHeld (by kernel_rfl)
                clear hK K
                try simp only [Act.put, List.setIfInBounds_toArray, List.set_cons_zero, List.set_cons_succ]
                refine wpAnyJ_one (i := 17) (o := { dst := some 113, op := Op.call { callee := Callee.value (Operand.func 15), args := #[Operand.tmp 105, Operand.tmp 112], argTypes := #[27, 2] }, type := 24, pos := "law.go:61", after := #[{ on := 9, ground := Ground.data }, { on := 16, ground := Ground.data }, { on := 16, ground := Ground.chain }], guard := none }) (by kernel_rfl) rfl (fun K hK => ?_)
                go_simp
                refine (C2.out _ _ P3.out ?_).mono ?_
                · exact ⟨rfl, rfl, rfl, rfl⟩
                rintro e v4 ⟨rfl, p4⟩
                have P4 : Hid (PX w v4 s r n3 L n3 L B [.int .i64 y0, .int .i64 y1, .int .i64 y2] (k + 1)) := p4
                clear p4 P3
                (try go_wp2_with fail)
                refine hK.out _ _ ?sa17 (fun hHeld => ?ta17)
                case sa17 => (intro hz; exact absurd hz (by decide))
                clear hK K hHeld
                try simp only [Act.put, List.setIfInBounds_toArray, List.set_cons_zero, List.set_cons_succ]
                refine wpAnyJ_one (i := 18) (o := { dst := some 114, op := Op.binOp BinOp.neq 24 (Operand.tmp 104) (Operand.tmp 113) 24, type := 4, pos := "law.go:61", after := #[{ on := 8, ground := Ground.data }, { on := 17, ground := Ground.data }], guard := none }) (by kernel_rfl) rfl (fun K hK => ?_)
                go_simp
                refine hK.out _ _ ?sa18 (fun hHeld => ?ta18)
                case sa18 => (intro hz; exact absurd hz (by decide))
                clear hK K hHeld
                try simp only [Act.put, List.setIfInBounds_toArray, List.set_cons_zero, List.set_cons_succ]
                refine wpAnyJ_done (by kernel_rfl) ?_ _
                go_wp2
                go_meet
                case rel => exact ⟨rfl, _, _, TN.out, P4.out.sm ⟨rfl, rfl, rfl, rfl⟩⟩
              · have e2 : (y0.tmod 4 == 2) = false := by simpa using t2
                clear t0 t1 t2
                have C1 : Hid (∀ W : World, Sm W u0 → Calls Try.prog 13 #[.pointer (some ⟨s, 0, none⟩), .int .i64 y2] W fun e v1 => e = .returned (.int .i64 (goE now y2)) ∧ PX w v1 s r (goN now y2) (L) now L B [.int .i64 y0, .int .i64 y1, .int .i64 y2] (k + 1)) := fun W e => by
                  have q := PX1.out.sm e
                  obtain ⟨F0, ww⟩ := q.ww
                  have hl := q.l1
                  exact px_prog q (by omega) fun F h => go_any y2 h (by omega)
                have C2 : Hid (∀ v1 W : World, PX w v1 s r (goN now y2) (L) now L B [.int .i64 y0, .int .i64 y1, .int .i64 y2] (k + 1) → Sm W v1 → Calls Try.prog 15 #[.pointer (some ⟨r, 0, none⟩), .int .i64 y2] W fun e v2 => e = .returned (.int .i64 (goE now y2)) ∧ PX w v2 s r (goN now y2) (L) (goN now y2) (L) B [.int .i64 y0, .int .i64 y1, .int .i64 y2] (k + 1)) := fun v1 W q e => by
                  have q := q.sm e
                  have hl := q.l2
                  exact px_doc q q.l1 fun G h => (rgo_any y2 h).mono fun _ _ ⟨e, h1, h2⟩ => ⟨e, G, h1, h2⟩
                have TN : Hid (isT (goN now y2)) := isT_go tn y2
                generalize goE now y2 = ee at *
                have bb : (ee != ee) = false := by simp
                generalize goN now y2 = n3 at *
                clear PX1
                go_wp2_with fail
                go_region_held3 (fun w' => w'.cell? ⟨B, 1, none⟩ = some (.int .i64 y1) ∧ w'.cell? ⟨B, 2, none⟩ = some (.int .i64 y2)) (go_keep) (first | (go_at_call 13; refine (C1.out _ ?_).mono ?_; exact ⟨rfl, rfl, rfl, rfl⟩; rintro e v3 ⟨rfl, p3⟩; obtain ⟨d1, d2⟩ := KB.out v3 _ _ _ _ _ p3; have P3 : Hid (PX w v3 s r n3 L now L B [.int .i64 y0, .int .i64 y1, .int .i64 y2] (k + 1)) := p3; clear p3) | (go_at_call 15; refine (C2.out v3 _ P3.out ?_).mono ?_; exact ⟨rfl, rfl, rfl, rfl⟩; rintro e v4 ⟨rfl, p4⟩; obtain ⟨d3, d4⟩ := KB.out v4 _ _ _ _ _ p4; have P4 : Hid (PX w v4 s r n3 L n3 L B [.int .i64 y0, .int .i64 y1, .int .i64 y2] (k + 1)) := p4; clear p4 P3))
                all_goals go_wp2
                go_meet
                case rel => exact ⟨rfl, _, _, TN.out, P4.out.sm ⟨rfl, rfl, rfl, rfl⟩⟩
        case rest =>
          obtain ⟨rfl, n2, L2, tn2, P2⟩ := hcut
          obtain ⟨F2, w2⟩ := P2.out.ww
          obtain ⟨G2, g2⟩ := P2.out.dd
          have l2 := P2.out.l1
          obtain ⟨z1, -⟩ := KB.out _ _ _ _ _ _ P2.out
          have z3 := rnow_cell g2
          obtain ⟨a5, c5, z4⟩ := rlist_cell g2
          have T1 : Hid (∀ _ : Unit, _) := fun _ => next_any w2 (by omega)
          have T2 : Hid (∀ _ : Unit, _) := fun _ => rnext_any g2
          have T3 : Hid (∀ _ : Unit, _) := fun _ => when_any y1 v1 w2
          have T4 : Hid (∀ _ : Unit, _) := fun _ => rwhen_any y1 g2 (by omega)
          have T5 : Hid (∀ W : World, Sm W wc → Calls Try.prog 20 #[.pointer (some ⟨s, 0, none⟩)] W fun e w' => e = .returned (.int .i64 n2) ∧ w' = W) := fun W e => now_any (w2.heap e)
          have T6 : Hid (∀ W : World, Sm W wc → Calls Try.prog 21 #[.pointer (some ⟨s, 0, none⟩)] W fun e w' => e = .returned (.int .i64 (L2.length : Nat)) ∧ w' = W) := fun W e => len_any (w2.heap e)
          have T7 : Hid (∀ v W : World, Below wc.heap.size wc v → Sm W v → Calls Try.prog 23 #[.pointer (some ⟨s, 0, none⟩)] W fun e w' => ∃ x, e = .returned x ∧ Gt v w' x (ids (duL n2 L2))) := fun v W b e => (due_any ((w2.below b).heap e) (by omega)).mono fun _ _ ⟨x, r1, r2⟩ => ⟨x, r1, gt_sm r2 e⟩
          have T8 : Hid (∀ v W : World, Below wc.heap.size wc v → Sm W v → Calls Try.prog 24 #[.pointer (some ⟨r, 0, none⟩)] W fun e w' => ∃ x, e = .returned x ∧ Gt v w' x (ids (duL n2 L2))) := fun v W b e => (rdue_any (g2.below (e.below b)) (by omega)).mono fun _ _ ⟨x, r1, r2⟩ => ⟨x, r1, gt_sm r2 e⟩
          have T9 : Hid (∀ v W : World, Below wc.heap.size wc v → Sm W v → Calls Try.prog 25 #[.pointer (some ⟨s, 0, none⟩)] W fun e w' => ∃ x, e = .returned x ∧ Gt v w' x (ids L2)) := fun v W b e => (list_any ((w2.below b).heap e) (by omega)).mono fun _ _ ⟨x, r1, r2⟩ => ⟨x, r1, gt_sm r2 e⟩
          have T10 : Hid (∀ v W : World, Below wc.heap.size wc v → Sm W v → Calls Try.prog 26 #[.pointer (some ⟨r, 0, none⟩)] W fun e w' => ∃ x, e = .returned x ∧ Gt v w' x (ids L2)) := fun v W b e => (rlist_any (g2.below (e.below b)) (by omega)).mono fun _ _ ⟨x, r1, r2⟩ => ⟨x, r1, gt_sm r2 e⟩
          have T11 : Hid (∀ (v0 v1 v2 W : World) (x y : Value), Gt v0 v1 x (ids (duL n2 L2)) → Gt v1 v2 y (ids (duL n2 L2)) → Sm W v2 → Calls Try.prog 22 #[x, y] W fun e w' => e = .returned (.bool true) ∧ Sm w' v2) := fun v0 v1 v2 W x y g1 g2 e => ints_two (by have := List.length_filter_le (fun x : It => decide (x.1 ≤ n2)) L2; unfold ids duL; rw [List.length_map]; omega) g1 g2 e
          have T12 : Hid (∀ (v0 v1 v2 W : World) (x y : Value), Gt v0 v1 x (ids L2) → Gt v1 v2 y (ids L2) → Sm W v2 → Calls Try.prog 22 #[x, y] W fun e w' => e = .returned (.bool true) ∧ Sm w' v2) := fun v0 v1 v2 W x y g1 g2 e => ints_two (by unfold ids; rw [List.length_map]; omega) g1 g2 e
          have KD : Hid (∀ v : World, Below wc.heap.size wc v → v.cell? ⟨r, 0, none⟩ = some (.int .i64 n2) ∧ v.cell? ⟨r, 1, none⟩ = some (.slice a5 L2.length c5)) := fun v b => ⟨by rw [b.cell (World.block_lt_of_cell? _ _ z3)]; exact z3, by rw [b.cell (World.block_lt_of_cell? _ _ z4)]; exact z4⟩
          have FIN : Hid (∀ v W : World, Below wc.heap.size wc v → Sm W v → PB w W s r n2 L2 (k + 1)) := fun v W b e => px_open (P2.out.below (e.below b))
          generalize nxN L2 = m1 at *
          generalize nxE L2 = m2 at *
          generalize whN L2 y1 = m3 at *
          generalize whB L2 y1 = m4 at *
          generalize ids (duL n2 L2) = D5 at *
          generalize ids L2 = D6 at *
          generalize L2.length = l5 at *
          have b1 : (m1 != m1) = false := by simp
          have b2 : (m2 != m2) = false := by simp
          have b3 : (m3 != m3) = false := by simp
          have b4 : (m4 != m4) = false := by simp
          have b5 : (n2 != n2) = false := by simp
          have b6 : (((l5 : Nat) : Int) != ((l5 : Nat) : Int)) = false := by simp
          clear P2 w2 g2 PX1 KB c0 c1 c2
          go_wp2_with fail
          refine (T1.out ()).mono ?_
          rintro e u1 ⟨rfl, rfl⟩
          go_wp2_with fail
          refine (T2.out ()).mono ?_
          rintro e u1 ⟨rfl, rfl⟩
          go_wp2_with fail
          refine (T3.out ()).mono ?_
          rintro e u1 ⟨rfl, rfl⟩
          go_wp2_with fail
          refine (T4.out ()).mono ?_
          rintro e u1 ⟨rfl, rfl⟩
          go_wp2_with fail
          clear T1 T2 T3 T4
          have E0 : Hid (Below u1.heap.size u1 u1) := Below.refl _ _
          go_region_held3 (fun w' => w'.cell? ⟨r, 0, none⟩ = some (.int .i64 n2) ∧ w'.cell? ⟨r, 1, none⟩ = some (.slice a5 l5 c5)) (go_keep)
            (first | (go_at_call 20; refine (T5.out _ ?_).mono ?_; exact ⟨rfl, rfl, rfl, rfl⟩; rintro e w' ⟨rfl, rfl⟩) | (go_at_call 21; refine (T6.out _ ?_).mono ?_; exact ⟨rfl, rfl, rfl, rfl⟩; rintro e w' ⟨rfl, rfl⟩) | (go_at_call 23; refine (T7.out u1 _ E0.out ?_).mono ?_; exact ⟨rfl, rfl, rfl, rfl⟩; rintro e v5 ⟨x5, rfl, g5⟩; obtain ⟨a9, c9, rfl⟩ := own_shape g5.own; have E5 : Hid (Below u1.heap.size u1 v5) := g5.bel; obtain ⟨i5, j5⟩ := KD.out v5 E5.out; have G5 : Hid (Gt u1 v5 (.slice a9 D5.length c9) D5) := g5; clear g5) | (go_at_call 24; refine (T8.out v5 _ E5.out ?_).mono ?_; exact ⟨rfl, rfl, rfl, rfl⟩; rintro e v6 ⟨x6, rfl, g6⟩; obtain ⟨a10, c10, rfl⟩ := own_shape g6.own; have E6 : Hid (Below u1.heap.size u1 v6) := E5.out.trans (g6.bel.mono E5.out.size); obtain ⟨i6, j6⟩ := KD.out v6 E6.out; have G6 : Hid (Gt v5 v6 (.slice a10 D5.length c10) D5) := g6; clear g6 E5) | (go_at_call 22; refine (T11.out u1 v5 v6 _ _ _ G5.out G6.out ?_).mono ?_; exact ⟨rfl, rfl, rfl, rfl⟩; rintro e v7 ⟨rfl, sm7⟩; have E7 : Hid (Below u1.heap.size u1 v7) := sm7.below E6.out; obtain ⟨i7, j7⟩ := KD.out v7 E7.out; clear sm7 G5 G6 E6) | (go_at_call 25; refine (T9.out v7 _ E7.out ?_).mono ?_; exact ⟨rfl, rfl, rfl, rfl⟩; rintro e v8 ⟨x8, rfl, g8⟩; obtain ⟨a11, c11, rfl⟩ := own_shape g8.own; have E8 : Hid (Below u1.heap.size u1 v8) := E7.out.trans (g8.bel.mono E7.out.size); obtain ⟨i8, j8⟩ := KD.out v8 E8.out; have G8 : Hid (Gt v7 v8 (.slice a11 D6.length c11) D6) := g8; clear g8 E7) | (go_at_call 26; refine (T10.out v8 _ E8.out ?_).mono ?_; exact ⟨rfl, rfl, rfl, rfl⟩; rintro e v9 ⟨x9, rfl, g9⟩; obtain ⟨a12, c12, rfl⟩ := own_shape g9.own; have E9 : Hid (Below u1.heap.size u1 v9) := E8.out.trans (g9.bel.mono E8.out.size); obtain ⟨i9, j9⟩ := KD.out v9 E9.out; have G9 : Hid (Gt v8 v9 (.slice a12 D6.length c12) D6) := g9; clear g9 E8) | (go_at_call 22; refine (T12.out v7 v8 v9 _ _ _ G8.out G9.out ?_).mono ?_; exact ⟨rfl, rfl, rfl, rfl⟩; rintro e v10 ⟨rfl, sm10⟩; have E10 : Hid (Below u1.heap.size u1 v10) := sm10.below E9.out; obtain ⟨i10, j10⟩ := KD.out v10 E10.out; clear sm10 G8 G9 E9))
          all_goals go_wp2
          go_roundw
          case rel => exact ⟨k + 1, n2, L2, by omega, by omega, tn2, FIN.out v10 _ E10.out ⟨rfl, rfl, rfl, rfl⟩, by go_num⟩
          case measure => simp [intOf]; omega

set_option maxRecDepth 100000 in
theorem lifted (os : Os) (started : os.Started) (H : Type) (enc : TypeId × Value → H) :
    ReturnsInHanded {} Try.checked os 3 .any (Rows.wheelPlaysSpec.pre6 enc Try.prog Try.f3 Rows.wheelPlaysRow.domain false) (Rows.wheelPlaysSpec.post enc Try.prog Try.f3 false true false false) := by
  refine returnsInHanded_of_change (C := Try.checked) own started (by kernel_rfl) Try.func3
    (ChangeSpec.witness6 (enc := enc) (C := Try.checked) false ⟨#[], #[.int .i64 0, .slice none 0 0], []⟩ 8 (by kernel_rfl) (by kernel_rfl) (by kernel_rfl) (by kernel_rfl)) ?_
  intro W base args ds gs before hval0 hW hcnd _
  have hval : ∀ (j : Nat) t v, Try.f3.params[j]? = some t → args[j]? = some v → Value.okWide Try.prog W .any base t v := hval0
  have hW' := hW
  obtain ⟨p, q, hA0, hV, rfl, hfz, hnd⟩ := hW
  have hA : DataW.TrodAll enc Try.prog W 0 (fun _ => true) true Try.f3.params.toList args.toList ds p := hA0
  rw [Try.params3] at hA hval
  obtain ⟨v0, vs0, d0, ds0, p0, q0, hargs, rfl, rfl, h0, r0⟩ := trodAll_cons hA
  obtain ⟨v1, vs1, d1, ds1, p1, q1, rfl, rfl, rfl, h1, r1⟩ := trodAll_cons r0
  obtain ⟨rfl, rfl, rfl⟩ := trodAll_nil r1
  obtain rfl : args = #[v0, v1] := by cases args; simp_all
  obtain ⟨rfl, rfl⟩ := trodVars_none hV
  obtain ⟨a0, rfl, rfl, rfl, w0⟩ := open_int Try.underlying2 (hval 0 2 v0 rfl rfl) h0
  obtain ⟨a1, len1, cap1, rfl⟩ := okWide_slice Try.underlying22 (hval 1 22 v1 rfl rfl)
  have k1 := h1
  have lt1 : ∀ x ∈ p1, x.block < W.heap.size := by obtain ⟨m, hm⟩ := k1; exact DataW.trod_lt m _ _ _ hm
  obtain ⟨X1, w1, z1⟩ : ∃ X : Nat → Nat → Int, SRow W (.slice a1 len1 cap1) len1 [true, true, true] X ∧ ∀ i, i < len1 → ∀ j, j < [true, true, true].length → [true, true, true].getD j true = true → (Lit.int .i64 (X i j)).wf = true := by
    obtain ⟨fuel, hf⟩ := h1
    exact open_recs [true, true, true] Try.underlying22 Try.underlying32 (by kernel_rfl) rfl (by decide) (fun | 0, _ => ⟨_, rfl, rfl, by kernel_rfl, Try.underlying3⟩ | 1, _ => ⟨_, rfl, rfl, by kernel_rfl, Try.underlying3⟩ | 2, _ => ⟨_, rfl, rfl, by kernel_rfl, Try.underlying2⟩ | n + 3, h => absurd h (by simp only [List.length]; omega)) hf
  clear hA0 hval0
  refine (walk a0 a1 len1 cap1 X1 W w0 w1 z1).mono fun e W' ⟨he, bel⟩ => ?_
  subst he
  exact ⟨_, rfl, _, _, _, [], _, [], hW', trodAll_mk1 (shut_bool Try.underlying4 _), (trodAll_cons_mk (shut_int Try.underlying2 w0) (trodAll_cons_mk (Below.trod laidOut (by kernel_rfl) (of_decide_eq_true (by kernel_rfl)) k1 bel lt1) trodAll_mk0)), rfl, bel.frame _, fun h => by cases h⟩

theorem over : Rows.WheelPlaysSaid :=
  OpenClaim.holds_of_wide 3 Try.f3 rfl rfl rfl rfl rfl rfl rfl ⟨rfl, rfl, rfl, rfl, rfl⟩ rfl rfl rfl rfl rfl (by kernel_rfl) Try.func3 (by kernel_rfl)
    (of_decide_eq_true (by kernel_rfl)) (by unfold Func.isWrapper; first | (rw [if_pos (by decide +kernel)]; kernel_rfl) | (rw [if_neg (by decide +kernel)]; exact ⟨rfl, rfl⟩))
    (fun os started H enc _ => lifted os started H enc)
end Go.Proofs.Ytadaghhgmflfdaa.wheelPlays

namespace Go.Proofs.Ytadaghhgmflfdaa
open Go
theorem wheelPlays_holds : Rows.WheelPlaysSaid := wheelPlays.over
#print axioms wheelPlays_holds
end Go.Proofs.Ytadaghhgmflfdaa
