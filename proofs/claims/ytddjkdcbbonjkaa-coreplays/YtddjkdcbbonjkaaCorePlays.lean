/- Proved: for every number cpus and every list acts, davitlaw27.CorePlays(cpus, acts) returns true: any number of cores that are played with: each answer, and each core, is what the document says (150 acts at most, as the law itself says), and acts is left alone. -/
import Derived.Test.YtddjkdcbbonjkaaRows
import Derived.Test.YtddjkdcbbonjkaaFo
import Derived.Test.YtddjkdcbbonjkaaCoK
import Derived.Test.YtddjkdcbbonjkaaCoG
import Derived.WalkKit
import Derived.ProofKit
import Derived.OpenShut
import Derived.Stop.Joined
import Derived.ShutString
import Derived.ChangeOld
import Derived.Below
import Derived.Carry
import Derived.Test.YtddjkdcbbonjkaaFs
import Derived.Deep.DeepCutAuto
import Derived.Deep.CutBlock
import Derived.Deep.RegionHeld3
import Derived.Deep.RegionHeldLaw
namespace Go.Proofs.Ytddjkdcbbonjkaa.corePlays
open Go.ChangeShapes Go.WideShapes Go.ChangeAt Go.RowKit
open Co
set_option linter.unusedVariables false
set_option linter.unusedSimpArgs false

theorem own : ownKnob Try.prog.godebug = none := by kernel_rfl
theorem laidOut : laidOutB Try.prog = true := by kernel_rfl

set_option maxRecDepth 100000 in
set_option maxHeartbeats 16000000 in
theorem walk (a0 : Int) (a1 : Option Addr) (len1 cap1 : Nat) (X1 : Nat → Nat → Int) (w : World) (w0 : (Lit.int .i64 a0).wf = true) (w1 : SRow w (.slice a1 len1 cap1) len1 [true, true, false, true, true] X1) (z1 : ∀ i, i < len1 → ∀ j, j < [true, true, false, true, true].length → [true, true, false, true, true].getD j true = true → (Lit.int .i64 (X1 i j)).wf = true) :
    Calls Try.prog 4 #[.int .i64 a0, .slice a1 len1 cap1] w fun e w' => e = .returned (.bool true) ∧ Below w.heap.size w w' := by
  have KN : Hid (∀ w1, _) := fun w1 => cknown_yes w1
  by_cases wrong : a0 < 1 ∨ 64 < a0
  · have C : Hid (∀ w, _) := fun w => ctnew_bad a0 w wrong
    have D : Hid (∀ w, _) := fun w => dtnew_bad a0 w wrong
    clear wrong w0 w1 z1
    go_enter Try.func4, Try.ntmps4
    go_wp2_with fail
    refine (C.out _).mono ?_
    rintro e u1 ⟨rfl, rfl⟩
    go_wp2_with fail
    refine (D.out _).mono ?_
    rintro e u2 ⟨rfl, rfl⟩
    go_wp2_with fail
    refine (KN.out _).mono ?_
    rintro e u3 ⟨rfl, hb⟩
    go_wp2
    go_ret
    exact ⟨rfl, hb⟩
  · obtain ⟨c, rfl⟩ := Int.eq_ofNat_of_zero_le (show 0 ≤ a0 by omega)
    have m1 : (1 : Int) ≤ c := by omega
    have m2 : (c : Int) ≤ 64 := by omega
    have C : Hid (∀ _ : Unit, _) := fun _ => ctnew_any c w m1 m2
    have D : Hid (∀ w1, _) := fun w1 => dtnew_any c w1 m1 m2
    have HR : Hid (SRow w (.slice a1 len1 cap1) len1 [true, true, false, true, true] X1) := w1
    clear wrong w0 w1 z1
    go_enter Try.func4, Try.ntmps4
    go_wp2_with fail
    refine (C.out ()).mono ?_
    rintro e u1 ⟨rfl, q1, f1⟩
    have Q1 : Hid (CT u1 (w.heap.size + 1) w.heap.size (List.replicate c kn)) := q1
    have B1 : Hid (Below w.heap.size w u1) := f1
    have D1 : Hid (∀ _ : Unit, _) := fun _ => D.out u1
    clear q1 f1
    go_wp2_with fail
    refine (D1.out ()).mono ?_
    rintro e u2 ⟨rfl, h, hh, r2, f2⟩
    have PP0 : Hid (KB w u2 (w.heap.size + 1) w.heap.size u1.heap.size h [] (List.replicate c kn) (List.replicate c kn)) := by
      have l1 := Q1.out.sb.lt
      have l2 := Q1.out.gb.lt
      exact ⟨Q1.out.below f2, r2, B1.out.trans (f2.mono B1.out.size), ⟨by omega, by omega, by omega, by omega⟩, ⟨by omega, by omega, by omega⟩, fun x hx => by cases hx⟩
    clear r2 f2 hh
    generalize u1.heap.size = r at *
    obtain ⟨s, hs⟩ : ∃ s, w.heap.size + 1 = s := ⟨_, rfl⟩
    obtain ⟨g, hg⟩ : ∃ g, w.heap.size = g := ⟨_, rfl⟩
    have PP1 : Hid (KB w u2 s g r h [] (List.replicate c kn) (List.replicate c kn)) := by unfold Hid; rw [← hs, ← hg]; exact PP0.out
    rw [hs]
    clear Q1 B1 D1 PP0 hs hg
    go_wp2
    go_loopw [9] (fun i wr => ∃ (k : Nat) (Y : List Kc), (k : Int) ≤ 150 ∧ (k : Int) ≤ len1 ∧ KB w wr s g r h [] Y Y ∧ i = .int .i64 k) (fun i _ => 150 - (intOf i).toNat)
    case atStart => exact ⟨0, _, by omega, by omega, PP1.out, rfl⟩
    case round =>
      obtain ⟨k, Y, hk, hk2, p, rfl⟩ := hrel
      clear PP1
      have HB : Hid (Below w.heap.size w wr) := p.b
      have hz : Hid (w.heap.size ≤ wr.heap.size) := p.le
      have tail : (¬ (k : Int) < len1 ∧ decide ((k : Int) < len1) = false) ∨ ((k : Int) < len1 ∧ ¬ (k : Int) < 150) ∨ ((k : Int) < len1 ∧ (k : Int) < 150) := by
        by_cases h : (k : Int) < len1
        · by_cases h2 : (k : Int) < 150
          · exact Or.inr (Or.inr ⟨h, h2⟩)
          · exact Or.inr (Or.inl ⟨h, h2⟩)
        · exact Or.inl ⟨h, decide_eq_false h⟩
      rw [← or_assoc] at tail
      rcases tail with tail | ⟨tl, tl2⟩
      · clear p
        rcases tail with ⟨h, hd⟩ | ⟨h, h2⟩
        all_goals (
          go_wp2_with fail
          refine (KN.out _).mono ?_
          rintro e w4 ⟨rfl, f4⟩
          go_wp2
          go_ret
          exact ⟨rfl, HB.out.trans (f4.mono hz.out)⟩)
      · obtain ⟨b0, off, rfl, hA⟩ := srow_cell (wr := wr) HR.out p.b tl
        have x0 : wr.cell? ⟨b0, off + k * 5, none⟩ = some (.int .i64 (X1 k 0)) := hA 0 (by simp)
        have x1 : wr.cell? ⟨b0, off + k * 5 + 1, none⟩ = some (.int .i64 (X1 k 1)) := hA 1 (by simp)
        have x2 : wr.cell? ⟨b0, off + k * 5 + 2, none⟩ = some (.bool (X1 k 2 != 0)) := hA 2 (by simp)
        have x3 : wr.cell? ⟨b0, off + k * 5 + 3, none⟩ = some (.int .i64 (X1 k 3)) := hA 3 (by simp)
        have x4 : wr.cell? ⟨b0, off + k * 5 + 4, none⟩ = some (.int .i64 (X1 k 4)) := hA 4 (by simp)
        clear hA
        generalize X1 k 0 = y0 at *
        generalize X1 k 1 = y1 at *
        generalize (X1 k 2 != 0) = y2 at *
        generalize X1 k 3 = y3 at *
        generalize X1 k 4 = y4 at *
        have p0 := p.box (acl y0 y1 y2 y3 y4) 43
        obtain ⟨z, hzz⟩ : ∃ z, wr.heap.size = z := ⟨_, rfl⟩
        have HZZ : Hid (wr.heap.size = z) := hzz
        obtain ⟨u0, hu0⟩ : ∃ u0, wr.alloc (.cells #[.int .i64 y0, .int .i64 y1, .bool y2, .int .i64 y3, .int .i64 y4] 43) = u0 := ⟨_, rfl⟩
        have HU0 : Hid (wr.alloc (.cells #[.int .i64 y0, .int .i64 y1, .bool y2, .int .i64 y3, .int .i64 y4] 43) = u0) := hu0
        have p1 : KB w u0 s g r h [(z, acl y0 y1 y2 y3 y4, 43)] Y Y := by rw [← hu0, ← hzz]; exact p0
        have Q0 : Hid (KB w u0 s g r h [(z, acl y0 y1 y2 y3 y4, 43)] Y Y) := p1
        obtain ⟨i0, i1, i2, i3, i4⟩ := p1.act (z := z) (y0 := y0) (y1 := y1) (y2 := y2) (y3 := y3) (y4 := y4) (t := 43) (by simp)
        clear p p0 p1 hu0 hzz
        go_upto_block 2 with (fail)
        rw [HU0.out, HZZ.out]
        go_cut [9, 10, 11] (fun i pa vo wx => i = .int .i64 k ∧ pa = .pointer (some ⟨z, 0, none⟩) ∧ vo = .bool true ∧ ∃ Y2 : List Kc, KB w wx s g r h [(z, acl y0 y1 y2 y3 y4, 43)] Y2 Y2)
        case first =>
          as_aux_lemma =>
          by_cases t0 : y0.tmod 5 = 0
          · have e0 : (y0.tmod 5 == 0) = true := by simpa using t0
            clear t0
            clear x0 x1 x2 x3 x4 HU0 HZZ
            have C1 : Hid (∀ w1, Sm w1 u0 → _) := fun w1 e => (cpower_any w1 y1 y2 (Q0.out.sm e).c).mono fun _ _ ⟨r1, r2, r3⟩ => And.intro r1 ((Q0.out.sm e).prog r2 r3)
            have C2 : Hid (∀ v1 w1, KB w v1 s g r h [(z, acl y0 y1 y2 y3 y4, 43)] (pwY Y y1 y2) Y → Sm w1 v1 → _) := fun v1 w1 q e => (rpower_any w1 y1 y2 (q.sm e).d).mono fun _ _ ⟨r1, r2, r3⟩ => And.intro r1 ((q.sm e).doc r2 r3)
            generalize pwE Y y1 y2 = n0 at *
            have m0' : (n0 == n0) = true := by simp
            generalize pwY Y y1 y2 = Y2 at *
            go_wp2_with fail
            go_region_held3 (fun w' => w'.cell? ⟨z, 1, none⟩ = some (.int .i64 y1) ∧ w'.cell? ⟨z, 2, none⟩ = some (.bool y2)) (go_keep)
              (first | (go_at_call 14; refine (C1.out _ ?_).mono ?_; exact ⟨rfl, rfl, rfl, rfl⟩; rintro e v1 ⟨rfl, q1⟩; obtain ⟨k0, k1, k2, k3, k4⟩ := q1.act (z := z) (y0 := y0) (y1 := y1) (y2 := y2) (y3 := y3) (y4 := y4) (t := 43) (by simp); have R1 : Hid (KB w v1 s g r h [(z, acl y0 y1 y2 y3 y4, 43)] Y2 Y) := q1; clear q1) | (go_at_call 15; refine (C2.out v1 _ R1.out ?_).mono ?_; exact ⟨rfl, rfl, rfl, rfl⟩; rintro e v2 ⟨rfl, q2⟩; obtain ⟨l0, l1, l2, l3, l4⟩ := q2.act (z := z) (y0 := y0) (y1 := y1) (y2 := y2) (y3 := y3) (y4 := y4) (t := 43) (by simp); have R2 : Hid (KB w v2 s g r h [(z, acl y0 y1 y2 y3 y4, 43)] Y2 Y2) := q2; clear q2))
            go_wp2
            go_meet
            case rel => exact ⟨rfl, rfl, rfl, Y2, R2.out.sm ⟨rfl, rfl, rfl, rfl⟩⟩
          · have e0 : (y0.tmod 5 == 0) = false := by simpa using t0
            by_cases t1 : y0.tmod 5 = 1
            · have e1 : (y0.tmod 5 == 1) = true := by simpa using t1
              clear t0 t1
              clear x0 x1 x2 x3 x4 HU0 HZZ
              have C1 : Hid (∀ w1, Sm w1 u0 → _) := fun w1 e => (crest_any w1 y1 y3 y4 (Q0.out.sm e).c).mono fun _ _ ⟨r1, r2, r3⟩ => And.intro r1 ((Q0.out.sm e).prog r2 r3)
              have C2 : Hid (∀ v1 w1, KB w v1 s g r h [(z, acl y0 y1 y2 y3 y4, 43)] (rsY Y y1 y3 y4) Y → Sm w1 v1 → _) := fun v1 w1 q e => (rrest_any w1 y1 y3 y4 (q.sm e).d).mono fun _ _ ⟨r1, r2, r3⟩ => And.intro r1 ((q.sm e).doc r2 r3)
              generalize rsE Y y1 y3 y4 = n0 at *
              have m0' : (n0 == n0) = true := by simp
              generalize rsY Y y1 y3 y4 = Y2 at *
              go_wp2_with fail
              go_region_held3 (fun w' => w'.cell? ⟨z, 1, none⟩ = some (.int .i64 y1) ∧ w'.cell? ⟨z, 3, none⟩ = some (.int .i64 y3) ∧ w'.cell? ⟨z, 4, none⟩ = some (.int .i64 y4)) (go_keep)
                (first | (go_at_call 16; refine (C1.out _ ?_).mono ?_; exact ⟨rfl, rfl, rfl, rfl⟩; rintro e v1 ⟨rfl, q1⟩; obtain ⟨k0, k1, k2, k3, k4⟩ := q1.act (z := z) (y0 := y0) (y1 := y1) (y2 := y2) (y3 := y3) (y4 := y4) (t := 43) (by simp); have R1 : Hid (KB w v1 s g r h [(z, acl y0 y1 y2 y3 y4, 43)] Y2 Y) := q1; clear q1) | (go_at_call 17; refine (C2.out v1 _ R1.out ?_).mono ?_; exact ⟨rfl, rfl, rfl, rfl⟩; rintro e v2 ⟨rfl, q2⟩; obtain ⟨l0, l1, l2, l3, l4⟩ := q2.act (z := z) (y0 := y0) (y1 := y1) (y2 := y2) (y3 := y3) (y4 := y4) (t := 43) (by simp); have R2 : Hid (KB w v2 s g r h [(z, acl y0 y1 y2 y3 y4, 43)] Y2 Y2) := q2; clear q2))
              go_wp2
              go_meet
              case rel => exact ⟨rfl, rfl, rfl, Y2, R2.out.sm ⟨rfl, rfl, rfl, rfl⟩⟩
            · have e1 : (y0.tmod 5 == 1) = false := by simpa using t1
              by_cases t2 : y0.tmod 5 = 2
              · have e2 : (y0.tmod 5 == 2) = true := by simpa using t2
                clear t0 t1 t2
                clear x0 x1 x2 x3 x4 HU0 HZZ
                have C1 : Hid (∀ w1, Sm w1 u0 → _) := fun w1 e => (cwake_any w1 y1 y4 (Q0.out.sm e).c).mono fun _ _ ⟨r1, r2, r3⟩ => And.intro r1 ((Q0.out.sm e).prog r2 r3)
                have C2 : Hid (∀ v1 w1, KB w v1 s g r h [(z, acl y0 y1 y2 y3 y4, 43)] (wkY Y y1 y4) Y → Sm w1 v1 → _) := fun v1 w1 q e => (rwake_any w1 y1 y4 (q.sm e).d).mono fun _ _ ⟨r1, r2, r3⟩ => And.intro r1 ((q.sm e).doc r2 r3)
                generalize wkN Y y1 y4 = n0 at *
                have m0' : (n0 == n0) = true := by simp
                generalize wkE Y y1 y4 = n1 at *
                have m1' : (n1 == n1) = true := by simp
                generalize wkY Y y1 y4 = Y2 at *
                go_wp2_with fail
                refine (C1.out _ ⟨rfl, rfl, rfl, rfl⟩).mono ?_
                rintro e v1 ⟨rfl, q1⟩
                obtain ⟨k0, k1, k2, k3, k4⟩ := q1.act (z := z) (y0 := y0) (y1 := y1) (y2 := y2) (y3 := y3) (y4 := y4) (t := 43) (by simp)
                have R1 : Hid (KB w v1 s g r h [(z, acl y0 y1 y2 y3 y4, 43)] Y2 Y) := q1
                clear q1
                go_wp2_with fail
                refine (C2.out v1 _ R1.out ⟨rfl, rfl, rfl, rfl⟩).mono ?_
                rintro e v2 ⟨rfl, q2⟩
                have R2 : Hid (KB w v2 s g r h [(z, acl y0 y1 y2 y3 y4, 43)] Y2 Y2) := q2
                clear q2 k0 k1 k2 k3 k4
                go_wp2
                go_meet
                case rel => exact ⟨rfl, rfl, rfl, Y2, R2.out⟩
              · have e2 : (y0.tmod 5 == 2) = false := by simpa using t2
                by_cases t3 : y0.tmod 5 = 3
                · have e3 : (y0.tmod 5 == 3) = true := by simpa using t3
                  clear t0 t1 t2 t3
                  clear x0 x1 x2 x3 x4 HU0 HZZ
                  have C1 : Hid (∀ w1, Sm w1 u0 → _) := fun w1 e => (ccount_any w1 y1 y2 (Q0.out.sm e).c).mono fun _ _ ⟨r1, r2, r3⟩ => And.intro r1 ((Q0.out.sm e).prog r2 r3)
                  have C2 : Hid (∀ v1 w1, KB w v1 s g r h [(z, acl y0 y1 y2 y3 y4, 43)] (ctY Y y1 y2) Y → Sm w1 v1 → _) := fun v1 w1 q e => (rcount_any w1 y1 y2 (q.sm e).d).mono fun _ _ ⟨r1, r2, r3⟩ => And.intro r1 ((q.sm e).doc r2 r3)
                  generalize inE Y y1 = n0 at *
                  have m0' : (n0 == n0) = true := by simp
                  generalize ctY Y y1 y2 = Y2 at *
                  go_wp2_with fail
                  go_region_held3 (fun w' => w'.cell? ⟨z, 1, none⟩ = some (.int .i64 y1) ∧ w'.cell? ⟨z, 2, none⟩ = some (.bool y2)) (go_keep)
                    (first | (go_at_call 20; refine (C1.out _ ?_).mono ?_; exact ⟨rfl, rfl, rfl, rfl⟩; rintro e v1 ⟨rfl, q1⟩; obtain ⟨k0, k1, k2, k3, k4⟩ := q1.act (z := z) (y0 := y0) (y1 := y1) (y2 := y2) (y3 := y3) (y4 := y4) (t := 43) (by simp); have R1 : Hid (KB w v1 s g r h [(z, acl y0 y1 y2 y3 y4, 43)] Y2 Y) := q1; clear q1) | (go_at_call 21; refine (C2.out v1 _ R1.out ?_).mono ?_; exact ⟨rfl, rfl, rfl, rfl⟩; rintro e v2 ⟨rfl, q2⟩; obtain ⟨l0, l1, l2, l3, l4⟩ := q2.act (z := z) (y0 := y0) (y1 := y1) (y2 := y2) (y3 := y3) (y4 := y4) (t := 43) (by simp); have R2 : Hid (KB w v2 s g r h [(z, acl y0 y1 y2 y3 y4, 43)] Y2 Y2) := q2; clear q2))
                  go_wp2
                  go_meet
                  case rel => exact ⟨rfl, rfl, rfl, Y2, R2.out.sm ⟨rfl, rfl, rfl, rfl⟩⟩
                · have e3 : (y0.tmod 5 == 3) = false := by simpa using t3
                  clear t0 t1 t2 t3
                  clear x0 x1 x2 x3 x4 HU0 HZZ
                  have C1 : Hid (∀ w1, Sm w1 u0 → _) := fun w1 e => (ctake_any w1 y1 (Q0.out.sm e).c).mono fun _ _ ⟨r1, r2, r3⟩ => And.intro r1 ((Q0.out.sm e).prog r2 r3)
                  have C2 : Hid (∀ v1 w1, KB w v1 s g r h [(z, acl y0 y1 y2 y3 y4, 43)] (tkY Y y1) Y → Sm w1 v1 → _) := fun v1 w1 q e => (rtake_any w1 y1 (q.sm e).d).mono fun _ _ ⟨r1, r2, r3⟩ => And.intro r1 ((q.sm e).doc r2 r3)
                  generalize (gt Y y1).busy = n0 at *
                  have m0' : (n0 == n0) = true := by simp
                  generalize (gt Y y1).steps = n1 at *
                  have m1' : (n1 == n1) = true := by simp
                  generalize inE Y y1 = n2 at *
                  have m2' : (n2 == n2) = true := by simp
                  generalize tkY Y y1 = Y2 at *
                  go_wp2_with fail
                  refine (C1.out _ ⟨rfl, rfl, rfl, rfl⟩).mono ?_
                  rintro e v1 ⟨rfl, q1⟩
                  obtain ⟨k0, k1, k2, k3, k4⟩ := q1.act (z := z) (y0 := y0) (y1 := y1) (y2 := y2) (y3 := y3) (y4 := y4) (t := 43) (by simp)
                  have R1 : Hid (KB w v1 s g r h [(z, acl y0 y1 y2 y3 y4, 43)] Y2 Y) := q1
                  clear q1
                  go_wp2_with fail
                  refine (C2.out v1 _ R1.out ⟨rfl, rfl, rfl, rfl⟩).mono ?_
                  rintro e v2 ⟨rfl, q2⟩
                  have R2 : Hid (KB w v2 s g r h [(z, acl y0 y1 y2 y3 y4, 43)] Y2 Y2) := q2
                  clear q2 k0 k1 k2 k3 k4
                  go_wp2
                  go_meet
                  case rel => exact ⟨rfl, rfl, rfl, Y2, R2.out⟩
        case rest =>
          obtain ⟨rfl, rfl, rfl, Y2, q2⟩ := hcut
          have G : Hid (∀ w1, Sm w1 wc → _) := fun w1 e => (cget_any w1 y1 (q2.sm e).c).mono fun _ _ ⟨r1, r2⟩ => And.intro r1 ((q2.sm e).below r2)
          obtain ⟨k0, k1, k2, k3, k4⟩ := q2.act (z := z) (y0 := y0) (y1 := y1) (y2 := y2) (y3 := y3) (y4 := y4) (t := 43) (by simp)
          clear Q0 x0 x1 x2 x3 x4 HU0 HZZ i0 i1 i2 i3 i4 q2 k0 k2 k3 k4
          obtain ⟨x, hx⟩ : ∃ x, gt Y2 y1 = x := ⟨_, rfl⟩
          have HX : Hid (gt Y2 y1 = x) := hx
          rw [hx] at G
          have bx : (x.p == x.p) = true ∧ (x.i == x.i) = true ∧ (x.way == x.way) = true ∧ (x.since == x.since) = true ∧ (x.steps == x.steps) = true ∧ (x.busy == x.busy) = true := ⟨by simp, by simp, by simp, by simp, by simp, by simp⟩
          obtain ⟨bx0, bx1, bx2, bx3, bx4, bx5⟩ := bx
          simp only [ckv] at G
          clear hx
          cases ik : isk Y2.length y1 with
          | true =>
            as_aux_lemma =>
            rw [show inE Y2 y1 = 0 by unfold inE; rw [ik]; rfl] at G
            have IK : Hid (isk Y2.length y1 = true) := ik
            clear ik
            go_wp2_with fail
            refine (G.out _ ⟨rfl, rfl, rfl, rfl⟩).mono ?_
            rintro e v3 ⟨rfl, q3⟩
            have q4 := q3.box (ck.f x) 27
            have q5 : KB w (v3.alloc (.cells #[.bool x.p, .bool x.i, .int .i64 x.way, .int .i64 x.since, .int .i64 x.steps, .int .i64 x.busy] 27)) s g r h [(v3.heap.size, ck.f x, 27), (z, acl y0 y1 y2 y3 y4, 43)] Y2 Y2 := q4
            obtain ⟨xb, hxb⟩ : ∃ xb, v3.heap.size = xb := ⟨_, rfl⟩
            obtain ⟨u5, hu5⟩ : ∃ u5, v3.alloc (.cells #[.bool x.p, .bool x.i, .int .i64 x.way, .int .i64 x.since, .int .i64 x.steps, .int .i64 x.busy] 27) = u5 := ⟨_, rfl⟩
            rw [hu5, hxb] at q5
            have HU5 : Hid (v3.alloc (.cells #[.bool x.p, .bool x.i, .int .i64 x.way, .int .i64 x.since, .int .i64 x.steps, .int .i64 x.busy] 27) = u5) := hu5
            have HXB : Hid (v3.heap.size = xb) := hxb
            have Q5 : Hid (KB w u5 s g r h [(xb, ck.f x, 27), (z, acl y0 y1 y2 y3 y4, 43)] Y2 Y2) := q5
            obtain ⟨j, ej, hj⟩ := isk_yes IK.out
            have HJ : Hid (y1 = (j : Int) ∧ j < Y2.length) := ⟨ej, hj⟩
            have gj : Y2.getD j kz = x := by rw [← gt_nat hj, ← ej]; exact HX.out
            obtain ⟨cap, hcap, hsb⟩ := q5.d.sb
            have CS : Hid (∀ u v, KB w u s g r h [(xb, ck.f x, 27), (z, acl y0 y1 y2 y3 y4, 43)] Y2 Y2 → u.cell? ⟨r, 0, none⟩ = some v → u.cell? ⟨z, 1, none⟩ = some (.int .i64 (j : Int)) ∧ u.cell? ⟨r, 0, none⟩ = some v ∧ u.cell? ⟨xb, 0, none⟩ = some (.bool x.p) ∧ u.cell? ⟨xb, 1, none⟩ = some (.bool x.i) ∧ u.cell? ⟨xb, 2, none⟩ = some (.int .i64 x.way) ∧ u.cell? ⟨xb, 3, none⟩ = some (.int .i64 x.since) ∧ u.cell? ⟨xb, 4, none⟩ = some (.int .i64 x.steps) ∧ u.cell? ⟨xb, 5, none⟩ = some (.int .i64 x.busy) ∧ u.cell? ⟨h, j * 6, none⟩ = some (.bool x.p) ∧ u.cell? ⟨h, j * 6 + 1, none⟩ = some (.bool x.i) ∧ u.cell? ⟨h, j * 6 + 2, none⟩ = some (.int .i64 x.way) ∧ u.cell? ⟨h, j * 6 + 3, none⟩ = some (.int .i64 x.since) ∧ u.cell? ⟨h, j * 6 + 4, none⟩ = some (.int .i64 x.steps) ∧ u.cell? ⟨h, j * 6 + 5, none⟩ = some (.int .i64 x.busy)) := fun u v q e => by
              obtain ⟨d0, d1, d2, d3, d4, d5⟩ := q.d.six hj gj
              have kx := (q.a (xb, ck.f x, 27) (by simp)).1
              have ka := (q.act (z := z) (y0 := y0) (y1 := y1) (y2 := y2) (y3 := y3) (y4 := y4) (t := 43) (by simp)).2.1
              rw [ej] at ka
              exact ⟨ka, e, kx.cell 0, kx.cell 1, kx.cell 2, kx.cell 3, kx.cell 4, kx.cell 5, d0, d1, d2, d3, d4, d5⟩
            have RH : Hid (∀ u v, KB w u s g r h [(xb, ck.f x, 27), (z, acl y0 y1 y2 y3 y4, 43)] Y2 Y2 → ∀ u', Below u.heap.size u u' → u.cell? ⟨r, 0, none⟩ = some v → u'.cell? ⟨r, 0, none⟩ = some v) := fun u v q u' b e => (b.cell (p := ⟨r, 0, none⟩) q.d.slt).trans e
            have hr0 : u5.cell? ⟨r, 0, none⟩ = some (.slice (some ⟨h, 0, none⟩) Y2.length cap) := hsb.cell 0
            have I1 : Hid (∀ u w1, KB w u s g r h [(xb, ck.f x, 27), (z, acl y0 y1 y2 y3 y4, 43)] Y2 Y2 → Sm w1 u → Calls Try.prog 25 #[.pointer (some ⟨r, 0, none⟩), .int .i64 (j : Int)] w1 fun e w' => e = .returned (.bool true) ∧ KB w w' s g r h [(xb, ck.f x, 27), (z, acl y0 y1 y2 y3 y4, 43)] Y2 Y2 ∧ w'.heap = u.heap) := fun u w1 q e => (ris_any w1 r h Y2 (j : Int) (q.sm e).d).mono fun _ _ ⟨r1, r2⟩ => by
              rw [isk_nat hj] at r1
              subst r2
              exact ⟨r1, q.sm e, e.1⟩
            have I2 : Hid (∀ u w1 v, KB w u s g r h [(xb, ck.f x, 27), (z, acl y0 y1 y2 y3 y4, 43)] Y2 Y2 → Sm w1 u → u.cell? ⟨r, 0, none⟩ = some v → Calls Try.prog 8 #[ckv x] w1 fun e w' => e = .returned (ckv x) ∧ KB w w' s g r h [(xb, ck.f x, 27), (z, acl y0 y1 y2 y3 y4, 43)] Y2 Y2 ∧ w'.cell? ⟨r, 0, none⟩ = some v) := fun u w1 v q e c => (cores_any x w1).mono fun _ w' ⟨r1, r2⟩ => by
              have q' := q.sm e
              exact ⟨r1, q'.below r2, RH.out w1 v q' w' r2 ((World.cell?_of_block (w := u) (by rw [e.1])).trans c)⟩
            simp only [ckv] at I2
            obtain ⟨o0, o1, o2, o3, o4, o5, o6, o7, o8, o9, o10, o11, o12, o13⟩ := CS.out u5 _ q5 hr0
            have jn : (j : Int) < Y2.length := by omega
            have jn2 : j < Y2.length := hj
            clear q3 q4 q5 hu5 hxb ej hj gj hsb hcap hr0
            generalize Y2.length = nY at *
            go_wp2_with fail
            rw [HU5.out, HXB.out]
            refine wp_region_held_drew (S := fun w' => w'.cell? ⟨z, 1, none⟩ = some (.int .i64 (j : Int)) ∧ w'.cell? ⟨r, 0, none⟩ = some (.slice (some ⟨h, 0, none⟩) nY cap) ∧ w'.cell? ⟨xb, 0, none⟩ = some (.bool x.p) ∧ w'.cell? ⟨xb, 1, none⟩ = some (.bool x.i) ∧ w'.cell? ⟨xb, 2, none⟩ = some (.int .i64 x.way) ∧ w'.cell? ⟨xb, 3, none⟩ = some (.int .i64 x.since) ∧ w'.cell? ⟨xb, 4, none⟩ = some (.int .i64 x.steps) ∧ w'.cell? ⟨xb, 5, none⟩ = some (.int .i64 x.busy) ∧ w'.cell? ⟨h, j * 6, none⟩ = some (.bool x.p) ∧ w'.cell? ⟨h, j * 6 + 1, none⟩ = some (.bool x.i) ∧ w'.cell? ⟨h, j * 6 + 2, none⟩ = some (.int .i64 x.way) ∧ w'.cell? ⟨h, j * 6 + 3, none⟩ = some (.int .i64 x.since) ∧ w'.cell? ⟨h, j * 6 + 4, none⟩ = some (.int .i64 x.steps) ∧ w'.cell? ⟨h, j * 6 + 5, none⟩ = some (.int .i64 x.busy)) (by kernel_rfl) (by go_keep) (fun hHeld => ?_)
            refine wpAnyH_take (i := 0) (oi := { dst := some 177, op := Op.move (Operand.tmp 11), type := 4, pos := "law.go:77", after := #[], guard := none }) (v := ?va0) rfl (by kernel_rfl) (by kernel_rfl) (by kernel_rfl) (fun _ _ _ h => h) (Or.inl ⟨by rfl, ?ha0⟩) (by assumption) ?ra0
            case ha0 => (intro wz hSw; (try dsimp only at hSw); go_simp <;> with_reducible rfl)
            try simp only [Act.put, List.setIfInBounds_toArray, List.set_cons_zero, List.set_cons_succ]
            refine wpAnyH_take (i := 1) (oi := { dst := some 178, op := Op.unOp UnOp.not 4 (Operand.tmp 177), type := 4, pos := "law.go:77", after := #[{ on := 0, ground := Ground.data }], guard := none }) (v := ?va1) rfl (by kernel_rfl) (by kernel_rfl) (by kernel_rfl) (fun _ _ _ h => h) (Or.inl ⟨by rfl, ?ha1⟩) (by assumption) ?ra1
            case ha1 => (intro wz hSw; (try dsimp only at hSw); go_simp <;> with_reducible rfl)
            try simp only [Act.put, List.setIfInBounds_toArray, List.set_cons_zero, List.set_cons_succ]
            refine wpAnyH_take (i := 2) (oi := { dst := some 179, op := Op.move (Operand.tmp 178), type := 4, pos := "law.go:77", after := #[{ on := 1, ground := Ground.data }], guard := none }) (v := ?va2) rfl (by kernel_rfl) (by kernel_rfl) (by kernel_rfl) (fun _ _ _ h => h) (Or.inl ⟨by rfl, ?ha2⟩) (by assumption) ?ra2
            case ha2 => (intro wz hSw; (try dsimp only at hSw); go_simp <;> with_reducible rfl)
            try simp only [Act.put, List.setIfInBounds_toArray, List.set_cons_zero, List.set_cons_succ]
            refine wpAnyH_take (i := 3) (oi := { dst := some 180, op := Op.move (Operand.tmp 7), type := 39, pos := "law.go:77", after := #[{ on := 2, ground := Ground.guard }], guard := some (2, false) }) (v := ?va3) rfl (by kernel_rfl) (by kernel_rfl) (by kernel_rfl) (fun _ _ _ h => h) (Or.inl ⟨by rfl, ?ha3⟩) (by assumption) ?ra3
            case ha3 => (intro wz hSw; (try dsimp only at hSw); go_simp <;> with_reducible rfl)
            try simp only [Act.put, List.setIfInBounds_toArray, List.set_cons_zero, List.set_cons_succ]
            refine wpAnyH_take (i := 4) (oi := { dst := some 181, op := Op.fieldAddr 43 (Operand.tmp 10) 1, type := 0, pos := "law.go:77", after := #[{ on := 2, ground := Ground.guard }], guard := some (2, false) }) (v := ?va4) rfl (by kernel_rfl) (by kernel_rfl) (by kernel_rfl) (fun _ _ _ h => h) (Or.inl ⟨by rfl, ?ha4⟩) (by assumption) ?ra4
            case ha4 => (intro wz hSw; (try dsimp only at hSw); go_simp <;> with_reducible rfl)
            try simp only [Act.put, List.setIfInBounds_toArray, List.set_cons_zero, List.set_cons_succ]
            refine wpAnyH_take (i := 5) (oi := { dst := some 182, op := Op.load 3 (Operand.tmp 181), type := 3, pos := "law.go:77", after := #[{ on := 4, ground := Ground.data }, { on := 2, ground := Ground.guard }], guard := some (2, false) }) (v := ?va5) rfl (by kernel_rfl) (by kernel_rfl) (by kernel_rfl) (fun _ _ _ h => h) (Or.inl ⟨by rfl, ?ha5⟩) (by assumption) ?ra5
            case ha5 => (intro wz hSw; (try dsimp only at hSw); go_simp <;> with_reducible rfl)
            try simp only [Act.put, List.setIfInBounds_toArray, List.set_cons_zero, List.set_cons_succ]
            refine wpAnyH_take (i := 7) (oi := { dst := some 184, op := Op.move (Operand.tmp 23), type := 36, pos := "law.go:77", after := #[{ on := 2, ground := Ground.guard }], guard := some (2, false) }) (v := ?va7) rfl (by kernel_rfl) (by kernel_rfl) (by kernel_rfl) (fun _ _ _ h => h) (Or.inl ⟨by rfl, ?ha7⟩) (by assumption) ?ra7
            case ha7 => (intro wz hSw; (try dsimp only at hSw); go_simp <;> with_reducible rfl)
            try simp only [Act.put, List.setIfInBounds_toArray, List.set_cons_zero, List.set_cons_succ]
            refine wpAnyH_take (i := 8) (oi := { dst := some 185, op := Op.binOp BinOp.eql 36 (Operand.tmp 184) (Operand.const (Value.int IntKind.i64 0)) 36, type := 4, pos := "law.go:77", after := #[{ on := 7, ground := Ground.data }, { on := 2, ground := Ground.guard }], guard := some (2, false) }) (v := ?va8) rfl (by kernel_rfl) (by kernel_rfl) (by kernel_rfl) (fun _ _ _ h => h) (Or.inl ⟨by rfl, ?ha8⟩) (by assumption) ?ra8
            case ha8 => (intro wz hSw; (try dsimp only at hSw); go_simp <;> with_reducible rfl)
            try simp only [Act.put, List.setIfInBounds_toArray, List.set_cons_zero, List.set_cons_succ]
            refine wpAnyH_ready (rs := [6]) (by kernel_rfl) (by simp) ?_
            refine AllReadyH.cons (o := { dst := some 183, op := Op.call { callee := Callee.value (Operand.func 25), args := #[Operand.tmp 180, Operand.tmp 182], argTypes := #[39, 3] }, type := 4, pos := "law.go:77", after := #[{ on := 3, ground := Ground.data }, { on := 5, ground := Ground.data }, { on := 2, ground := Ground.chain }, { on := 2, ground := Ground.guard }], guard := some (2, false) }) rfl (fun K hK => ?_) AllReadyH.nil
            go_simp
            refine (I1.out u5 _ Q5.out ?_).mono ?_
            exact ⟨rfl, rfl, rfl, rfl⟩
            rintro e v6 ⟨rfl, q6, e6⟩
            have o1' : v6.cell? ⟨r, 0, none⟩ = some (.slice (some ⟨h, 0, none⟩) nY cap) := (World.cell?_of_block (w := u5) (by rw [e6])).trans o1
            obtain ⟨o0, o1, o2, o3, o4, o5, o6, o7, o8, o9, o10, o11, o12, o13⟩ := CS.out v6 _ q6 o1'
            have Q6 : Hid (KB w v6 s g r h [(xb, ck.f x, 27), (z, acl y0 y1 y2 y3 y4, 43)] Y2 Y2) := q6
            clear q6 e6 o1'
            (try go_wp2_with fail)
            refine hK.out _ _ ?sa6 (fun hHeld => ?ta6)
            case sa6 => go_keep
            clear hK K
            try simp only [Act.put, List.setIfInBounds_toArray, List.set_cons_zero, List.set_cons_succ]
            refine wpAnyH_take (i := 9) (oi := { dst := some 186, op := Op.binOp BinOp.neq 4 (Operand.tmp 183) (Operand.tmp 185) 4, type := 4, pos := "law.go:77", after := #[{ on := 6, ground := Ground.data }, { on := 8, ground := Ground.data }, { on := 2, ground := Ground.guard }], guard := some (2, false) }) (v := ?va9) rfl (by kernel_rfl) (by kernel_rfl) (by kernel_rfl) (fun _ _ _ h => h) (Or.inl ⟨by rfl, ?ha9⟩) (by assumption) ?ra9
            case ha9 => (intro wz hSw; (try dsimp only at hSw); go_simp <;> with_reducible rfl)
            try simp only [Act.put, List.setIfInBounds_toArray, List.set_cons_zero, List.set_cons_succ]
            refine wpAnyH_take (i := 10) (oi := { dst := some 187, op := Op.pick (Operand.tmp 179) (Operand.const (Value.bool true)) (Operand.tmp 186), type := 4, pos := "law.go:77", after := #[{ on := 2, ground := Ground.data }, { on := 9, ground := Ground.data }], guard := none }) (v := ?va10) rfl (by kernel_rfl) (by kernel_rfl) (by kernel_rfl) (fun _ _ _ h => h) (Or.inl ⟨by rfl, ?ha10⟩) (by assumption) ?ra10
            case ha10 => (intro wz hSw; (try dsimp only at hSw); go_simp <;> with_reducible rfl)
            try simp only [Act.put, List.setIfInBounds_toArray, List.set_cons_zero, List.set_cons_succ]
            refine wpAnyH_take (i := 11) (oi := { dst := some 188, op := Op.move (Operand.tmp 187), type := 4, pos := "law.go:77", after := #[{ on := 10, ground := Ground.data }, { on := 6, ground := Ground.chain }], guard := none }) (v := ?va11) rfl (by kernel_rfl) (by kernel_rfl) (by kernel_rfl) (fun _ _ _ h => h) (Or.inl ⟨by rfl, ?ha11⟩) (by assumption) ?ra11
            case ha11 => (intro wz hSw; (try dsimp only at hSw); go_simp <;> with_reducible rfl)
            try simp only [Act.put, List.setIfInBounds_toArray, List.set_cons_zero, List.set_cons_succ]
            refine wpAnyH_take (i := 12) (oi := { dst := some 189, op := Op.move (Operand.tmp 7), type := 39, pos := "law.go:77", after := #[{ on := 11, ground := Ground.guard }], guard := some (11, false) }) (v := ?va12) rfl (by kernel_rfl) (by kernel_rfl) (by kernel_rfl) (fun _ _ _ h => h) (Or.inl ⟨by rfl, ?ha12⟩) (by assumption) ?ra12
            case ha12 => (intro wz hSw; (try dsimp only at hSw); go_simp <;> with_reducible rfl)
            try simp only [Act.put, List.setIfInBounds_toArray, List.set_cons_zero, List.set_cons_succ]
            refine wpAnyH_take (i := 13) (oi := { dst := some 190, op := Op.fieldAddr 43 (Operand.tmp 10) 1, type := 0, pos := "law.go:77", after := #[{ on := 11, ground := Ground.guard }], guard := some (11, false) }) (v := ?va13) rfl (by kernel_rfl) (by kernel_rfl) (by kernel_rfl) (fun _ _ _ h => h) (Or.inl ⟨by rfl, ?ha13⟩) (by assumption) ?ra13
            case ha13 => (intro wz hSw; (try dsimp only at hSw); go_simp <;> with_reducible rfl)
            try simp only [Act.put, List.setIfInBounds_toArray, List.set_cons_zero, List.set_cons_succ]
            refine wpAnyH_take (i := 14) (oi := { dst := some 191, op := Op.load 3 (Operand.tmp 190), type := 3, pos := "law.go:77", after := #[{ on := 13, ground := Ground.data }, { on := 11, ground := Ground.guard }], guard := some (11, false) }) (v := ?va14) rfl (by kernel_rfl) (by kernel_rfl) (by kernel_rfl) (fun _ _ _ h => h) (Or.inl ⟨by rfl, ?ha14⟩) (by assumption) ?ra14
            case ha14 => (intro wz hSw; (try dsimp only at hSw); go_simp <;> with_reducible rfl)
            try simp only [Act.put, List.setIfInBounds_toArray, List.set_cons_zero, List.set_cons_succ]
            refine wpAnyH_ready (rs := [15]) (by kernel_rfl) (by simp) ?_
            refine AllReadyH.cons (o := { dst := some 192, op := Op.call { callee := Callee.value (Operand.func 25), args := #[Operand.tmp 189, Operand.tmp 191], argTypes := #[39, 3] }, type := 4, pos := "law.go:77", after := #[{ on := 12, ground := Ground.data }, { on := 14, ground := Ground.data }, { on := 11, ground := Ground.chain }, { on := 11, ground := Ground.guard }], guard := some (11, false) }) rfl (fun K hK => ?_) AllReadyH.nil
            go_simp
            refine (I1.out v6 _ Q6.out ?_).mono ?_
            exact ⟨rfl, rfl, rfl, rfl⟩
            rintro e v7 ⟨rfl, q7, e7⟩
            have o1' : v7.cell? ⟨r, 0, none⟩ = some (.slice (some ⟨h, 0, none⟩) nY cap) := (World.cell?_of_block (w := v6) (by rw [e7])).trans o1
            obtain ⟨o0, o1, o2, o3, o4, o5, o6, o7, o8, o9, o10, o11, o12, o13⟩ := CS.out v7 _ q7 o1'
            have Q7 : Hid (KB w v7 s g r h [(xb, ck.f x, 27), (z, acl y0 y1 y2 y3 y4, 43)] Y2 Y2) := q7
            clear q7 e7 o1'
            (try go_wp2_with fail)
            refine hK.out _ _ ?sa15 (fun hHeld => ?ta15)
            case sa15 => go_keep
            clear hK K
            try simp only [Act.put, List.setIfInBounds_toArray, List.set_cons_zero, List.set_cons_succ]
            refine wpAnyH_take (i := 16) (oi := { dst := some 193, op := Op.move (Operand.tmp 192), type := 4, pos := "law.go:77", after := #[{ on := 15, ground := Ground.data }, { on := 15, ground := Ground.chain }, { on := 11, ground := Ground.guard }], guard := some (11, false) }) (v := ?va16) rfl (by kernel_rfl) (by kernel_rfl) (by kernel_rfl) (fun _ _ _ h => h) (Or.inl ⟨by rfl, ?ha16⟩) (by assumption) ?ra16
            case ha16 => (intro wz hSw; (try dsimp only at hSw); go_simp <;> with_reducible rfl)
            try simp only [Act.put, List.setIfInBounds_toArray, List.set_cons_zero, List.set_cons_succ]
            refine wpAnyH_take (i := 17) (oi := { dst := some 194, op := Op.load 27 (Operand.tmp 22), type := 27, pos := "law.go:77", after := #[{ on := 16, ground := Ground.guard }], guard := some (16, true) }) (v := ?va17) rfl (by kernel_rfl) (by kernel_rfl) (by kernel_rfl) (fun _ _ _ h => h) (Or.inl ⟨by rfl, ?ha17⟩) (by assumption) ?ra17
            case ha17 => (intro wz hSw; (try dsimp only at hSw); go_simp <;> with_reducible rfl)
            try simp only [Act.put, List.setIfInBounds_toArray, List.set_cons_zero, List.set_cons_succ]
            refine wpAnyH_take (i := 18) (oi := { dst := some 195, op := Op.move (Operand.tmp 7), type := 39, pos := "law.go:77", after := #[{ on := 16, ground := Ground.guard }], guard := some (16, true) }) (v := ?va18) rfl (by kernel_rfl) (by kernel_rfl) (by kernel_rfl) (fun _ _ _ h => h) (Or.inl ⟨by rfl, ?ha18⟩) (by assumption) ?ra18
            case ha18 => (intro wz hSw; (try dsimp only at hSw); go_simp <;> with_reducible rfl)
            try simp only [Act.put, List.setIfInBounds_toArray, List.set_cons_zero, List.set_cons_succ]
            refine wpAnyH_take (i := 19) (oi := { dst := some 196, op := Op.nilCheck (Operand.tmp 195), type := 0, pos := "law.go:77", after := #[{ on := 18, ground := Ground.data }, { on := 16, ground := Ground.guard }], guard := some (16, true) }) (v := ?va19) rfl (by kernel_rfl) (by kernel_rfl) (by kernel_rfl) (fun _ _ _ h => h) (Or.inl ⟨by rfl, ?ha19⟩) (by assumption) ?ra19
            case ha19 => (intro wz hSw; (try dsimp only at hSw); go_simp <;> with_reducible rfl)
            try simp only [Act.put, List.setIfInBounds_toArray, List.set_cons_zero, List.set_cons_succ]
            refine wpAnyH_take (i := 20) (oi := { dst := some 197, op := Op.fieldAddr 55 (Operand.tmp 196) 0, type := 0, pos := "law.go:77", after := #[{ on := 19, ground := Ground.data }, { on := 16, ground := Ground.guard }], guard := some (16, true) }) (v := ?va20) rfl (by kernel_rfl) (by kernel_rfl) (by kernel_rfl) (fun _ _ _ h => h) (Or.inl ⟨by rfl, ?ha20⟩) (by assumption) ?ra20
            case ha20 => (intro wz hSw; (try dsimp only at hSw); go_simp <;> with_reducible rfl)
            try simp only [Act.put, List.setIfInBounds_toArray, List.set_cons_zero, List.set_cons_succ]
            refine wpAnyH_take (i := 21) (oi := { dst := some 198, op := Op.load 53 (Operand.tmp 197), type := 53, pos := "law.go:77", after := #[{ on := 20, ground := Ground.data }, { on := 16, ground := Ground.guard }], guard := some (16, true) }) (v := ?va21) rfl (by kernel_rfl) (by kernel_rfl) (by kernel_rfl) (fun _ _ _ h => h) (Or.inl ⟨by rfl, ?ha21⟩) (by assumption) ?ra21
            case ha21 => (intro wz hSw; (try dsimp only at hSw); go_simp <;> with_reducible rfl)
            try simp only [Act.put, List.setIfInBounds_toArray, List.set_cons_zero, List.set_cons_succ]
            refine wpAnyH_take (i := 22) (oi := { dst := some 199, op := Op.fieldAddr 43 (Operand.tmp 10) 1, type := 0, pos := "law.go:77", after := #[{ on := 16, ground := Ground.guard }], guard := some (16, true) }) (v := ?va22) rfl (by kernel_rfl) (by kernel_rfl) (by kernel_rfl) (fun _ _ _ h => h) (Or.inl ⟨by rfl, ?ha22⟩) (by assumption) ?ra22
            case ha22 => (intro wz hSw; (try dsimp only at hSw); go_simp <;> with_reducible rfl)
            try simp only [Act.put, List.setIfInBounds_toArray, List.set_cons_zero, List.set_cons_succ]
            refine wpAnyH_take (i := 23) (oi := { dst := some 200, op := Op.load 3 (Operand.tmp 199), type := 3, pos := "law.go:77", after := #[{ on := 22, ground := Ground.data }, { on := 16, ground := Ground.guard }], guard := some (16, true) }) (v := ?va23) rfl (by kernel_rfl) (by kernel_rfl) (by kernel_rfl) (fun _ _ _ h => h) (Or.inl ⟨by rfl, ?ha23⟩) (by assumption) ?ra23
            case ha23 => (intro wz hSw; (try dsimp only at hSw); go_simp <;> with_reducible rfl)
            try simp only [Act.put, List.setIfInBounds_toArray, List.set_cons_zero, List.set_cons_succ]
            refine wpAnyH_take (i := 24) (oi := { dst := some 201, op := Op.indexAddr 53 (Operand.tmp 198) (Operand.tmp 200), type := 0, pos := "law.go:77", after := #[{ on := 21, ground := Ground.data }, { on := 23, ground := Ground.data }, { on := 16, ground := Ground.guard }], guard := some (16, true) }) (v := ?va24) rfl (by kernel_rfl) (by kernel_rfl) (by kernel_rfl) (fun _ _ _ h => h) (Or.inl ⟨by rfl, ?ha24⟩) (by assumption) ?ra24
            case ha24 => (intro wz hSw; (try dsimp only at hSw); go_simp <;> with_reducible rfl)
            try simp only [Act.put, List.setIfInBounds_toArray, List.set_cons_zero, List.set_cons_succ]
            refine wpAnyH_take (i := 25) (oi := { dst := some 202, op := Op.load 23 (Operand.tmp 201), type := 23, pos := "law.go:77", after := #[{ on := 24, ground := Ground.data }, { on := 16, ground := Ground.guard }], guard := some (16, true) }) (v := ?va25) rfl (by kernel_rfl) (by kernel_rfl) (by kernel_rfl) (fun _ _ _ h => h) (Or.inl ⟨by rfl, ?ha25⟩) (by assumption) ?ra25
            case ha25 => (intro wz hSw; (try dsimp only at hSw); go_simp <;> with_reducible rfl)
            try simp only [Act.put, List.setIfInBounds_toArray, List.set_cons_zero, List.set_cons_succ]
            refine wpAnyH_ready (rs := [26]) (by kernel_rfl) (by simp) ?_
            refine AllReadyH.cons (o := { dst := some 203, op := Op.call { callee := Callee.value (Operand.func 8), args := #[Operand.tmp 202], argTypes := #[23] }, type := 27, pos := "law.go:77", after := #[{ on := 25, ground := Ground.data }, { on := 16, ground := Ground.chain }, { on := 16, ground := Ground.guard }], guard := some (16, true) }) rfl (fun K hK => ?_) AllReadyH.nil
            go_simp
            refine (I2.out v7 _ _ Q7.out ?_ o1).mono ?_
            exact ⟨rfl, rfl, rfl, rfl⟩
            rintro e v8 ⟨rfl, q8, e8⟩
            obtain ⟨o0, o1, o2, o3, o4, o5, o6, o7, o8, o9, o10, o11, o12, o13⟩ := CS.out v8 _ q8 e8
            have Q8 : Hid (KB w v8 s g r h [(xb, ck.f x, 27), (z, acl y0 y1 y2 y3 y4, 43)] Y2 Y2) := q8
            clear q8 e8
            (try go_wp2_with fail)
            refine hK.out _ _ ?sa26 (fun hHeld => ?ta26)
            case sa26 => go_keep
            clear hK K
            try simp only [Act.put, List.setIfInBounds_toArray, List.set_cons_zero, List.set_cons_succ]
            refine wpAnyH_take (i := 27) (oi := { dst := some 204, op := Op.binOp BinOp.neq 27 (Operand.tmp 194) (Operand.tmp 203) 27, type := 4, pos := "law.go:77", after := #[{ on := 17, ground := Ground.data }, { on := 26, ground := Ground.data }, { on := 16, ground := Ground.guard }], guard := some (16, true) }) (v := ?va27) rfl (by kernel_rfl) (by kernel_rfl) (by kernel_rfl) (fun _ _ _ h => h) (Or.inl ⟨by rfl, ?ha27⟩) (by assumption) ?ra27
            case ha27 => (intro wz hSw; (try dsimp only at hSw); go_simp <;> with_reducible rfl)
            try simp only [Act.put, List.setIfInBounds_toArray, List.set_cons_zero, List.set_cons_succ]
            refine wpAnyH_take (i := 28) (oi := { dst := some 205, op := Op.pick (Operand.tmp 193) (Operand.tmp 204) (Operand.const (Value.bool false)), type := 4, pos := "law.go:77", after := #[{ on := 16, ground := Ground.data }, { on := 27, ground := Ground.data }, { on := 11, ground := Ground.guard }], guard := some (11, false) }) (v := ?va28) rfl (by kernel_rfl) (by kernel_rfl) (by kernel_rfl) (fun _ _ _ h => h) (Or.inl ⟨by rfl, ?ha28⟩) (by assumption) ?ra28
            case ha28 => (intro wz hSw; (try dsimp only at hSw); go_simp <;> with_reducible rfl)
            try simp only [Act.put, List.setIfInBounds_toArray, List.set_cons_zero, List.set_cons_succ]
            refine wpAnyH_take (i := 29) (oi := { dst := some 206, op := Op.pick (Operand.tmp 188) (Operand.const (Value.bool true)) (Operand.tmp 205), type := 4, pos := "law.go:77", after := #[{ on := 11, ground := Ground.data }, { on := 28, ground := Ground.data }], guard := none }) (v := ?va29) rfl (by kernel_rfl) (by kernel_rfl) (by kernel_rfl) (fun _ _ _ h => h) (Or.inl ⟨by rfl, ?ha29⟩) (by assumption) ?ra29
            case ha29 => (intro wz hSw; (try dsimp only at hSw); go_simp <;> with_reducible rfl)
            try simp only [Act.put, List.setIfInBounds_toArray, List.set_cons_zero, List.set_cons_succ]
            refine wpAnyH_take (i := 30) (oi := { dst := some 207, op := Op.move (Operand.tmp 206), type := 4, pos := "law.go:77", after := #[{ on := 29, ground := Ground.data }, { on := 26, ground := Ground.chain }], guard := none }) (v := ?va30) rfl (by kernel_rfl) (by kernel_rfl) (by kernel_rfl) (fun _ _ _ h => h) (Or.inl ⟨by rfl, ?ha30⟩) (by assumption) ?ra30
            case ha30 => (intro wz hSw; (try dsimp only at hSw); go_simp <;> with_reducible rfl)
            try simp only [Act.put, List.setIfInBounds_toArray, List.set_cons_zero, List.set_cons_succ]
            refine wpAnyH_take (i := 31) (oi := { dst := some 208, op := Op.move (Operand.tmp 7), type := 39, pos := "law.go:77", after := #[{ on := 30, ground := Ground.guard }], guard := some (30, false) }) (v := ?va31) rfl (by kernel_rfl) (by kernel_rfl) (by kernel_rfl) (fun _ _ _ h => h) (Or.inl ⟨by rfl, ?ha31⟩) (by assumption) ?ra31
            case ha31 => (intro wz hSw; (try dsimp only at hSw); go_simp <;> with_reducible rfl)
            try simp only [Act.put, List.setIfInBounds_toArray, List.set_cons_zero, List.set_cons_succ]
            refine wpAnyH_take (i := 32) (oi := { dst := some 209, op := Op.fieldAddr 43 (Operand.tmp 10) 1, type := 0, pos := "law.go:77", after := #[{ on := 30, ground := Ground.guard }], guard := some (30, false) }) (v := ?va32) rfl (by kernel_rfl) (by kernel_rfl) (by kernel_rfl) (fun _ _ _ h => h) (Or.inl ⟨by rfl, ?ha32⟩) (by assumption) ?ra32
            case ha32 => (intro wz hSw; (try dsimp only at hSw); go_simp <;> with_reducible rfl)
            try simp only [Act.put, List.setIfInBounds_toArray, List.set_cons_zero, List.set_cons_succ]
            refine wpAnyH_take (i := 33) (oi := { dst := some 210, op := Op.load 3 (Operand.tmp 209), type := 3, pos := "law.go:77", after := #[{ on := 32, ground := Ground.data }, { on := 30, ground := Ground.guard }], guard := some (30, false) }) (v := ?va33) rfl (by kernel_rfl) (by kernel_rfl) (by kernel_rfl) (fun _ _ _ h => h) (Or.inl ⟨by rfl, ?ha33⟩) (by assumption) ?ra33
            case ha33 => (intro wz hSw; (try dsimp only at hSw); go_simp <;> with_reducible rfl)
            try simp only [Act.put, List.setIfInBounds_toArray, List.set_cons_zero, List.set_cons_succ]
            refine wpAnyH_ready (rs := [34]) (by kernel_rfl) (by simp) ?_
            refine AllReadyH.cons (o := { dst := some 211, op := Op.call { callee := Callee.value (Operand.func 25), args := #[Operand.tmp 208, Operand.tmp 210], argTypes := #[39, 3] }, type := 4, pos := "law.go:77", after := #[{ on := 31, ground := Ground.data }, { on := 33, ground := Ground.data }, { on := 30, ground := Ground.chain }, { on := 30, ground := Ground.guard }], guard := some (30, false) }) rfl (fun K hK => ?_) AllReadyH.nil
            go_simp
            refine (I1.out v8 _ Q8.out ?_).mono ?_
            exact ⟨rfl, rfl, rfl, rfl⟩
            rintro e v9 ⟨rfl, q9, e9⟩
            have o1' : v9.cell? ⟨r, 0, none⟩ = some (.slice (some ⟨h, 0, none⟩) nY cap) := (World.cell?_of_block (w := v8) (by rw [e9])).trans o1
            obtain ⟨o0, o1, o2, o3, o4, o5, o6, o7, o8, o9, o10, o11, o12, o13⟩ := CS.out v9 _ q9 o1'
            have Q9 : Hid (KB w v9 s g r h [(xb, ck.f x, 27), (z, acl y0 y1 y2 y3 y4, 43)] Y2 Y2) := q9
            clear q9 e9 o1'
            (try go_wp2_with fail)
            refine hK.out _ _ ?sa34 (fun hHeld => ?ta34)
            case sa34 => go_keep
            clear hK K
            try simp only [Act.put, List.setIfInBounds_toArray, List.set_cons_zero, List.set_cons_succ]
            refine wpAnyH_take (i := 35) (oi := { dst := some 212, op := Op.unOp UnOp.not 4 (Operand.tmp 211), type := 4, pos := "law.go:77", after := #[{ on := 34, ground := Ground.data }, { on := 30, ground := Ground.guard }], guard := some (30, false) }) (v := ?va35) rfl (by kernel_rfl) (by kernel_rfl) (by kernel_rfl) (fun _ _ _ h => h) (Or.inl ⟨by rfl, ?ha35⟩) (by assumption) ?ra35
            case ha35 => (intro wz hSw; (try dsimp only at hSw); go_simp <;> with_reducible rfl)
            try simp only [Act.put, List.setIfInBounds_toArray, List.set_cons_zero, List.set_cons_succ]
            refine wpAnyH_take (i := 36) (oi := { dst := some 213, op := Op.move (Operand.tmp 212), type := 4, pos := "law.go:77", after := #[{ on := 35, ground := Ground.data }, { on := 34, ground := Ground.chain }, { on := 30, ground := Ground.guard }], guard := some (30, false) }) (v := ?va36) rfl (by kernel_rfl) (by kernel_rfl) (by kernel_rfl) (fun _ _ _ h => h) (Or.inl ⟨by rfl, ?ha36⟩) (by assumption) ?ra36
            case ha36 => (intro wz hSw; (try dsimp only at hSw); go_simp <;> with_reducible rfl)
            try simp only [Act.put, List.setIfInBounds_toArray, List.set_cons_zero, List.set_cons_succ]
            refine wpAnyH_take (i := 37) (oi := { dst := some 214, op := Op.move (Operand.tmp 23), type := 36, pos := "law.go:77", after := #[{ on := 36, ground := Ground.guard }], guard := some (36, true) }) (v := undef) rfl (by kernel_rfl) (by kernel_rfl) (by kernel_rfl) (fun _ _ _ h => h) (Or.inr ⟨by rfl, rfl⟩) (by assumption) ?_
            try simp only [Act.put, List.setIfInBounds_toArray, List.set_cons_zero, List.set_cons_succ]
            refine wpAnyH_take (i := 38) (oi := { dst := some 215, op := Op.binOp BinOp.neq 36 (Operand.tmp 214) (Operand.const (Value.int IntKind.i64 3)) 36, type := 4, pos := "law.go:77", after := #[{ on := 37, ground := Ground.data }, { on := 36, ground := Ground.guard }], guard := some (36, true) }) (v := undef) rfl (by kernel_rfl) (by kernel_rfl) (by kernel_rfl) (fun _ _ _ h => h) (Or.inr ⟨by rfl, rfl⟩) (by assumption) ?_
            try simp only [Act.put, List.setIfInBounds_toArray, List.set_cons_zero, List.set_cons_succ]
            refine wpAnyH_take (i := 39) (oi := { dst := some 216, op := Op.pick (Operand.tmp 213) (Operand.tmp 215) (Operand.const (Value.bool false)), type := 4, pos := "law.go:77", after := #[{ on := 36, ground := Ground.data }, { on := 38, ground := Ground.data }, { on := 30, ground := Ground.guard }], guard := some (30, false) }) (v := ?va39) rfl (by kernel_rfl) (by kernel_rfl) (by kernel_rfl) (fun _ _ _ h => h) (Or.inl ⟨by rfl, ?ha39⟩) (by assumption) ?ra39
            case ha39 => (intro wz hSw; (try dsimp only at hSw); go_simp <;> with_reducible rfl)
            try simp only [Act.put, List.setIfInBounds_toArray, List.set_cons_zero, List.set_cons_succ]
            refine wpAnyH_take (i := 40) (oi := { dst := some 217, op := Op.pick (Operand.tmp 207) (Operand.const (Value.bool true)) (Operand.tmp 216), type := 4, pos := "law.go:77", after := #[{ on := 30, ground := Ground.data }, { on := 39, ground := Ground.data }], guard := none }) (v := ?va40) rfl (by kernel_rfl) (by kernel_rfl) (by kernel_rfl) (fun _ _ _ h => h) (Or.inl ⟨by rfl, ?ha40⟩) (by assumption) ?ra40
            case ha40 => (intro wz hSw; (try dsimp only at hSw); go_simp <;> with_reducible rfl)
            try simp only [Act.put, List.setIfInBounds_toArray, List.set_cons_zero, List.set_cons_succ]
            refine wpAnyH_done (by kernel_rfl) ?_ _
            go_wp2
            go_roundw
            case rel => exact ⟨k + 1, Y2, by omega, by omega, (Q9.out.sm ⟨rfl, rfl, rfl, rfl⟩).drop.drop, by go_num⟩
            case measure => simp [intOf]; omega
          | false =>
            as_aux_lemma =>
            rw [show inE Y2 y1 = 3 by unfold inE; rw [ik]; rfl] at G
            have IK : Hid (isk Y2.length y1 = false) := ik
            clear ik
            go_wp2_with fail
            refine (G.out _ ⟨rfl, rfl, rfl, rfl⟩).mono ?_
            rintro e v3 ⟨rfl, q3⟩
            have q4 := q3.box (ck.f x) 27
            have q5 : KB w (v3.alloc (.cells #[.bool x.p, .bool x.i, .int .i64 x.way, .int .i64 x.since, .int .i64 x.steps, .int .i64 x.busy] 27)) s g r h [(v3.heap.size, ck.f x, 27), (z, acl y0 y1 y2 y3 y4, 43)] Y2 Y2 := q4
            obtain ⟨xb, hxb⟩ : ∃ xb, v3.heap.size = xb := ⟨_, rfl⟩
            obtain ⟨u5, hu5⟩ : ∃ u5, v3.alloc (.cells #[.bool x.p, .bool x.i, .int .i64 x.way, .int .i64 x.since, .int .i64 x.steps, .int .i64 x.busy] 27) = u5 := ⟨_, rfl⟩
            rw [hu5, hxb] at q5
            have HU5 : Hid (v3.alloc (.cells #[.bool x.p, .bool x.i, .int .i64 x.way, .int .i64 x.since, .int .i64 x.steps, .int .i64 x.busy] 27) = u5) := hu5
            have HXB : Hid (v3.heap.size = xb) := hxb
            have Q5 : Hid (KB w u5 s g r h [(z, acl y0 y1 y2 y3 y4, 43)] Y2 Y2) := q5.drop
            have I1 : Hid (∀ u w1, KB w u s g r h [(z, acl y0 y1 y2 y3 y4, 43)] Y2 Y2 → Sm w1 u → Calls Try.prog 25 #[.pointer (some ⟨r, 0, none⟩), .int .i64 y1] w1 fun e w' => e = .returned (.bool false) ∧ KB w w' s g r h [(z, acl y0 y1 y2 y3 y4, 43)] Y2 Y2) := fun u w1 q e => (ris_any w1 r h Y2 y1 (q.sm e).d).mono fun _ _ ⟨r1, r2⟩ => by
              rw [IK.out] at r1
              subst r2
              exact ⟨r1, q.sm e⟩
            have CS : Hid (∀ u, KB w u s g r h [(z, acl y0 y1 y2 y3 y4, 43)] Y2 Y2 → u.cell? ⟨z, 1, none⟩ = some (.int .i64 y1)) := fun u q => (q.act (z := z) (y0 := y0) (y1 := y1) (y2 := y2) (y3 := y3) (y4 := y4) (t := 43) (by simp)).2.1
            have o0 := CS.out u5 q5.drop
            clear q3 q4 q5 hu5 hxb
            go_wp2_with fail
            rw [HU5.out, HXB.out]
            refine wp_region_held_drew (S := fun w' => w'.cell? ⟨z, 1, none⟩ = some (.int .i64 y1)) (by kernel_rfl) (by go_keep) (fun hHeld => ?_)
            refine wpAnyH_take (i := 0) (oi := { dst := some 177, op := Op.move (Operand.tmp 11), type := 4, pos := "law.go:77", after := #[], guard := none }) (v := ?vb0) rfl (by kernel_rfl) (by kernel_rfl) (by kernel_rfl) (fun _ _ _ h => h) (Or.inl ⟨by rfl, ?hb0⟩) (by assumption) ?rb0
            case hb0 => (intro wz hSw; (try dsimp only at hSw); go_simp <;> with_reducible rfl)
            try simp only [Act.put, List.setIfInBounds_toArray, List.set_cons_zero, List.set_cons_succ]
            refine wpAnyH_take (i := 1) (oi := { dst := some 178, op := Op.unOp UnOp.not 4 (Operand.tmp 177), type := 4, pos := "law.go:77", after := #[{ on := 0, ground := Ground.data }], guard := none }) (v := ?vb1) rfl (by kernel_rfl) (by kernel_rfl) (by kernel_rfl) (fun _ _ _ h => h) (Or.inl ⟨by rfl, ?hb1⟩) (by assumption) ?rb1
            case hb1 => (intro wz hSw; (try dsimp only at hSw); go_simp <;> with_reducible rfl)
            try simp only [Act.put, List.setIfInBounds_toArray, List.set_cons_zero, List.set_cons_succ]
            refine wpAnyH_take (i := 2) (oi := { dst := some 179, op := Op.move (Operand.tmp 178), type := 4, pos := "law.go:77", after := #[{ on := 1, ground := Ground.data }], guard := none }) (v := ?vb2) rfl (by kernel_rfl) (by kernel_rfl) (by kernel_rfl) (fun _ _ _ h => h) (Or.inl ⟨by rfl, ?hb2⟩) (by assumption) ?rb2
            case hb2 => (intro wz hSw; (try dsimp only at hSw); go_simp <;> with_reducible rfl)
            try simp only [Act.put, List.setIfInBounds_toArray, List.set_cons_zero, List.set_cons_succ]
            refine wpAnyH_take (i := 3) (oi := { dst := some 180, op := Op.move (Operand.tmp 7), type := 39, pos := "law.go:77", after := #[{ on := 2, ground := Ground.guard }], guard := some (2, false) }) (v := ?vb3) rfl (by kernel_rfl) (by kernel_rfl) (by kernel_rfl) (fun _ _ _ h => h) (Or.inl ⟨by rfl, ?hb3⟩) (by assumption) ?rb3
            case hb3 => (intro wz hSw; (try dsimp only at hSw); go_simp <;> with_reducible rfl)
            try simp only [Act.put, List.setIfInBounds_toArray, List.set_cons_zero, List.set_cons_succ]
            refine wpAnyH_take (i := 4) (oi := { dst := some 181, op := Op.fieldAddr 43 (Operand.tmp 10) 1, type := 0, pos := "law.go:77", after := #[{ on := 2, ground := Ground.guard }], guard := some (2, false) }) (v := ?vb4) rfl (by kernel_rfl) (by kernel_rfl) (by kernel_rfl) (fun _ _ _ h => h) (Or.inl ⟨by rfl, ?hb4⟩) (by assumption) ?rb4
            case hb4 => (intro wz hSw; (try dsimp only at hSw); go_simp <;> with_reducible rfl)
            try simp only [Act.put, List.setIfInBounds_toArray, List.set_cons_zero, List.set_cons_succ]
            refine wpAnyH_take (i := 5) (oi := { dst := some 182, op := Op.load 3 (Operand.tmp 181), type := 3, pos := "law.go:77", after := #[{ on := 4, ground := Ground.data }, { on := 2, ground := Ground.guard }], guard := some (2, false) }) (v := ?vb5) rfl (by kernel_rfl) (by kernel_rfl) (by kernel_rfl) (fun _ _ _ h => h) (Or.inl ⟨by rfl, ?hb5⟩) (by assumption) ?rb5
            case hb5 => (intro wz hSw; (try dsimp only at hSw); go_simp <;> with_reducible rfl)
            try simp only [Act.put, List.setIfInBounds_toArray, List.set_cons_zero, List.set_cons_succ]
            refine wpAnyH_take (i := 7) (oi := { dst := some 184, op := Op.move (Operand.tmp 23), type := 36, pos := "law.go:77", after := #[{ on := 2, ground := Ground.guard }], guard := some (2, false) }) (v := ?vb7) rfl (by kernel_rfl) (by kernel_rfl) (by kernel_rfl) (fun _ _ _ h => h) (Or.inl ⟨by rfl, ?hb7⟩) (by assumption) ?rb7
            case hb7 => (intro wz hSw; (try dsimp only at hSw); go_simp <;> with_reducible rfl)
            try simp only [Act.put, List.setIfInBounds_toArray, List.set_cons_zero, List.set_cons_succ]
            refine wpAnyH_take (i := 8) (oi := { dst := some 185, op := Op.binOp BinOp.eql 36 (Operand.tmp 184) (Operand.const (Value.int IntKind.i64 0)) 36, type := 4, pos := "law.go:77", after := #[{ on := 7, ground := Ground.data }, { on := 2, ground := Ground.guard }], guard := some (2, false) }) (v := ?vb8) rfl (by kernel_rfl) (by kernel_rfl) (by kernel_rfl) (fun _ _ _ h => h) (Or.inl ⟨by rfl, ?hb8⟩) (by assumption) ?rb8
            case hb8 => (intro wz hSw; (try dsimp only at hSw); go_simp <;> with_reducible rfl)
            try simp only [Act.put, List.setIfInBounds_toArray, List.set_cons_zero, List.set_cons_succ]
            refine wpAnyH_ready (rs := [6]) (by kernel_rfl) (by simp) ?_
            refine AllReadyH.cons (o := { dst := some 183, op := Op.call { callee := Callee.value (Operand.func 25), args := #[Operand.tmp 180, Operand.tmp 182], argTypes := #[39, 3] }, type := 4, pos := "law.go:77", after := #[{ on := 3, ground := Ground.data }, { on := 5, ground := Ground.data }, { on := 2, ground := Ground.chain }, { on := 2, ground := Ground.guard }], guard := some (2, false) }) rfl (fun K hK => ?_) AllReadyH.nil
            go_simp
            refine (I1.out u5 _ Q5.out ?_).mono ?_
            exact ⟨rfl, rfl, rfl, rfl⟩
            rintro e v6 ⟨rfl, q6⟩
            have o0 := CS.out v6 q6
            have Q6 : Hid (KB w v6 s g r h [(z, acl y0 y1 y2 y3 y4, 43)] Y2 Y2) := q6
            clear q6
            (try go_wp2_with fail)
            refine hK.out _ _ ?sb6 (fun hHeld => ?tb6)
            case sb6 => go_keep
            clear hK K
            try simp only [Act.put, List.setIfInBounds_toArray, List.set_cons_zero, List.set_cons_succ]
            refine wpAnyH_take (i := 9) (oi := { dst := some 186, op := Op.binOp BinOp.neq 4 (Operand.tmp 183) (Operand.tmp 185) 4, type := 4, pos := "law.go:77", after := #[{ on := 6, ground := Ground.data }, { on := 8, ground := Ground.data }, { on := 2, ground := Ground.guard }], guard := some (2, false) }) (v := ?vb9) rfl (by kernel_rfl) (by kernel_rfl) (by kernel_rfl) (fun _ _ _ h => h) (Or.inl ⟨by rfl, ?hb9⟩) (by assumption) ?rb9
            case hb9 => (intro wz hSw; (try dsimp only at hSw); go_simp <;> with_reducible rfl)
            try simp only [Act.put, List.setIfInBounds_toArray, List.set_cons_zero, List.set_cons_succ]
            refine wpAnyH_take (i := 10) (oi := { dst := some 187, op := Op.pick (Operand.tmp 179) (Operand.const (Value.bool true)) (Operand.tmp 186), type := 4, pos := "law.go:77", after := #[{ on := 2, ground := Ground.data }, { on := 9, ground := Ground.data }], guard := none }) (v := ?vb10) rfl (by kernel_rfl) (by kernel_rfl) (by kernel_rfl) (fun _ _ _ h => h) (Or.inl ⟨by rfl, ?hb10⟩) (by assumption) ?rb10
            case hb10 => (intro wz hSw; (try dsimp only at hSw); go_simp <;> with_reducible rfl)
            try simp only [Act.put, List.setIfInBounds_toArray, List.set_cons_zero, List.set_cons_succ]
            refine wpAnyH_take (i := 11) (oi := { dst := some 188, op := Op.move (Operand.tmp 187), type := 4, pos := "law.go:77", after := #[{ on := 10, ground := Ground.data }, { on := 6, ground := Ground.chain }], guard := none }) (v := ?vb11) rfl (by kernel_rfl) (by kernel_rfl) (by kernel_rfl) (fun _ _ _ h => h) (Or.inl ⟨by rfl, ?hb11⟩) (by assumption) ?rb11
            case hb11 => (intro wz hSw; (try dsimp only at hSw); go_simp <;> with_reducible rfl)
            try simp only [Act.put, List.setIfInBounds_toArray, List.set_cons_zero, List.set_cons_succ]
            refine wpAnyH_take (i := 12) (oi := { dst := some 189, op := Op.move (Operand.tmp 7), type := 39, pos := "law.go:77", after := #[{ on := 11, ground := Ground.guard }], guard := some (11, false) }) (v := ?vb12) rfl (by kernel_rfl) (by kernel_rfl) (by kernel_rfl) (fun _ _ _ h => h) (Or.inl ⟨by rfl, ?hb12⟩) (by assumption) ?rb12
            case hb12 => (intro wz hSw; (try dsimp only at hSw); go_simp <;> with_reducible rfl)
            try simp only [Act.put, List.setIfInBounds_toArray, List.set_cons_zero, List.set_cons_succ]
            refine wpAnyH_take (i := 13) (oi := { dst := some 190, op := Op.fieldAddr 43 (Operand.tmp 10) 1, type := 0, pos := "law.go:77", after := #[{ on := 11, ground := Ground.guard }], guard := some (11, false) }) (v := ?vb13) rfl (by kernel_rfl) (by kernel_rfl) (by kernel_rfl) (fun _ _ _ h => h) (Or.inl ⟨by rfl, ?hb13⟩) (by assumption) ?rb13
            case hb13 => (intro wz hSw; (try dsimp only at hSw); go_simp <;> with_reducible rfl)
            try simp only [Act.put, List.setIfInBounds_toArray, List.set_cons_zero, List.set_cons_succ]
            refine wpAnyH_take (i := 14) (oi := { dst := some 191, op := Op.load 3 (Operand.tmp 190), type := 3, pos := "law.go:77", after := #[{ on := 13, ground := Ground.data }, { on := 11, ground := Ground.guard }], guard := some (11, false) }) (v := ?vb14) rfl (by kernel_rfl) (by kernel_rfl) (by kernel_rfl) (fun _ _ _ h => h) (Or.inl ⟨by rfl, ?hb14⟩) (by assumption) ?rb14
            case hb14 => (intro wz hSw; (try dsimp only at hSw); go_simp <;> with_reducible rfl)
            try simp only [Act.put, List.setIfInBounds_toArray, List.set_cons_zero, List.set_cons_succ]
            refine wpAnyH_ready (rs := [15]) (by kernel_rfl) (by simp) ?_
            refine AllReadyH.cons (o := { dst := some 192, op := Op.call { callee := Callee.value (Operand.func 25), args := #[Operand.tmp 189, Operand.tmp 191], argTypes := #[39, 3] }, type := 4, pos := "law.go:77", after := #[{ on := 12, ground := Ground.data }, { on := 14, ground := Ground.data }, { on := 11, ground := Ground.chain }, { on := 11, ground := Ground.guard }], guard := some (11, false) }) rfl (fun K hK => ?_) AllReadyH.nil
            go_simp
            refine (I1.out v6 _ Q6.out ?_).mono ?_
            exact ⟨rfl, rfl, rfl, rfl⟩
            rintro e v7 ⟨rfl, q7⟩
            have o0 := CS.out v7 q7
            have Q7 : Hid (KB w v7 s g r h [(z, acl y0 y1 y2 y3 y4, 43)] Y2 Y2) := q7
            clear q7
            (try go_wp2_with fail)
            refine hK.out _ _ ?sb15 (fun hHeld => ?tb15)
            case sb15 => go_keep
            clear hK K
            try simp only [Act.put, List.setIfInBounds_toArray, List.set_cons_zero, List.set_cons_succ]
            refine wpAnyH_take (i := 16) (oi := { dst := some 193, op := Op.move (Operand.tmp 192), type := 4, pos := "law.go:77", after := #[{ on := 15, ground := Ground.data }, { on := 15, ground := Ground.chain }, { on := 11, ground := Ground.guard }], guard := some (11, false) }) (v := ?vb16) rfl (by kernel_rfl) (by kernel_rfl) (by kernel_rfl) (fun _ _ _ h => h) (Or.inl ⟨by rfl, ?hb16⟩) (by assumption) ?rb16
            case hb16 => (intro wz hSw; (try dsimp only at hSw); go_simp <;> with_reducible rfl)
            try simp only [Act.put, List.setIfInBounds_toArray, List.set_cons_zero, List.set_cons_succ]
            refine wpAnyH_take (i := 17) (oi := { dst := some 194, op := Op.load 27 (Operand.tmp 22), type := 27, pos := "law.go:77", after := #[{ on := 16, ground := Ground.guard }], guard := some (16, true) }) (v := undef) rfl (by kernel_rfl) (by kernel_rfl) (by kernel_rfl) (fun _ _ _ h => h) (Or.inr ⟨by rfl, rfl⟩) (by assumption) ?_
            try simp only [Act.put, List.setIfInBounds_toArray, List.set_cons_zero, List.set_cons_succ]
            refine wpAnyH_take (i := 18) (oi := { dst := some 195, op := Op.move (Operand.tmp 7), type := 39, pos := "law.go:77", after := #[{ on := 16, ground := Ground.guard }], guard := some (16, true) }) (v := undef) rfl (by kernel_rfl) (by kernel_rfl) (by kernel_rfl) (fun _ _ _ h => h) (Or.inr ⟨by rfl, rfl⟩) (by assumption) ?_
            try simp only [Act.put, List.setIfInBounds_toArray, List.set_cons_zero, List.set_cons_succ]
            refine wpAnyH_take (i := 19) (oi := { dst := some 196, op := Op.nilCheck (Operand.tmp 195), type := 0, pos := "law.go:77", after := #[{ on := 18, ground := Ground.data }, { on := 16, ground := Ground.guard }], guard := some (16, true) }) (v := undef) rfl (by kernel_rfl) (by kernel_rfl) (by kernel_rfl) (fun _ _ _ h => h) (Or.inr ⟨by rfl, rfl⟩) (by assumption) ?_
            try simp only [Act.put, List.setIfInBounds_toArray, List.set_cons_zero, List.set_cons_succ]
            refine wpAnyH_take (i := 20) (oi := { dst := some 197, op := Op.fieldAddr 55 (Operand.tmp 196) 0, type := 0, pos := "law.go:77", after := #[{ on := 19, ground := Ground.data }, { on := 16, ground := Ground.guard }], guard := some (16, true) }) (v := undef) rfl (by kernel_rfl) (by kernel_rfl) (by kernel_rfl) (fun _ _ _ h => h) (Or.inr ⟨by rfl, rfl⟩) (by assumption) ?_
            try simp only [Act.put, List.setIfInBounds_toArray, List.set_cons_zero, List.set_cons_succ]
            refine wpAnyH_take (i := 21) (oi := { dst := some 198, op := Op.load 53 (Operand.tmp 197), type := 53, pos := "law.go:77", after := #[{ on := 20, ground := Ground.data }, { on := 16, ground := Ground.guard }], guard := some (16, true) }) (v := undef) rfl (by kernel_rfl) (by kernel_rfl) (by kernel_rfl) (fun _ _ _ h => h) (Or.inr ⟨by rfl, rfl⟩) (by assumption) ?_
            try simp only [Act.put, List.setIfInBounds_toArray, List.set_cons_zero, List.set_cons_succ]
            refine wpAnyH_take (i := 22) (oi := { dst := some 199, op := Op.fieldAddr 43 (Operand.tmp 10) 1, type := 0, pos := "law.go:77", after := #[{ on := 16, ground := Ground.guard }], guard := some (16, true) }) (v := undef) rfl (by kernel_rfl) (by kernel_rfl) (by kernel_rfl) (fun _ _ _ h => h) (Or.inr ⟨by rfl, rfl⟩) (by assumption) ?_
            try simp only [Act.put, List.setIfInBounds_toArray, List.set_cons_zero, List.set_cons_succ]
            refine wpAnyH_take (i := 23) (oi := { dst := some 200, op := Op.load 3 (Operand.tmp 199), type := 3, pos := "law.go:77", after := #[{ on := 22, ground := Ground.data }, { on := 16, ground := Ground.guard }], guard := some (16, true) }) (v := undef) rfl (by kernel_rfl) (by kernel_rfl) (by kernel_rfl) (fun _ _ _ h => h) (Or.inr ⟨by rfl, rfl⟩) (by assumption) ?_
            try simp only [Act.put, List.setIfInBounds_toArray, List.set_cons_zero, List.set_cons_succ]
            refine wpAnyH_take (i := 24) (oi := { dst := some 201, op := Op.indexAddr 53 (Operand.tmp 198) (Operand.tmp 200), type := 0, pos := "law.go:77", after := #[{ on := 21, ground := Ground.data }, { on := 23, ground := Ground.data }, { on := 16, ground := Ground.guard }], guard := some (16, true) }) (v := undef) rfl (by kernel_rfl) (by kernel_rfl) (by kernel_rfl) (fun _ _ _ h => h) (Or.inr ⟨by rfl, rfl⟩) (by assumption) ?_
            try simp only [Act.put, List.setIfInBounds_toArray, List.set_cons_zero, List.set_cons_succ]
            refine wpAnyH_take (i := 25) (oi := { dst := some 202, op := Op.load 23 (Operand.tmp 201), type := 23, pos := "law.go:77", after := #[{ on := 24, ground := Ground.data }, { on := 16, ground := Ground.guard }], guard := some (16, true) }) (v := undef) rfl (by kernel_rfl) (by kernel_rfl) (by kernel_rfl) (fun _ _ _ h => h) (Or.inr ⟨by rfl, rfl⟩) (by assumption) ?_
            try simp only [Act.put, List.setIfInBounds_toArray, List.set_cons_zero, List.set_cons_succ]
            refine wpAnyH_take (i := 26) (oi := { dst := some 203, op := Op.call { callee := Callee.value (Operand.func 8), args := #[Operand.tmp 202], argTypes := #[23] }, type := 27, pos := "law.go:77", after := #[{ on := 25, ground := Ground.data }, { on := 16, ground := Ground.chain }, { on := 16, ground := Ground.guard }], guard := some (16, true) }) (v := undef) rfl (by kernel_rfl) (by kernel_rfl) (by kernel_rfl) (fun _ _ _ h => h) (Or.inr ⟨by rfl, rfl⟩) (by assumption) ?_
            try simp only [Act.put, List.setIfInBounds_toArray, List.set_cons_zero, List.set_cons_succ]
            refine wpAnyH_take (i := 27) (oi := { dst := some 204, op := Op.binOp BinOp.neq 27 (Operand.tmp 194) (Operand.tmp 203) 27, type := 4, pos := "law.go:77", after := #[{ on := 17, ground := Ground.data }, { on := 26, ground := Ground.data }, { on := 16, ground := Ground.guard }], guard := some (16, true) }) (v := undef) rfl (by kernel_rfl) (by kernel_rfl) (by kernel_rfl) (fun _ _ _ h => h) (Or.inr ⟨by rfl, rfl⟩) (by assumption) ?_
            try simp only [Act.put, List.setIfInBounds_toArray, List.set_cons_zero, List.set_cons_succ]
            refine wpAnyH_take (i := 28) (oi := { dst := some 205, op := Op.pick (Operand.tmp 193) (Operand.tmp 204) (Operand.const (Value.bool false)), type := 4, pos := "law.go:77", after := #[{ on := 16, ground := Ground.data }, { on := 27, ground := Ground.data }, { on := 11, ground := Ground.guard }], guard := some (11, false) }) (v := ?vb28) rfl (by kernel_rfl) (by kernel_rfl) (by kernel_rfl) (fun _ _ _ h => h) (Or.inl ⟨by rfl, ?hb28⟩) (by assumption) ?rb28
            case hb28 => (intro wz hSw; (try dsimp only at hSw); go_simp <;> with_reducible rfl)
            try simp only [Act.put, List.setIfInBounds_toArray, List.set_cons_zero, List.set_cons_succ]
            refine wpAnyH_take (i := 29) (oi := { dst := some 206, op := Op.pick (Operand.tmp 188) (Operand.const (Value.bool true)) (Operand.tmp 205), type := 4, pos := "law.go:77", after := #[{ on := 11, ground := Ground.data }, { on := 28, ground := Ground.data }], guard := none }) (v := ?vb29) rfl (by kernel_rfl) (by kernel_rfl) (by kernel_rfl) (fun _ _ _ h => h) (Or.inl ⟨by rfl, ?hb29⟩) (by assumption) ?rb29
            case hb29 => (intro wz hSw; (try dsimp only at hSw); go_simp <;> with_reducible rfl)
            try simp only [Act.put, List.setIfInBounds_toArray, List.set_cons_zero, List.set_cons_succ]
            refine wpAnyH_take (i := 30) (oi := { dst := some 207, op := Op.move (Operand.tmp 206), type := 4, pos := "law.go:77", after := #[{ on := 29, ground := Ground.data }, { on := 26, ground := Ground.chain }], guard := none }) (v := ?vb30) rfl (by kernel_rfl) (by kernel_rfl) (by kernel_rfl) (fun _ _ _ h => h) (Or.inl ⟨by rfl, ?hb30⟩) (by assumption) ?rb30
            case hb30 => (intro wz hSw; (try dsimp only at hSw); go_simp <;> with_reducible rfl)
            try simp only [Act.put, List.setIfInBounds_toArray, List.set_cons_zero, List.set_cons_succ]
            refine wpAnyH_take (i := 31) (oi := { dst := some 208, op := Op.move (Operand.tmp 7), type := 39, pos := "law.go:77", after := #[{ on := 30, ground := Ground.guard }], guard := some (30, false) }) (v := ?vb31) rfl (by kernel_rfl) (by kernel_rfl) (by kernel_rfl) (fun _ _ _ h => h) (Or.inl ⟨by rfl, ?hb31⟩) (by assumption) ?rb31
            case hb31 => (intro wz hSw; (try dsimp only at hSw); go_simp <;> with_reducible rfl)
            try simp only [Act.put, List.setIfInBounds_toArray, List.set_cons_zero, List.set_cons_succ]
            refine wpAnyH_take (i := 32) (oi := { dst := some 209, op := Op.fieldAddr 43 (Operand.tmp 10) 1, type := 0, pos := "law.go:77", after := #[{ on := 30, ground := Ground.guard }], guard := some (30, false) }) (v := ?vb32) rfl (by kernel_rfl) (by kernel_rfl) (by kernel_rfl) (fun _ _ _ h => h) (Or.inl ⟨by rfl, ?hb32⟩) (by assumption) ?rb32
            case hb32 => (intro wz hSw; (try dsimp only at hSw); go_simp <;> with_reducible rfl)
            try simp only [Act.put, List.setIfInBounds_toArray, List.set_cons_zero, List.set_cons_succ]
            refine wpAnyH_take (i := 33) (oi := { dst := some 210, op := Op.load 3 (Operand.tmp 209), type := 3, pos := "law.go:77", after := #[{ on := 32, ground := Ground.data }, { on := 30, ground := Ground.guard }], guard := some (30, false) }) (v := ?vb33) rfl (by kernel_rfl) (by kernel_rfl) (by kernel_rfl) (fun _ _ _ h => h) (Or.inl ⟨by rfl, ?hb33⟩) (by assumption) ?rb33
            case hb33 => (intro wz hSw; (try dsimp only at hSw); go_simp <;> with_reducible rfl)
            try simp only [Act.put, List.setIfInBounds_toArray, List.set_cons_zero, List.set_cons_succ]
            refine wpAnyH_ready (rs := [34]) (by kernel_rfl) (by simp) ?_
            refine AllReadyH.cons (o := { dst := some 211, op := Op.call { callee := Callee.value (Operand.func 25), args := #[Operand.tmp 208, Operand.tmp 210], argTypes := #[39, 3] }, type := 4, pos := "law.go:77", after := #[{ on := 31, ground := Ground.data }, { on := 33, ground := Ground.data }, { on := 30, ground := Ground.chain }, { on := 30, ground := Ground.guard }], guard := some (30, false) }) rfl (fun K hK => ?_) AllReadyH.nil
            go_simp
            refine (I1.out v7 _ Q7.out ?_).mono ?_
            exact ⟨rfl, rfl, rfl, rfl⟩
            rintro e v9 ⟨rfl, q9⟩
            have o0 := CS.out v9 q9
            have Q9 : Hid (KB w v9 s g r h [(z, acl y0 y1 y2 y3 y4, 43)] Y2 Y2) := q9
            clear q9
            (try go_wp2_with fail)
            refine hK.out _ _ ?sb34 (fun hHeld => ?tb34)
            case sb34 => go_keep
            clear hK K
            try simp only [Act.put, List.setIfInBounds_toArray, List.set_cons_zero, List.set_cons_succ]
            refine wpAnyH_take (i := 35) (oi := { dst := some 212, op := Op.unOp UnOp.not 4 (Operand.tmp 211), type := 4, pos := "law.go:77", after := #[{ on := 34, ground := Ground.data }, { on := 30, ground := Ground.guard }], guard := some (30, false) }) (v := ?vb35) rfl (by kernel_rfl) (by kernel_rfl) (by kernel_rfl) (fun _ _ _ h => h) (Or.inl ⟨by rfl, ?hb35⟩) (by assumption) ?rb35
            case hb35 => (intro wz hSw; (try dsimp only at hSw); go_simp <;> with_reducible rfl)
            try simp only [Act.put, List.setIfInBounds_toArray, List.set_cons_zero, List.set_cons_succ]
            refine wpAnyH_take (i := 36) (oi := { dst := some 213, op := Op.move (Operand.tmp 212), type := 4, pos := "law.go:77", after := #[{ on := 35, ground := Ground.data }, { on := 34, ground := Ground.chain }, { on := 30, ground := Ground.guard }], guard := some (30, false) }) (v := ?vb36) rfl (by kernel_rfl) (by kernel_rfl) (by kernel_rfl) (fun _ _ _ h => h) (Or.inl ⟨by rfl, ?hb36⟩) (by assumption) ?rb36
            case hb36 => (intro wz hSw; (try dsimp only at hSw); go_simp <;> with_reducible rfl)
            try simp only [Act.put, List.setIfInBounds_toArray, List.set_cons_zero, List.set_cons_succ]
            refine wpAnyH_take (i := 37) (oi := { dst := some 214, op := Op.move (Operand.tmp 23), type := 36, pos := "law.go:77", after := #[{ on := 36, ground := Ground.guard }], guard := some (36, true) }) (v := ?vb37) rfl (by kernel_rfl) (by kernel_rfl) (by kernel_rfl) (fun _ _ _ h => h) (Or.inl ⟨by rfl, ?hb37⟩) (by assumption) ?rb37
            case hb37 => (intro wz hSw; (try dsimp only at hSw); go_simp <;> with_reducible rfl)
            try simp only [Act.put, List.setIfInBounds_toArray, List.set_cons_zero, List.set_cons_succ]
            refine wpAnyH_take (i := 38) (oi := { dst := some 215, op := Op.binOp BinOp.neq 36 (Operand.tmp 214) (Operand.const (Value.int IntKind.i64 3)) 36, type := 4, pos := "law.go:77", after := #[{ on := 37, ground := Ground.data }, { on := 36, ground := Ground.guard }], guard := some (36, true) }) (v := ?vb38) rfl (by kernel_rfl) (by kernel_rfl) (by kernel_rfl) (fun _ _ _ h => h) (Or.inl ⟨by rfl, ?hb38⟩) (by assumption) ?rb38
            case hb38 => (intro wz hSw; (try dsimp only at hSw); go_simp <;> with_reducible rfl)
            try simp only [Act.put, List.setIfInBounds_toArray, List.set_cons_zero, List.set_cons_succ]
            refine wpAnyH_take (i := 39) (oi := { dst := some 216, op := Op.pick (Operand.tmp 213) (Operand.tmp 215) (Operand.const (Value.bool false)), type := 4, pos := "law.go:77", after := #[{ on := 36, ground := Ground.data }, { on := 38, ground := Ground.data }, { on := 30, ground := Ground.guard }], guard := some (30, false) }) (v := ?vb39) rfl (by kernel_rfl) (by kernel_rfl) (by kernel_rfl) (fun _ _ _ h => h) (Or.inl ⟨by rfl, ?hb39⟩) (by assumption) ?rb39
            case hb39 => (intro wz hSw; (try dsimp only at hSw); go_simp <;> with_reducible rfl)
            try simp only [Act.put, List.setIfInBounds_toArray, List.set_cons_zero, List.set_cons_succ]
            refine wpAnyH_take (i := 40) (oi := { dst := some 217, op := Op.pick (Operand.tmp 207) (Operand.const (Value.bool true)) (Operand.tmp 216), type := 4, pos := "law.go:77", after := #[{ on := 30, ground := Ground.data }, { on := 39, ground := Ground.data }], guard := none }) (v := ?vb40) rfl (by kernel_rfl) (by kernel_rfl) (by kernel_rfl) (fun _ _ _ h => h) (Or.inl ⟨by rfl, ?hb40⟩) (by assumption) ?rb40
            case hb40 => (intro wz hSw; (try dsimp only at hSw); go_simp <;> with_reducible rfl)
            try simp only [Act.put, List.setIfInBounds_toArray, List.set_cons_zero, List.set_cons_succ]
            refine wpAnyH_done (by kernel_rfl) ?_ _
            go_wp2
            go_roundw
            case rel => exact ⟨k + 1, Y2, by omega, by omega, (Q9.out.sm ⟨rfl, rfl, rfl, rfl⟩).drop, by go_num⟩
            case measure => simp [intOf]; omega

set_option maxRecDepth 100000 in
theorem lifted (os : Os) (started : os.Started) (H : Type) (enc : TypeId × Value → H) :
    ReturnsInHanded {} Try.checked os 4 .any (Rows.corePlaysSpec.pre6 enc Try.prog Try.f4 Rows.corePlaysRow.domain false) (Rows.corePlaysSpec.post enc Try.prog Try.f4 false true false false) := by
  refine returnsInHanded_of_change (C := Try.checked) own started (by kernel_rfl) Try.func4
    (ChangeSpec.witness6 (enc := enc) (C := Try.checked) false ⟨#[], #[.int .i64 0, .slice none 0 0], []⟩ 8 (by kernel_rfl) (by kernel_rfl) (by kernel_rfl) (by kernel_rfl)) ?_
  intro W base args ds gs before hval0 hW hcnd _
  have hval : ∀ (j : Nat) t v, Try.f4.params[j]? = some t → args[j]? = some v → Value.okWide Try.prog W .any base t v := hval0
  have hW' := hW
  obtain ⟨p, q, hA0, hV, rfl, hfz, hnd⟩ := hW
  have hA : DataW.TrodAll enc Try.prog W 0 (fun _ => true) true Try.f4.params.toList args.toList ds p := hA0
  rw [Try.params4] at hA hval
  obtain ⟨v0, vs0, d0, ds0, p0, q0, hargs, rfl, rfl, h0, r0⟩ := trodAll_cons hA
  obtain ⟨v1, vs1, d1, ds1, p1, q1, rfl, rfl, rfl, h1, r1⟩ := trodAll_cons r0
  obtain ⟨rfl, rfl, rfl⟩ := trodAll_nil r1
  obtain rfl : args = #[v0, v1] := by cases args; simp_all
  obtain ⟨rfl, rfl⟩ := trodVars_none hV
  obtain ⟨a0, rfl, rfl, rfl, w0⟩ := open_int Try.underlying3 (hval 0 3 v0 rfl rfl) h0
  obtain ⟨a1, len1, cap1, rfl⟩ := okWide_slice Try.underlying34 (hval 1 34 v1 rfl rfl)
  have k1 := h1
  have lt1 : ∀ x ∈ p1, x.block < W.heap.size := by obtain ⟨m, hm⟩ := k1; exact DataW.trod_lt m _ _ _ hm
  obtain ⟨X1, w1, z1⟩ : ∃ X : Nat → Nat → Int, SRow W (.slice a1 len1 cap1) len1 [true, true, false, true, true] X ∧ ∀ i, i < len1 → ∀ j, j < [true, true, false, true, true].length → [true, true, false, true, true].getD j true = true → (Lit.int .i64 (X i j)).wf = true := by
    obtain ⟨fuel, hf⟩ := h1
    exact open_recs [true, true, false, true, true] Try.underlying34 Try.underlying43 (by kernel_rfl) rfl (by decide) (fun | 0, _ => ⟨_, rfl, rfl, by kernel_rfl, Try.underlying3⟩ | 1, _ => ⟨_, rfl, rfl, by kernel_rfl, Try.underlying3⟩ | 2, _ => ⟨_, rfl, rfl, by kernel_rfl, Try.underlying4⟩ | 3, _ => ⟨_, rfl, rfl, by kernel_rfl, Try.underlying3⟩ | 4, _ => ⟨_, rfl, rfl, by kernel_rfl, Try.underlying2⟩ | n + 5, h => absurd h (by simp only [List.length]; omega)) hf
  clear hA0 hval0
  refine (walk a0 a1 len1 cap1 X1 W w0 w1 z1).mono fun e W' ⟨he, bel⟩ => ?_
  subst he
  exact ⟨_, rfl, _, _, _, [], _, [], hW', trodAll_mk1 (shut_bool Try.underlying4 _), (trodAll_cons_mk (shut_int Try.underlying3 w0) (trodAll_cons_mk (Below.trod laidOut (by kernel_rfl) (of_decide_eq_true (by kernel_rfl)) k1 bel lt1) trodAll_mk0)), rfl, bel.frame _, fun h => by cases h⟩

theorem over : Rows.CorePlaysSaid :=
  OpenClaim.holds_of_wide 4 Try.f4 rfl rfl rfl rfl rfl rfl rfl ⟨rfl, rfl, rfl, rfl, rfl⟩ rfl rfl rfl rfl rfl (by kernel_rfl) Try.func4 (by kernel_rfl)
    (of_decide_eq_true (by kernel_rfl)) (by unfold Func.isWrapper; first | (rw [if_pos (by decide +kernel)]; kernel_rfl) | (rw [if_neg (by decide +kernel)]; exact ⟨rfl, rfl⟩))
    (fun os started H enc _ => lifted os started H enc)
end Go.Proofs.Ytddjkdcbbonjkaa.corePlays

namespace Go.Proofs.Ytddjkdcbbonjkaa
open Go
theorem corePlays_holds : Rows.CorePlaysSaid := corePlays.over
#print axioms corePlays_holds
end Go.Proofs.Ytddjkdcbbonjkaa
