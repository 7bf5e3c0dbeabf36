/- Proved: for every core c and whatever waits for it (f), davitlaw27.CoreStill(c, f) returns true: without power it does nothing; where it is not active nothing but to wake, to acknowledge, and a request's steps; where it rests nothing but to wake, and that where anything waits that it may do. -/
import Derived.Test.YtddjkdcbbonjkaaRows
import Derived.Test.YtddjkdcbbonjkaaFo
import Derived.Test.YtddjkdcbbonjkaaCoL
import Derived.Test.YtddjkdcbbonjkaaCoS
import Derived.WalkKit
import Derived.ProofKit
import Derived.OpenShut
import Derived.Stop.Joined
import Derived.ShutString
import Derived.ChangeOld
import Derived.Below
import Derived.Carry
import Derived.Test.YtddjkdcbbonjkaaFt
import Derived.Deep.RegionHeld3
namespace Go.Proofs.Ytddjkdcbbonjkaa.coreStill
open Go.ChangeShapes Go.WideShapes Go.ChangeAt Go.RowKit
open Co
set_option linter.unusedVariables false
set_option linter.unusedSimpArgs false

theorem own : ownKnob Try.prog.godebug = none := by kernel_rfl
theorem laidOut : laidOutB Try.prog = true := by kernel_rfl

set_option maxRecDepth 100000 in
set_option maxHeartbeats 16000000 in
theorem walk (X0 : Nat → Int) (X1 : Nat → Int) (w : World) (z0 : ∀ j, j < [0, 0, 1, 1, 1, 1].length → kwf ([0, 0, 1, 1, 1, 1].getD j 1) (X0 j)) (z1 : ∀ j, j < [0, 0, 0, 0, 0, 0, 0, 0, 0].length → kwf ([0, 0, 0, 0, 0, 0, 0, 0, 0].getD j 1) (X1 j)) :
    Calls Try.prog 5 #[.agg #[.bool (X0 0 != 0), .bool (X0 1 != 0), .int .i64 (X0 2), .int .i64 (X0 3), .int .i64 (X0 4), .int .i64 (X0 5)], .agg #[.bool (X1 0 != 0), .bool (X1 1 != 0), .bool (X1 2 != 0), .bool (X1 3 != 0), .bool (X1 4 != 0), .bool (X1 5 != 0), .bool (X1 6 != 0), .bool (X1 7 != 0), .bool (X1 8 != 0)]] w fun e w' => e = .returned (.bool true) ∧ Below w.heap.size w w' := by
  obtain ⟨x, hx⟩ : ∃ x : Kc, x = ⟨X0 0 != 0, X0 1 != 0, X0 2, X0 3, X0 4, X0 5⟩ := ⟨_, rfl⟩
  obtain ⟨f, hf⟩ : ∃ f : Fl, f = ⟨X1 0 != 0, X1 1 != 0, X1 2 != 0, X1 3 != 0, X1 4 != 0, X1 5 != 0, X1 6 != 0, X1 7 != 0, X1 8 != 0⟩ := ⟨_, rfl⟩
  have ea : (Value.agg #[.bool (X0 0 != 0), .bool (X0 1 != 0), .int .i64 (X0 2), .int .i64 (X0 3), .int .i64 (X0 4), .int .i64 (X0 5)]) = ckv x := by rw [hx]; rfl
  have eb : (Value.agg #[.bool (X1 0 != 0), .bool (X1 1 != 0), .bool (X1 2 != 0), .bool (X1 3 != 0), .bool (X1 4 != 0), .bool (X1 5 != 0), .bool (X1 6 != 0), .bool (X1 7 != 0), .bool (X1 8 != 0)]) = flv f := by rw [hf]; rfl
  rw [ea, eb]
  clear ea eb hx hf z0 z1
  have C1 : Hid (∀ w, _) := fun w => cores_any x w
  have C2 : Hid (∀ w, _) := fun w => given_any f w
  have C3 : Hid (∀ w, _) := fun w => knext_any x f w
  have C5 : Hid (∀ w, _) := fun w => cknown_yes w
  have ST : Hid ((x.p = false → next x.p x.i f = 0) ∧ (f.act = false → next x.p x.i f ≤ 3) ∧ (x.i = true → next x.p x.i f ≤ 1) ∧ (x.p = true → x.i = true → ((f.stop || (f.hot || (!f.held && (f.act && (f.call || (f.irq || (f.timer || (f.work || f.thr))))))) ) == (next x.p x.i f == 1)) = true)) := still x.p x.i f
  generalize next x.p x.i f = ans at *
  obtain ⟨p, i, y, s, t, b⟩ := x
  obtain ⟨g0, g1, g2, g3, g4, g5, g6, g7, g8⟩ := f
  simp only [ckv, flv] at *
  have A0 : Hid (TwoB w w.heap.size ⟨p, i, y, s, t, b⟩ ⟨g0, g1, g2, g3, g4, g5, g6, g7, g8⟩ ((w.alloc (.cells #[.bool p, .bool i, .int .i64 y, .int .i64 s, .int .i64 t, .int .i64 b] 23)).alloc (.cells #[.bool g0, .bool g1, .bool g2, .bool g3, .bool g4, .bool g5, .bool g6, .bool g7, .bool g8] 25))) := TwoB.start w ⟨p, i, y, s, t, b⟩ ⟨g0, g1, g2, g3, g4, g5, g6, g7, g8⟩
  obtain ⟨z, hz⟩ : ∃ z, w.heap.size = z := ⟨_, rfl⟩
  rw [hz] at A0 ⊢
  obtain ⟨c0, c1, c2, c3, c4, c5, d0, d1, d2, d3, d4, d5, d6, d7, d8⟩ := A0.out.cs
  go_enter Try.func5, Try.ntmps5
  go_wp2_with fail
  go_region_held3 (fun w' => w'.cell? ⟨z, 0, none⟩ = some (.bool p) ∧ w'.cell? ⟨z, 1, none⟩ = some (.bool i) ∧ w'.cell? ⟨z, 2, none⟩ = some (.int .i64 y) ∧ w'.cell? ⟨z, 3, none⟩ = some (.int .i64 s) ∧ w'.cell? ⟨z, 4, none⟩ = some (.int .i64 t) ∧ w'.cell? ⟨z, 5, none⟩ = some (.int .i64 b) ∧ w'.cell? ⟨z + 1, 0, none⟩ = some (.bool g0) ∧ w'.cell? ⟨z + 1, 1, none⟩ = some (.bool g1) ∧ w'.cell? ⟨z + 1, 2, none⟩ = some (.bool g2) ∧ w'.cell? ⟨z + 1, 3, none⟩ = some (.bool g3) ∧ w'.cell? ⟨z + 1, 4, none⟩ = some (.bool g4) ∧ w'.cell? ⟨z + 1, 5, none⟩ = some (.bool g5) ∧ w'.cell? ⟨z + 1, 6, none⟩ = some (.bool g6) ∧ w'.cell? ⟨z + 1, 7, none⟩ = some (.bool g7) ∧ w'.cell? ⟨z + 1, 8, none⟩ = some (.bool g8)) (go_keep)
    (first | (go_at_call 8; refine (C1.out _).mono ?_; rintro e u1 ⟨rfl, b1⟩; have A1 : Hid (TwoB w z ⟨p, i, y, s, t, b⟩ ⟨g0, g1, g2, g3, g4, g5, g6, g7, g8⟩ u1) := A0.out.go b1 ⟨rfl, rfl, rfl, rfl⟩; obtain ⟨c0, c1, c2, c3, c4, c5, d0, d1, d2, d3, d4, d5, d6, d7, d8⟩ := A1.out.cs; clear b1 A0) | (go_at_call 9; refine (C2.out _).mono ?_; rintro e u2 ⟨rfl, b2⟩; have A2 : Hid (TwoB w z ⟨p, i, y, s, t, b⟩ ⟨g0, g1, g2, g3, g4, g5, g6, g7, g8⟩ u2) := A1.out.go b2 ⟨rfl, rfl, rfl, rfl⟩; obtain ⟨c0, c1, c2, c3, c4, c5, d0, d1, d2, d3, d4, d5, d6, d7, d8⟩ := A2.out.cs; clear b2 A1) | (go_at_call 7; refine (C3.out _).mono ?_; rintro e u3 ⟨rfl, b3⟩; have A3 : Hid (TwoB w z ⟨p, i, y, s, t, b⟩ ⟨g0, g1, g2, g3, g4, g5, g6, g7, g8⟩ u3) := A2.out.go b3 ⟨rfl, rfl, rfl, rfl⟩; obtain ⟨c0, c1, c2, c3, c4, c5, d0, d1, d2, d3, d4, d5, d6, d7, d8⟩ := A3.out.cs; clear b3 A2))
  cases p with
  | false =>
    cases i with
    | false =>
      cases g3 with
      | true =>
        cases g0 with
        | true =>
          obtain rfl : ans = 0 := ST.out.1 rfl
          clear ST C1 C2 C3
          go_wp2_with fail
          refine (C5.out _).mono ?_
          rintro e u4 ⟨rfl, b4⟩
          have A4 : Hid (Below z w u4) := A3.out.b.trans (b4.mono (Nat.le_of_lt A3.out.k.lt))
          clear b4 A3
          go_wp2
          go_ret
          exact ⟨rfl, A4.out⟩
        | false =>
          cases g2 with
          | true =>
            obtain rfl : ans = 0 := ST.out.1 rfl
            clear ST C1 C2 C3
            go_wp2_with fail
            refine (C5.out _).mono ?_
            rintro e u4 ⟨rfl, b4⟩
            have A4 : Hid (Below z w u4) := A3.out.b.trans (b4.mono (Nat.le_of_lt A3.out.k.lt))
            clear b4 A3
            go_wp2
            go_ret
            exact ⟨rfl, A4.out⟩
          | false =>
            cases g1 with
            | true =>
              obtain rfl : ans = 0 := ST.out.1 rfl
              clear ST C1 C2 C3
              go_wp2_with fail
              refine (C5.out _).mono ?_
              rintro e u4 ⟨rfl, b4⟩
              have A4 : Hid (Below z w u4) := A3.out.b.trans (b4.mono (Nat.le_of_lt A3.out.k.lt))
              clear b4 A3
              go_wp2
              go_ret
              exact ⟨rfl, A4.out⟩
            | false =>
              cases g4 with
              | true =>
                obtain rfl : ans = 0 := ST.out.1 rfl
                clear ST C1 C2 C3
                go_wp2_with fail
                refine (C5.out _).mono ?_
                rintro e u4 ⟨rfl, b4⟩
                have A4 : Hid (Below z w u4) := A3.out.b.trans (b4.mono (Nat.le_of_lt A3.out.k.lt))
                clear b4 A3
                go_wp2
                go_ret
                exact ⟨rfl, A4.out⟩
              | false =>
                cases g5 with
                | true =>
                  obtain rfl : ans = 0 := ST.out.1 rfl
                  clear ST C1 C2 C3
                  go_wp2_with fail
                  refine (C5.out _).mono ?_
                  rintro e u4 ⟨rfl, b4⟩
                  have A4 : Hid (Below z w u4) := A3.out.b.trans (b4.mono (Nat.le_of_lt A3.out.k.lt))
                  clear b4 A3
                  go_wp2
                  go_ret
                  exact ⟨rfl, A4.out⟩
                | false =>
                  cases g6 with
                  | true =>
                    obtain rfl : ans = 0 := ST.out.1 rfl
                    clear ST C1 C2 C3
                    go_wp2_with fail
                    refine (C5.out _).mono ?_
                    rintro e u4 ⟨rfl, b4⟩
                    have A4 : Hid (Below z w u4) := A3.out.b.trans (b4.mono (Nat.le_of_lt A3.out.k.lt))
                    clear b4 A3
                    go_wp2
                    go_ret
                    exact ⟨rfl, A4.out⟩
                  | false =>
                    cases g7 with
                    | true =>
                      obtain rfl : ans = 0 := ST.out.1 rfl
                      clear ST C1 C2 C3
                      go_wp2_with fail
                      refine (C5.out _).mono ?_
                      rintro e u4 ⟨rfl, b4⟩
                      have A4 : Hid (Below z w u4) := A3.out.b.trans (b4.mono (Nat.le_of_lt A3.out.k.lt))
                      clear b4 A3
                      go_wp2
                      go_ret
                      exact ⟨rfl, A4.out⟩
                    | false =>
                      cases g8 with
                      | true =>
                        obtain rfl : ans = 0 := ST.out.1 rfl
                        clear ST C1 C2 C3
                        go_wp2_with fail
                        refine (C5.out _).mono ?_
                        rintro e u4 ⟨rfl, b4⟩
                        have A4 : Hid (Below z w u4) := A3.out.b.trans (b4.mono (Nat.le_of_lt A3.out.k.lt))
                        clear b4 A3
                        go_wp2
                        go_ret
                        exact ⟨rfl, A4.out⟩
                      | false =>
                        obtain rfl : ans = 0 := ST.out.1 rfl
                        clear ST C1 C2 C3
                        go_wp2_with fail
                        refine (C5.out _).mono ?_
                        rintro e u4 ⟨rfl, b4⟩
                        have A4 : Hid (Below z w u4) := A3.out.b.trans (b4.mono (Nat.le_of_lt A3.out.k.lt))
                        clear b4 A3
                        go_wp2
                        go_ret
                        exact ⟨rfl, A4.out⟩
      | false =>
        cases g0 with
        | true =>
          obtain rfl : ans = 0 := ST.out.1 rfl
          clear ST C1 C2 C3
          go_wp2_with fail
          refine (C5.out _).mono ?_
          rintro e u4 ⟨rfl, b4⟩
          have A4 : Hid (Below z w u4) := A3.out.b.trans (b4.mono (Nat.le_of_lt A3.out.k.lt))
          clear b4 A3
          go_wp2
          go_ret
          exact ⟨rfl, A4.out⟩
        | false =>
          cases g2 with
          | true =>
            obtain rfl : ans = 0 := ST.out.1 rfl
            clear ST C1 C2 C3
            go_wp2_with fail
            refine (C5.out _).mono ?_
            rintro e u4 ⟨rfl, b4⟩
            have A4 : Hid (Below z w u4) := A3.out.b.trans (b4.mono (Nat.le_of_lt A3.out.k.lt))
            clear b4 A3
            go_wp2
            go_ret
            exact ⟨rfl, A4.out⟩
          | false =>
            cases g1 with
            | true =>
              obtain rfl : ans = 0 := ST.out.1 rfl
              clear ST C1 C2 C3
              go_wp2_with fail
              refine (C5.out _).mono ?_
              rintro e u4 ⟨rfl, b4⟩
              have A4 : Hid (Below z w u4) := A3.out.b.trans (b4.mono (Nat.le_of_lt A3.out.k.lt))
              clear b4 A3
              go_wp2
              go_ret
              exact ⟨rfl, A4.out⟩
            | false =>
              obtain rfl : ans = 0 := ST.out.1 rfl
              clear ST C1 C2 C3
              go_wp2_with fail
              refine (C5.out _).mono ?_
              rintro e u4 ⟨rfl, b4⟩
              have A4 : Hid (Below z w u4) := A3.out.b.trans (b4.mono (Nat.le_of_lt A3.out.k.lt))
              clear b4 A3
              go_wp2
              go_ret
              exact ⟨rfl, A4.out⟩
    | true =>
      cases g3 with
      | true =>
        cases g0 with
        | true =>
          obtain rfl : ans = 0 := ST.out.1 rfl
          clear ST C1 C2 C3
          go_wp2_with fail
          refine (C5.out _).mono ?_
          rintro e u4 ⟨rfl, b4⟩
          have A4 : Hid (Below z w u4) := A3.out.b.trans (b4.mono (Nat.le_of_lt A3.out.k.lt))
          clear b4 A3
          go_wp2
          go_ret
          exact ⟨rfl, A4.out⟩
        | false =>
          cases g2 with
          | true =>
            obtain rfl : ans = 0 := ST.out.1 rfl
            clear ST C1 C2 C3
            go_wp2_with fail
            refine (C5.out _).mono ?_
            rintro e u4 ⟨rfl, b4⟩
            have A4 : Hid (Below z w u4) := A3.out.b.trans (b4.mono (Nat.le_of_lt A3.out.k.lt))
            clear b4 A3
            go_wp2
            go_ret
            exact ⟨rfl, A4.out⟩
          | false =>
            cases g1 with
            | true =>
              obtain rfl : ans = 0 := ST.out.1 rfl
              clear ST C1 C2 C3
              go_wp2_with fail
              refine (C5.out _).mono ?_
              rintro e u4 ⟨rfl, b4⟩
              have A4 : Hid (Below z w u4) := A3.out.b.trans (b4.mono (Nat.le_of_lt A3.out.k.lt))
              clear b4 A3
              go_wp2
              go_ret
              exact ⟨rfl, A4.out⟩
            | false =>
              cases g4 with
              | true =>
                obtain rfl : ans = 0 := ST.out.1 rfl
                clear ST C1 C2 C3
                go_wp2_with fail
                refine (C5.out _).mono ?_
                rintro e u4 ⟨rfl, b4⟩
                have A4 : Hid (Below z w u4) := A3.out.b.trans (b4.mono (Nat.le_of_lt A3.out.k.lt))
                clear b4 A3
                go_wp2
                go_ret
                exact ⟨rfl, A4.out⟩
              | false =>
                cases g5 with
                | true =>
                  obtain rfl : ans = 0 := ST.out.1 rfl
                  clear ST C1 C2 C3
                  go_wp2_with fail
                  refine (C5.out _).mono ?_
                  rintro e u4 ⟨rfl, b4⟩
                  have A4 : Hid (Below z w u4) := A3.out.b.trans (b4.mono (Nat.le_of_lt A3.out.k.lt))
                  clear b4 A3
                  go_wp2
                  go_ret
                  exact ⟨rfl, A4.out⟩
                | false =>
                  cases g6 with
                  | true =>
                    obtain rfl : ans = 0 := ST.out.1 rfl
                    clear ST C1 C2 C3
                    go_wp2_with fail
                    refine (C5.out _).mono ?_
                    rintro e u4 ⟨rfl, b4⟩
                    have A4 : Hid (Below z w u4) := A3.out.b.trans (b4.mono (Nat.le_of_lt A3.out.k.lt))
                    clear b4 A3
                    go_wp2
                    go_ret
                    exact ⟨rfl, A4.out⟩
                  | false =>
                    cases g7 with
                    | true =>
                      obtain rfl : ans = 0 := ST.out.1 rfl
                      clear ST C1 C2 C3
                      go_wp2_with fail
                      refine (C5.out _).mono ?_
                      rintro e u4 ⟨rfl, b4⟩
                      have A4 : Hid (Below z w u4) := A3.out.b.trans (b4.mono (Nat.le_of_lt A3.out.k.lt))
                      clear b4 A3
                      go_wp2
                      go_ret
                      exact ⟨rfl, A4.out⟩
                    | false =>
                      cases g8 with
                      | true =>
                        obtain rfl : ans = 0 := ST.out.1 rfl
                        clear ST C1 C2 C3
                        go_wp2_with fail
                        refine (C5.out _).mono ?_
                        rintro e u4 ⟨rfl, b4⟩
                        have A4 : Hid (Below z w u4) := A3.out.b.trans (b4.mono (Nat.le_of_lt A3.out.k.lt))
                        clear b4 A3
                        go_wp2
                        go_ret
                        exact ⟨rfl, A4.out⟩
                      | false =>
                        obtain rfl : ans = 0 := ST.out.1 rfl
                        clear ST C1 C2 C3
                        go_wp2_with fail
                        refine (C5.out _).mono ?_
                        rintro e u4 ⟨rfl, b4⟩
                        have A4 : Hid (Below z w u4) := A3.out.b.trans (b4.mono (Nat.le_of_lt A3.out.k.lt))
                        clear b4 A3
                        go_wp2
                        go_ret
                        exact ⟨rfl, A4.out⟩
      | false =>
        cases g0 with
        | true =>
          obtain rfl : ans = 0 := ST.out.1 rfl
          clear ST C1 C2 C3
          go_wp2_with fail
          refine (C5.out _).mono ?_
          rintro e u4 ⟨rfl, b4⟩
          have A4 : Hid (Below z w u4) := A3.out.b.trans (b4.mono (Nat.le_of_lt A3.out.k.lt))
          clear b4 A3
          go_wp2
          go_ret
          exact ⟨rfl, A4.out⟩
        | false =>
          cases g2 with
          | true =>
            obtain rfl : ans = 0 := ST.out.1 rfl
            clear ST C1 C2 C3
            go_wp2_with fail
            refine (C5.out _).mono ?_
            rintro e u4 ⟨rfl, b4⟩
            have A4 : Hid (Below z w u4) := A3.out.b.trans (b4.mono (Nat.le_of_lt A3.out.k.lt))
            clear b4 A3
            go_wp2
            go_ret
            exact ⟨rfl, A4.out⟩
          | false =>
            cases g1 with
            | true =>
              obtain rfl : ans = 0 := ST.out.1 rfl
              clear ST C1 C2 C3
              go_wp2_with fail
              refine (C5.out _).mono ?_
              rintro e u4 ⟨rfl, b4⟩
              have A4 : Hid (Below z w u4) := A3.out.b.trans (b4.mono (Nat.le_of_lt A3.out.k.lt))
              clear b4 A3
              go_wp2
              go_ret
              exact ⟨rfl, A4.out⟩
            | false =>
              obtain rfl : ans = 0 := ST.out.1 rfl
              clear ST C1 C2 C3
              go_wp2_with fail
              refine (C5.out _).mono ?_
              rintro e u4 ⟨rfl, b4⟩
              have A4 : Hid (Below z w u4) := A3.out.b.trans (b4.mono (Nat.le_of_lt A3.out.k.lt))
              clear b4 A3
              go_wp2
              go_ret
              exact ⟨rfl, A4.out⟩
  | true =>
    cases i with
    | false =>
      cases g3 with
      | true =>
        cases g0 with
        | true =>
          clear ST C1 C2 C3
          go_wp2_with fail
          refine (C5.out _).mono ?_
          rintro e u4 ⟨rfl, b4⟩
          have A4 : Hid (Below z w u4) := A3.out.b.trans (b4.mono (Nat.le_of_lt A3.out.k.lt))
          clear b4 A3
          go_wp2
          go_ret
          exact ⟨rfl, A4.out⟩
        | false =>
          cases g2 with
          | true =>
            clear ST C1 C2 C3
            go_wp2_with fail
            refine (C5.out _).mono ?_
            rintro e u4 ⟨rfl, b4⟩
            have A4 : Hid (Below z w u4) := A3.out.b.trans (b4.mono (Nat.le_of_lt A3.out.k.lt))
            clear b4 A3
            go_wp2
            go_ret
            exact ⟨rfl, A4.out⟩
          | false =>
            cases g1 with
            | true =>
              clear ST C1 C2 C3
              go_wp2_with fail
              refine (C5.out _).mono ?_
              rintro e u4 ⟨rfl, b4⟩
              have A4 : Hid (Below z w u4) := A3.out.b.trans (b4.mono (Nat.le_of_lt A3.out.k.lt))
              clear b4 A3
              go_wp2
              go_ret
              exact ⟨rfl, A4.out⟩
            | false =>
              cases g4 with
              | true =>
                clear ST C1 C2 C3
                go_wp2_with fail
                refine (C5.out _).mono ?_
                rintro e u4 ⟨rfl, b4⟩
                have A4 : Hid (Below z w u4) := A3.out.b.trans (b4.mono (Nat.le_of_lt A3.out.k.lt))
                clear b4 A3
                go_wp2
                go_ret
                exact ⟨rfl, A4.out⟩
              | false =>
                cases g5 with
                | true =>
                  clear ST C1 C2 C3
                  go_wp2_with fail
                  refine (C5.out _).mono ?_
                  rintro e u4 ⟨rfl, b4⟩
                  have A4 : Hid (Below z w u4) := A3.out.b.trans (b4.mono (Nat.le_of_lt A3.out.k.lt))
                  clear b4 A3
                  go_wp2
                  go_ret
                  exact ⟨rfl, A4.out⟩
                | false =>
                  cases g6 with
                  | true =>
                    clear ST C1 C2 C3
                    go_wp2_with fail
                    refine (C5.out _).mono ?_
                    rintro e u4 ⟨rfl, b4⟩
                    have A4 : Hid (Below z w u4) := A3.out.b.trans (b4.mono (Nat.le_of_lt A3.out.k.lt))
                    clear b4 A3
                    go_wp2
                    go_ret
                    exact ⟨rfl, A4.out⟩
                  | false =>
                    cases g7 with
                    | true =>
                      clear ST C1 C2 C3
                      go_wp2_with fail
                      refine (C5.out _).mono ?_
                      rintro e u4 ⟨rfl, b4⟩
                      have A4 : Hid (Below z w u4) := A3.out.b.trans (b4.mono (Nat.le_of_lt A3.out.k.lt))
                      clear b4 A3
                      go_wp2
                      go_ret
                      exact ⟨rfl, A4.out⟩
                    | false =>
                      cases g8 with
                      | true =>
                        clear ST C1 C2 C3
                        go_wp2_with fail
                        refine (C5.out _).mono ?_
                        rintro e u4 ⟨rfl, b4⟩
                        have A4 : Hid (Below z w u4) := A3.out.b.trans (b4.mono (Nat.le_of_lt A3.out.k.lt))
                        clear b4 A3
                        go_wp2
                        go_ret
                        exact ⟨rfl, A4.out⟩
                      | false =>
                        clear ST C1 C2 C3
                        go_wp2_with fail
                        refine (C5.out _).mono ?_
                        rintro e u4 ⟨rfl, b4⟩
                        have A4 : Hid (Below z w u4) := A3.out.b.trans (b4.mono (Nat.le_of_lt A3.out.k.lt))
                        clear b4 A3
                        go_wp2
                        go_ret
                        exact ⟨rfl, A4.out⟩
      | false =>
        cases g0 with
        | true =>
          have m3 : ¬ (3 : Int) < ans := by have := ST.out.2.1 rfl; omega
          clear ST C1 C2 C3
          go_wp2_with fail
          refine (C5.out _).mono ?_
          rintro e u4 ⟨rfl, b4⟩
          have A4 : Hid (Below z w u4) := A3.out.b.trans (b4.mono (Nat.le_of_lt A3.out.k.lt))
          clear b4 A3
          go_wp2
          go_ret
          exact ⟨rfl, A4.out⟩
        | false =>
          cases g2 with
          | true =>
            have m3 : ¬ (3 : Int) < ans := by have := ST.out.2.1 rfl; omega
            clear ST C1 C2 C3
            go_wp2_with fail
            refine (C5.out _).mono ?_
            rintro e u4 ⟨rfl, b4⟩
            have A4 : Hid (Below z w u4) := A3.out.b.trans (b4.mono (Nat.le_of_lt A3.out.k.lt))
            clear b4 A3
            go_wp2
            go_ret
            exact ⟨rfl, A4.out⟩
          | false =>
            cases g1 with
            | true =>
              have m3 : ¬ (3 : Int) < ans := by have := ST.out.2.1 rfl; omega
              clear ST C1 C2 C3
              go_wp2_with fail
              refine (C5.out _).mono ?_
              rintro e u4 ⟨rfl, b4⟩
              have A4 : Hid (Below z w u4) := A3.out.b.trans (b4.mono (Nat.le_of_lt A3.out.k.lt))
              clear b4 A3
              go_wp2
              go_ret
              exact ⟨rfl, A4.out⟩
            | false =>
              have m3 : ¬ (3 : Int) < ans := by have := ST.out.2.1 rfl; omega
              clear ST C1 C2 C3
              go_wp2_with fail
              refine (C5.out _).mono ?_
              rintro e u4 ⟨rfl, b4⟩
              have A4 : Hid (Below z w u4) := A3.out.b.trans (b4.mono (Nat.le_of_lt A3.out.k.lt))
              clear b4 A3
              go_wp2
              go_ret
              exact ⟨rfl, A4.out⟩
    | true =>
      cases g3 with
      | true =>
        cases g0 with
        | true =>
          have m1 : ¬ (1 : Int) < ans := by have := ST.out.2.2.1 rfl; omega
          have a1 : (ans == 1) = true := by have := ST.out.2.2.2 rfl rfl; simpa using this
          clear ST C1 C2 C3
          go_wp2_with fail
          refine (C5.out _).mono ?_
          rintro e u4 ⟨rfl, b4⟩
          have A4 : Hid (Below z w u4) := A3.out.b.trans (b4.mono (Nat.le_of_lt A3.out.k.lt))
          clear b4 A3
          go_wp2
          go_ret
          exact ⟨rfl, A4.out⟩
        | false =>
          cases g2 with
          | true =>
            have m1 : ¬ (1 : Int) < ans := by have := ST.out.2.2.1 rfl; omega
            have a1 : (ans == 1) = true := by have := ST.out.2.2.2 rfl rfl; simpa using this
            clear ST C1 C2 C3
            go_wp2_with fail
            refine (C5.out _).mono ?_
            rintro e u4 ⟨rfl, b4⟩
            have A4 : Hid (Below z w u4) := A3.out.b.trans (b4.mono (Nat.le_of_lt A3.out.k.lt))
            clear b4 A3
            go_wp2
            go_ret
            exact ⟨rfl, A4.out⟩
          | false =>
            cases g1 with
            | true =>
              have m1 : ¬ (1 : Int) < ans := by have := ST.out.2.2.1 rfl; omega
              have a1 : (ans == 1) = false := by have := ST.out.2.2.2 rfl rfl; simpa using this
              clear ST C1 C2 C3
              go_wp2_with fail
              refine (C5.out _).mono ?_
              rintro e u4 ⟨rfl, b4⟩
              have A4 : Hid (Below z w u4) := A3.out.b.trans (b4.mono (Nat.le_of_lt A3.out.k.lt))
              clear b4 A3
              go_wp2
              go_ret
              exact ⟨rfl, A4.out⟩
            | false =>
              cases g4 with
              | true =>
                have m1 : ¬ (1 : Int) < ans := by have := ST.out.2.2.1 rfl; omega
                have a1 : (ans == 1) = true := by have := ST.out.2.2.2 rfl rfl; simpa using this
                clear ST C1 C2 C3
                go_wp2_with fail
                refine (C5.out _).mono ?_
                rintro e u4 ⟨rfl, b4⟩
                have A4 : Hid (Below z w u4) := A3.out.b.trans (b4.mono (Nat.le_of_lt A3.out.k.lt))
                clear b4 A3
                go_wp2
                go_ret
                exact ⟨rfl, A4.out⟩
              | false =>
                cases g5 with
                | true =>
                  have m1 : ¬ (1 : Int) < ans := by have := ST.out.2.2.1 rfl; omega
                  have a1 : (ans == 1) = true := by have := ST.out.2.2.2 rfl rfl; simpa using this
                  clear ST C1 C2 C3
                  go_wp2_with fail
                  refine (C5.out _).mono ?_
                  rintro e u4 ⟨rfl, b4⟩
                  have A4 : Hid (Below z w u4) := A3.out.b.trans (b4.mono (Nat.le_of_lt A3.out.k.lt))
                  clear b4 A3
                  go_wp2
                  go_ret
                  exact ⟨rfl, A4.out⟩
                | false =>
                  cases g6 with
                  | true =>
                    have m1 : ¬ (1 : Int) < ans := by have := ST.out.2.2.1 rfl; omega
                    have a1 : (ans == 1) = true := by have := ST.out.2.2.2 rfl rfl; simpa using this
                    clear ST C1 C2 C3
                    go_wp2_with fail
                    refine (C5.out _).mono ?_
                    rintro e u4 ⟨rfl, b4⟩
                    have A4 : Hid (Below z w u4) := A3.out.b.trans (b4.mono (Nat.le_of_lt A3.out.k.lt))
                    clear b4 A3
                    go_wp2
                    go_ret
                    exact ⟨rfl, A4.out⟩
                  | false =>
                    cases g7 with
                    | true =>
                      have m1 : ¬ (1 : Int) < ans := by have := ST.out.2.2.1 rfl; omega
                      have a1 : (ans == 1) = true := by have := ST.out.2.2.2 rfl rfl; simpa using this
                      clear ST C1 C2 C3
                      go_wp2_with fail
                      refine (C5.out _).mono ?_
                      rintro e u4 ⟨rfl, b4⟩
                      have A4 : Hid (Below z w u4) := A3.out.b.trans (b4.mono (Nat.le_of_lt A3.out.k.lt))
                      clear b4 A3
                      go_wp2
                      go_ret
                      exact ⟨rfl, A4.out⟩
                    | false =>
                      cases g8 with
                      | true =>
                        have m1 : ¬ (1 : Int) < ans := by have := ST.out.2.2.1 rfl; omega
                        have a1 : (ans == 1) = true := by have := ST.out.2.2.2 rfl rfl; simpa using this
                        clear ST C1 C2 C3
                        go_wp2_with fail
                        refine (C5.out _).mono ?_
                        rintro e u4 ⟨rfl, b4⟩
                        have A4 : Hid (Below z w u4) := A3.out.b.trans (b4.mono (Nat.le_of_lt A3.out.k.lt))
                        clear b4 A3
                        go_wp2
                        go_ret
                        exact ⟨rfl, A4.out⟩
                      | false =>
                        have m1 : ¬ (1 : Int) < ans := by have := ST.out.2.2.1 rfl; omega
                        have a1 : (ans == 1) = false := by have := ST.out.2.2.2 rfl rfl; simpa using this
                        clear ST C1 C2 C3
                        go_wp2_with fail
                        refine (C5.out _).mono ?_
                        rintro e u4 ⟨rfl, b4⟩
                        have A4 : Hid (Below z w u4) := A3.out.b.trans (b4.mono (Nat.le_of_lt A3.out.k.lt))
                        clear b4 A3
                        go_wp2
                        go_ret
                        exact ⟨rfl, A4.out⟩
      | false =>
        cases g0 with
        | true =>
          have m3 : ¬ (3 : Int) < ans := by have := ST.out.2.1 rfl; omega
          have m1 : ¬ (1 : Int) < ans := by have := ST.out.2.2.1 rfl; omega
          have a1 : (ans == 1) = true := by have := ST.out.2.2.2 rfl rfl; simpa using this
          clear ST C1 C2 C3
          go_wp2_with fail
          refine (C5.out _).mono ?_
          rintro e u4 ⟨rfl, b4⟩
          have A4 : Hid (Below z w u4) := A3.out.b.trans (b4.mono (Nat.le_of_lt A3.out.k.lt))
          clear b4 A3
          go_wp2
          go_ret
          exact ⟨rfl, A4.out⟩
        | false =>
          cases g2 with
          | true =>
            have m3 : ¬ (3 : Int) < ans := by have := ST.out.2.1 rfl; omega
            have m1 : ¬ (1 : Int) < ans := by have := ST.out.2.2.1 rfl; omega
            have a1 : (ans == 1) = true := by have := ST.out.2.2.2 rfl rfl; simpa using this
            clear ST C1 C2 C3
            go_wp2_with fail
            refine (C5.out _).mono ?_
            rintro e u4 ⟨rfl, b4⟩
            have A4 : Hid (Below z w u4) := A3.out.b.trans (b4.mono (Nat.le_of_lt A3.out.k.lt))
            clear b4 A3
            go_wp2
            go_ret
            exact ⟨rfl, A4.out⟩
          | false =>
            cases g1 with
            | true =>
              have m3 : ¬ (3 : Int) < ans := by have := ST.out.2.1 rfl; omega
              have m1 : ¬ (1 : Int) < ans := by have := ST.out.2.2.1 rfl; omega
              have a1 : (ans == 1) = false := by have := ST.out.2.2.2 rfl rfl; simpa using this
              clear ST C1 C2 C3
              go_wp2_with fail
              refine (C5.out _).mono ?_
              rintro e u4 ⟨rfl, b4⟩
              have A4 : Hid (Below z w u4) := A3.out.b.trans (b4.mono (Nat.le_of_lt A3.out.k.lt))
              clear b4 A3
              go_wp2
              go_ret
              exact ⟨rfl, A4.out⟩
            | false =>
              have m3 : ¬ (3 : Int) < ans := by have := ST.out.2.1 rfl; omega
              have m1 : ¬ (1 : Int) < ans := by have := ST.out.2.2.1 rfl; omega
              have a1 : (ans == 1) = false := by have := ST.out.2.2.2 rfl rfl; simpa using this
              clear ST C1 C2 C3
              go_wp2_with fail
              refine (C5.out _).mono ?_
              rintro e u4 ⟨rfl, b4⟩
              have A4 : Hid (Below z w u4) := A3.out.b.trans (b4.mono (Nat.le_of_lt A3.out.k.lt))
              clear b4 A3
              go_wp2
              go_ret
              exact ⟨rfl, A4.out⟩

set_option maxRecDepth 100000 in
theorem lifted (os : Os) (started : os.Started) (H : Type) (enc : TypeId × Value → H) :
    ReturnsInHanded {} Try.checked os 5 .any (Rows.coreStillSpec.pre6 enc Try.prog Try.f5 Rows.coreStillRow.domain false) (Rows.coreStillSpec.post enc Try.prog Try.f5 false true false false) := by
  refine returnsInHanded_of_change (C := Try.checked) own started (by kernel_rfl) Try.func5
    (ChangeSpec.witness6 (enc := enc) (C := Try.checked) false ⟨#[], #[.agg #[.bool false, .bool false, .int .i64 0, .int .i64 0, .int .i64 0, .int .i64 0], .agg #[.bool false, .bool false, .bool false, .bool false, .bool false, .bool false, .bool false, .bool false, .bool false]], []⟩ 8 (by kernel_rfl) (by kernel_rfl) (by kernel_rfl) (by kernel_rfl)) ?_
  intro W base args ds gs before hval0 hW hcnd _
  have hval : ∀ (j : Nat) t v, Try.f5.params[j]? = some t → args[j]? = some v → Value.okWide Try.prog W .any base t v := hval0
  have hW' := hW
  obtain ⟨p, q, hA0, hV, rfl, hfz, hnd⟩ := hW
  have hA : DataW.TrodAll enc Try.prog W 0 (fun _ => true) true Try.f5.params.toList args.toList ds p := hA0
  rw [Try.params5] at hA hval
  obtain ⟨v0, vs0, d0, ds0, p0, q0, hargs, rfl, rfl, h0, r0⟩ := trodAll_cons hA
  obtain ⟨v1, vs1, d1, ds1, p1, q1, rfl, rfl, rfl, h1, r1⟩ := trodAll_cons r0
  obtain ⟨rfl, rfl, rfl⟩ := trodAll_nil r1
  obtain rfl : args = #[v0, v1] := by cases args; simp_all
  obtain ⟨rfl, rfl⟩ := trodVars_none hV
  have k0 := h0
  have lt0 : ∀ x ∈ p0, x.block < W.heap.size := by obtain ⟨m, hm⟩ := k0; exact DataW.trod_lt m _ _ _ hm
  obtain ⟨X0, e0, z0⟩ := open_rec [0, 0, 1, 1, 1, 1] Try.underlying23 (by kernel_rfl) rfl (fun | 0, _ => ⟨_, rfl, rfl, by kernel_rfl, Try.underlying4⟩ | 1, _ => ⟨_, rfl, rfl, by kernel_rfl, Try.underlying4⟩ | 2, _ => ⟨_, rfl, rfl, by kernel_rfl, Try.underlying3⟩ | 3, _ => ⟨_, rfl, rfl, by kernel_rfl, Try.underlying2⟩ | 4, _ => ⟨_, rfl, rfl, by kernel_rfl, Try.underlying2⟩ | 5, _ => ⟨_, rfl, rfl, by kernel_rfl, Try.underlying2⟩ | n + 6, h => absurd h (by simp only [List.length]; omega)) (hval 0 23 v0 rfl rfl) h0
  have e0 : v0 = .agg #[.bool (X0 0 != 0), .bool (X0 1 != 0), .int .i64 (X0 2), .int .i64 (X0 3), .int .i64 (X0 4), .int .i64 (X0 5)] := e0
  subst e0
  have k1 := h1
  have lt1 : ∀ x ∈ p1, x.block < W.heap.size := by obtain ⟨m, hm⟩ := k1; exact DataW.trod_lt m _ _ _ hm
  obtain ⟨X1, e1, z1⟩ := open_rec [0, 0, 0, 0, 0, 0, 0, 0, 0] Try.underlying25 (by kernel_rfl) rfl (fun | 0, _ => ⟨_, rfl, rfl, by kernel_rfl, Try.underlying4⟩ | 1, _ => ⟨_, rfl, rfl, by kernel_rfl, Try.underlying4⟩ | 2, _ => ⟨_, rfl, rfl, by kernel_rfl, Try.underlying4⟩ | 3, _ => ⟨_, rfl, rfl, by kernel_rfl, Try.underlying4⟩ | 4, _ => ⟨_, rfl, rfl, by kernel_rfl, Try.underlying4⟩ | 5, _ => ⟨_, rfl, rfl, by kernel_rfl, Try.underlying4⟩ | 6, _ => ⟨_, rfl, rfl, by kernel_rfl, Try.underlying4⟩ | 7, _ => ⟨_, rfl, rfl, by kernel_rfl, Try.underlying4⟩ | 8, _ => ⟨_, rfl, rfl, by kernel_rfl, Try.underlying4⟩ | n + 9, h => absurd h (by simp only [List.length]; omega)) (hval 1 25 v1 rfl rfl) h1
  have e1 : v1 = .agg #[.bool (X1 0 != 0), .bool (X1 1 != 0), .bool (X1 2 != 0), .bool (X1 3 != 0), .bool (X1 4 != 0), .bool (X1 5 != 0), .bool (X1 6 != 0), .bool (X1 7 != 0), .bool (X1 8 != 0)] := e1
  subst e1
  clear hA0 hval0
  refine (walk X0 X1 W z0 z1).mono fun e W' ⟨he, bel⟩ => ?_
  subst he
  exact ⟨_, rfl, _, _, _, [], _, [], hW', trodAll_mk1 (shut_bool Try.underlying4 _), (trodAll_cons_mk (Below.trod laidOut (by kernel_rfl) (of_decide_eq_true (by kernel_rfl)) k0 bel lt0) (trodAll_cons_mk (Below.trod laidOut (by kernel_rfl) (of_decide_eq_true (by kernel_rfl)) k1 bel lt1) trodAll_mk0)), rfl, bel.frame _, fun h => by cases h⟩

theorem over : Rows.CoreStillSaid :=
  OpenClaim.holds_of_wide 5 Try.f5 rfl rfl rfl rfl rfl rfl rfl ⟨rfl, rfl, rfl, rfl, rfl⟩ rfl rfl rfl rfl rfl (by kernel_rfl) Try.func5 (by kernel_rfl)
    (of_decide_eq_true (by kernel_rfl)) (by unfold Func.isWrapper; first | (rw [if_pos (by decide +kernel)]; kernel_rfl) | (rw [if_neg (by decide +kernel)]; exact ⟨rfl, rfl⟩))
    (fun os started H enc _ => lifted os started H enc)
end Go.Proofs.Ytddjkdcbbonjkaa.coreStill

namespace Go.Proofs.Ytddjkdcbbonjkaa
open Go
theorem coreStill_holds : Rows.CoreStillSaid := coreStill.over
#print axioms coreStill_holds
end Go.Proofs.Ytddjkdcbbonjkaa
