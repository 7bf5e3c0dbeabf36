/- Drill's law of shorter scripts. -/
import Derived.Test.YtijicghdmlfheaaRows
import Derived.Test.YtijicghdmlfheaaDr9
import Derived.Deep.Slices
import Derived.WalkKit
import Derived.ProofKit
import Derived.OpenShut
import Derived.BigQuiet
import Derived.BigGuard
import Derived.Carry
namespace Go.Proofs.Ytijicghdmlfheaa.Dri
open Go.ChangeShapes Go.WideShapes Go.ChangeAt Go.RowKit
open Mm
set_option linter.unusedVariables false
set_option linter.unusedSimpArgs false
set_option maxRecDepth 100000

/-- What begins a list of records. -/
theorem lrow_take {α : Type} {L : Lay α} {w : World} {a : Option Addr} {m cap n : Nat} {Y : List α} (h : LRow L w (.slice a m cap) Y) (hm : Y.length = m) (hn : n ≤ m) : LRow L w (.slice a n cap) (Y.take n) := by
  have hl : (Y.take n).length = n := by simp; omega
  rcases h with ⟨rfl, a', cap', e⟩ | ⟨b, off, cap', e, hb, hc⟩
  · simp at hm
    obtain rfl : n = 0 := by omega
    exact Or.inl ⟨by simp, a, cap, rfl⟩
  · simp only [Value.slice.injEq] at e
    obtain ⟨rfl, _, rfl⟩ := e
    refine Or.inr ⟨b, off, cap, by rw [hl], hb, fun i hi j hj => ?_⟩
    rw [hl] at hi
    rw [hc i (by omega) j hj]
    simp [List.getD, List.getElem?_take, hi]
theorem scr_take (c : Int) (x n m : Nat) (h : n ≤ m) : (scr c x m).take n = scr c x n := sq_take _ _ x n m h
theorem oks_of {c m : Int} (h : oks c m = true) : 1 ≤ c ∧ c ≤ 64 ∧ 0 ≤ m ∧ m ≤ 600 := by
  unfold oks okc at h
  simp only [Bool.and_eq_true, decide_eq_true_eq] at h
  exact ⟨h.1.1, h.1.2, h.2.1, h.2.2⟩
set_option maxHeartbeats 4000000 in
theorem first_walk (c : Int) (x : Nat) (n m : Int) (w : World) (hx : x < 18446744073709551616) :
    Calls Try.prog 5 #[.int .i64 c, .int .u64 (x : Int), .int .i64 n, .int .i64 m] w fun e w' => e = .returned (.bool true) ∧ Below w.heap.size w w' := by
  have HK : Hid (∀ u, _) := fun u => dknown_yes u
  by_cases h1 : oks c n = true
  · obtain ⟨c1, c2, n0, n6⟩ := oks_of h1
    obtain ⟨N, rfl⟩ := Int.eq_ofNat_of_zero_le n0
    have C1 : Hid (∀ v, _) := fun v => script_cap c x N v c1 c2 hx (by omega)
    by_cases h2 : oks c m = true
    · obtain ⟨_, _, m0, m6⟩ := oks_of h2
      obtain ⟨M, rfl⟩ := Int.eq_ofNat_of_zero_le m0
      have C2 : Hid (∀ v, _) := fun v => script_cap c x M v c1 c2 hx (by omega)
      by_cases h3 : (M : Int) < (N : Int)
      · have e3 : decide ((M : Int) < (N : Int)) = true := decide_eq_true h3
        clear h1 h2 c1 c2 n0 n6 m0 m6 hx
        go_enter Try.func5, Try.ntmps5
        go_wp2_with fail
        refine (C1.out _).mono ?_
        rintro e w1 ⟨v, rfl, r1, b1, a1, k1, rfl, l1⟩
        have B1 : Hid (Below w.heap.size w w1) := b1
        clear r1 b1
        go_wp2_with fail
        refine (C2.out _).mono ?_
        rintro e w2 ⟨v, rfl, r2, b2, a2, k2, rfl, l2⟩
        have B2 : Hid (Below w.heap.size w w2) := B1.out.trans (b2.mono B1.out.size)
        clear r2 b2
        go_wp2_with fail
        refine (HK.out _).mono ?_
        rintro e w3 ⟨rfl, b3⟩
        have B3 := B2.out.trans (b3.mono B2.out.size)
        clear b3
        go_wp2
        go_ret
        exact ⟨rfl, B3⟩
      · have e3 : decide ((M : Int) < (N : Int)) = false := decide_eq_false h3
        have nn : ((N : Int) == (N : Int)) = true := by simp
        have CM : Hid (∀ u v w, LRow evy w u (scr c x N) → LRow evy w v (scr c x N) → _) := fun u v w q1 q2 => rsame_any (scr c x N) u v w (by rw [scr_len]; omega) q1 q2
        have NM : Hid (N ≤ M) := by show N ≤ M; omega
        clear h1 h2 c1 c2 n0 n6 m0 m6 hx
        go_enter Try.func5, Try.ntmps5
        go_wp2_with fail
        refine (C1.out _).mono ?_
        rintro e w1 ⟨v, rfl, r1, b1, a1, k1, rfl, l1⟩
        have B1 : Hid (Below w.heap.size w w1) := b1
        have L1 : Hid (LRow evy w1 (.slice a1 N k1) (scr c x N)) := r1
        clear r1 b1
        go_wp2_with fail
        refine (C2.out _).mono ?_
        rintro e w2 ⟨v, rfl, r2, b2, a2, k2, rfl, l2⟩
        have B2 : Hid (Below w.heap.size w w2) := B1.out.trans (b2.mono B1.out.size)
        have L2 : Hid (LRow evy w2 (.slice a1 N k1) (scr c x N) ∧ LRow evy w2 (.slice a2 N k2) (scr c x N)) := ⟨L1.out.below b2, by have := lrow_take r2 (scr_len c x M) NM.out; rwa [scr_take c x N M NM.out] at this⟩
        have l3 : N ≤ k2 := by have := NM.out; omega
        clear r2 b2
        go_wp2_with fail
        refine (CM.out _ _ _ L2.out.1 L2.out.2).mono ?_
        rintro e w3 ⟨rfl, s3⟩
        have B3 : Hid (Below w.heap.size w w3) := s3.below B2.out
        clear s3
        go_wp2_with fail
        refine (HK.out _).mono ?_
        rintro e w4 ⟨rfl, b4⟩
        have B4 := B3.out.trans (b4.mono B3.out.size)
        clear b4
        go_wp2
        go_ret
        exact ⟨rfl, B4⟩
    · have C2 : Hid (∀ v, _) := fun v => script_no c x m v (by simpa using h2)
      clear h1 h2 c1 c2 n0 n6 hx
      go_enter Try.func5, Try.ntmps5
      go_wp2_with fail
      refine (C1.out _).mono ?_
      rintro e w1 ⟨v, rfl, r1, b1, a1, k1, rfl, l1⟩
      have B1 : Hid (Below w.heap.size w w1) := b1
      clear r1 b1
      go_wp2_with fail
      refine (C2.out _).mono ?_
      rintro e w2 ⟨rfl, rfl⟩
      go_wp2_with fail
      refine (HK.out _).mono ?_
      rintro e w3 ⟨rfl, b3⟩
      have B3 := B1.out.trans (b3.mono B1.out.size)
      clear b3
      go_wp2
      go_ret
      exact ⟨rfl, B3⟩
  · have C1 : Hid (∀ v, _) := fun v => script_no c x n v (by simpa using h1)
    have C2 : Hid (∀ v, _) := fun v => script_any c x m v hx
    clear h1 hx
    go_enter Try.func5, Try.ntmps5
    go_wp2_with fail
    refine (C1.out _).mono ?_
    rintro e w1 ⟨rfl, rfl⟩
    go_wp2_with fail
    refine (C2.out _).mono ?_
    rintro e w2 ⟨v, rfl, r2, b2⟩
    have B2 : Hid (Below _ _ w2) := b2
    generalize (if oks c m = true then (0 : Int) else 2) = E at *
    clear r2 b2
    go_wp2_with fail
    refine (HK.out _).mono ?_
    rintro e w3 ⟨rfl, b3⟩
    have B3 := B2.out.trans (b3.mono B2.out.size)
    clear b3
    go_wp2
    go_ret
    exact ⟨rfl, B3⟩
end Go.Proofs.Ytijicghdmlfheaa.Dri
