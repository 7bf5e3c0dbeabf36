/- What the document's Fair and Bound answer (davitref36). -/
import Derived.Test.YtfipiifickdeiaaGreatDoorRows
import Derived.Test.YtfipiifickdeiaaGreatDoorFp2
import Derived.Test.YtfipiifickdeiaaGreatDoorKox
import Derived.WalkKit
import Derived.ProofKit
import Derived.OpenShut
import Derived.BigQuiet
import Derived.BigGuard
import Derived.Carry
namespace Go.Proofs.YtfipiifickdeiaaGreatDoor.Fai
open Go.ChangeShapes Go.WideShapes Go.ChangeAt Go.RowKit
open Mm
set_option linter.unusedSimpArgs false
set_option linter.unusedVariables false

theorem below_cell {w u : World} (b : Below w.heap.size w u) {q i : Nat} {v : Value} (h : w.cell? ⟨q, i, none⟩ = some v) : u.cell? ⟨q, i, none⟩ = some v := by
  rw [(Fr.of_below b).cell (p := ⟨q, i, none⟩) (cell_lt h) (by simp)]
  exact h
set_option maxRecDepth 100000 in
set_option maxHeartbeats 8000000 in
theorem rbound_any (n : Int) (w : World) : Calls Tryz.prog 8 #[.int .i64 n] w fun e w' => e = .returned (.int .i64 (bnd n)) ∧ w' = w := by
  unfold bnd
  by_cases h0 : n < 1
  · have e0 : decide (n < 1) = true := decide_eq_true h0
    rw [if_pos (Or.inl h0)]
    go_enter Tryz.func8, Tryz.ntmps8
    go_wp2
    go_ret
    exact ⟨rfl, rfl⟩
  · have e0 : decide (n < 1) = false := decide_eq_false h0
    by_cases h1 : 10000 < n
    · have e1 : decide (10000 < n) = true := decide_eq_true h1
      rw [if_pos (Or.inr h1)]
      go_enter Tryz.func8, Tryz.ntmps8
      go_wp2
      go_ret
      exact ⟨rfl, rfl⟩
    · have e1 : decide (10000 < n) = false := decide_eq_false h1
      have wn : IntKind.i64.wrap (n * 500) = n * 500 := wrs (by omega) (by omega)
      rw [if_neg (by omega)]
      go_enter Tryz.func8, Tryz.ntmps8
      go_wp2
      go_ret
      exact ⟨rfl, rfl⟩

set_option maxRecDepth 100000 in
set_option maxHeartbeats 8000000 in
theorem rfair_any (xs : List Int) (o : Nat) (n : Int) (v : Value) (w : World) (h : Row w v xs) (ho : o < 18446744073709551616) (hl : (xs.length : Int) ≤ 300) (hn : (Lit.int .i64 n).wf = true) :
    Calls Tryz.prog 6 #[v, .int .u64 (o : Int), .int .i64 n] w fun e w' => e = .returned (.bool (fairp xs o n)) ∧ Below w.heap.size w w' := by
  obtain ⟨a, cap, rfl⟩ : ∃ a cap, v = .slice a xs.length cap := by
    rcases h with ⟨rfl, a, cap, rfl⟩ | ⟨b, off, cap, rfl, _⟩
    · exact ⟨a, cap, rfl⟩
    · exact ⟨_, cap, rfl⟩
  have BR : Hid (Below w.heap.size w w) := Below.refl _ _
  by_cases h1 : n < 1
  · rw [fairp_low xs o n h1]
    have e0 : decide (n < 1) = true := decide_eq_true h1
    clear h hn
    go_enter Tryz.func6, Tryz.ntmps6
    go_wp2
    go_ret
    exact ⟨rfl, BR.out⟩
  · have e0 : decide (n < 1) = false := decide_eq_false h1
    obtain ⟨m, hm⟩ : ∃ m : Nat, n = (m : Int) + 1 := ⟨(n - 1).toNat, by omega⟩
    have HM : Hid (n = (m : Int) + 1) := hm
    have nw : n < 9223372036854775808 := by simp [Lit.wf, IntKind.min, IntKind.max, IntKind.bits, IntKind.signed] at hn; omega
    have n1 : 1 ≤ n := by omega
    have HR : Hid (Row w (.slice a xs.length cap) xs) := h
    clear h hn hm
    go_enter Tryz.func6, Tryz.ntmps6
    go_wp2
    go_loopw [7] (fun i wr => ∃ k : Nat, (k : Int) ≤ xs.length ∧ Hid (Below w.heap.size w wr ∧ (List.range k).all (fun i => decide (nt o (wl 0 (win xs (m + 1) i)) = 0)) = true ∧ (k = 0 ∨ k + m ≤ xs.length)) ∧ i = .int .i64 (k : Int)) (fun i _ => xs.length - (intOf i).toNat)
    case atStart => exact ⟨0, by omega, ⟨BR.out, rfl, Or.inl rfl⟩, rfl⟩
    case round =>
      obtain ⟨k, hk, hmm, rfl⟩ := hrel
      have B1 : Hid (Below w.heap.size w wr) := hmm.out.1
      have AL : Hid ((List.range k).all (fun i => decide (nt o (wl 0 (win xs (m + 1) i)) = 0)) = true) := hmm.out.2.1
      have KZ : Hid (k = 0 ∨ k + m ≤ xs.length) := hmm.out.2.2
      clear hmm
      have wd : IntKind.i64.wrap ((xs.length : Int) - (k : Int)) = (xs.length : Int) - (k : Int) := wrs (by omega) (by omega)
      by_cases e : (k : Int) < xs.length
      · have e1 : decide ((k : Int) < (xs.length : Int)) = true := decide_eq_true e
        by_cases e2 : n ≤ (xs.length : Int) - (k : Int)
        · have e3 : decide (n ≤ (xs.length : Int) - (k : Int)) = true := decide_eq_true e2
          have wkn : IntKind.i64.wrap ((k : Int) + n) = (k : Int) + n := wrs (by omega) (by omega)
          obtain ⟨b, off, rfl, hb, hcell⟩ : ∃ b off, a = some ⟨b, off, none⟩ ∧ b < w.heap.size ∧ ∀ i, i < xs.length → w.cell? ⟨b, off + i, none⟩ = some (.int .i64 (xs.getD i 0)) := by
            rcases HR.out with ⟨rfl, _⟩ | ⟨b, off, cap', hv, hb, hc'⟩
            · simp at e; omega
            · cases hv
              exact ⟨b, off, rfl, hb, hc'⟩
          have HX : Hid (∀ i, i < xs.length → wr.cell? ⟨b, off + i, none⟩ = some (.int .i64 (xs.getD i 0))) := fun i hi => below_cell B1.out (hcell i hi)
          clear hcell hb
          obtain ⟨u, hu⟩ : ∃ u : World, u = wr := ⟨_, rfl⟩
          subst hu
          go_wp2
          go_loopw [8, 9] (fun s i wr => ∃ q : Nat, k ≤ q ∧ (q : Int) ≤ (k : Int) + n ∧ wr = u ∧ s = .int .u64 (wl 0 (win xs (q - k) k) : Nat) ∧ i = .int .i64 (q : Int)) (fun _ i _ => (k + n.toNat) - (intOf i).toNat)
          case atStart => exact ⟨k, Nat.le_refl _, by omega, rfl, by rw [Nat.sub_self]; rfl, rfl⟩
          case round =>
            obtain ⟨q, hq, hj, rfl, rfl, rfl⟩ := hrel
            by_cases e4 : (q : Int) < (k : Int) + n
            · have e5 : decide ((q : Int) < (k : Int) + n) = true := decide_eq_true e4
              have c1 := HX.out q (by omega)
              have SN : Hid (wl 0 (win xs (q - k) k) ||| bv (xs.getD q 0) = wl 0 (win xs (q + 1 - k) k)) := by
                show _ = wl 0 (win xs (q + 1 - k) k)
                have := win_snoc xs (q - k) k (by omega)
                rw [show k + (q - k) = q by omega, show q - k + 1 = q + 1 - k by omega] at this
                rw [← this, wl_snoc]
              have CW : Hid (∀ v, _) := fun v => krefwith_any (wl 0 (win xs (q - k) k)) (xs.getD q 0) v (wl_lt 0 _ (by decide))
              rw [SN.out] at CW
              have ql : (q : Int) < (xs.length : Int) := by omega
              generalize xs.getD q 0 = x at *
              clear SN
              generalize wl 0 (win xs (q - k) k) = M at *
              obtain ⟨M2, hM2⟩ : ∃ M2, wl 0 (win xs (q + 1 - k) k) = M2 := ⟨_, rfl⟩
              have HM2 : Hid (wl 0 (win xs (q + 1 - k) k) = M2) := hM2
              rw [hM2] at CW
              clear hM2
              go_wp2_with fail
              refine (CW.out _).mono ?_
              rintro e w5 ⟨rfl, rfl⟩
              go_wp2
              go_roundw
              case rel => exact ⟨q + 1, by omega, by omega, by trivial, by rw [HM2.out], by go_num⟩
              case measure => simp [intOf]; omega
            · have e5 : decide ((q : Int) < (k : Int) + n) = false := decide_eq_false e4
              have EQ : Hid (wl 0 (win xs (q - k) k) = wl 0 (win xs (m + 1) k)) := by
                have := HM.out
                show _ = wl 0 (win xs (m + 1) k)
                rw [show q - k = m + 1 by omega]
              rw [EQ.out]
              have CN : Hid (∀ v, _) := fun v => krefnot_any o (wl 0 (win xs (m + 1) k)) v ho (wl_lt 0 _ (by decide))
              have KM : Hid (k + (m + 1) ≤ xs.length) := by have := HM.out; show k + (m + 1) ≤ xs.length; omega
              by_cases z : nt o (wl 0 (win xs (m + 1) k)) = 0
              · have AL2 : Hid ((List.range (k + 1)).all (fun i => decide (nt o (wl 0 (win xs (m + 1) i)) = 0)) = true) := by
                  show (List.range (k + 1)).all _ = true
                  rw [List.range_succ, List.all_append, AL.out]
                  simpa using z
                rw [z] at CN
                clear z AL EQ
                generalize wl 0 (win xs (m + 1) k) = M at *
                go_wp2_with fail
                refine (CN.out _).mono ?_
                rintro e w5 ⟨rfl, b5⟩
                have B5 : Hid (Below w.heap.size w w5) := B1.out.trans (b5.mono B1.out.size)
                clear b5
                go_wp2
                go_roundw
                case rel => exact ⟨k + 1, by omega, ⟨B5.out, AL2.out, Or.inr (by have := KM.out; omega)⟩, by go_num⟩
                case measure => simp [intOf]; omega
              · have RF : Hid (fairp xs o n = false) := by rw [HM.out]; exact fairp_no xs o m k KM.out z
                have z2 : ((((nt o (wl 0 (win xs (m + 1) k)) : Nat) : Int)) != 0) = true := by simpa using z
                have z3 : ¬ (((nt o (wl 0 (win xs (m + 1) k)) : Nat) : Int)) = 0 := by omega
                clear AL EQ z
                generalize ((nt o (wl 0 (win xs (m + 1) k)) : Nat) : Int) = r at *
                generalize wl 0 (win xs (m + 1) k) = M at *
                go_wp2_with fail
                refine (CN.out _).mono ?_
                rintro e w5 ⟨rfl, b5⟩
                have B5 : Hid (Below w.heap.size w w5) := B1.out.trans (b5.mono B1.out.size)
                clear b5
                go_wp2
                go_ret
                exact ⟨by rw [RF.out]; rfl, B5.out⟩
        · have e3 : decide (n ≤ (xs.length : Int) - (k : Int)) = false := decide_eq_false e2
          have RF : Hid (fairp xs o n = true) := by
            have h2 := HM.out
            rw [HM.out]
            exact fairp_yes xs o m (by
              rw [List.all_eq_true]
              intro i hi
              have hi := List.mem_range.1 hi
              exact List.all_eq_true.1 AL.out i (List.mem_range.2 (by omega)))
          clear AL
          go_wp2
          go_ret
          exact ⟨by rw [RF.out]; rfl, B1.out⟩
      · have e1 : decide ((k : Int) < (xs.length : Int)) = false := decide_eq_false e
        have RF : Hid (fairp xs o n = true) := by
          have h2 := HM.out
          rw [HM.out]
          exact fairp_yes xs o m (by
            rw [List.all_eq_true]
            intro i hi
            have hi := List.mem_range.1 hi
            exact List.all_eq_true.1 AL.out i (List.mem_range.2 (by omega)))
        clear AL
        go_wp2
        go_ret
        exact ⟨by rw [RF.out]; rfl, B1.out⟩
end Go.Proofs.YtfipiifickdeiaaGreatDoor.Fai
