/- Proved: for every list dues and every list moves, davitlaw14.TimerOnce(dues, moves) returns true: each timer fires once, at its tick, on whatever core it is by then (48 timers, 100 moves, ticks 0 to 100, as the law itself says); no condition but that the listed table is as the program's text lays it, which the card ties. -/
import Derived.Test.YtadaghhgmflfdaaDoorRows
import Derived.Test.YtadaghhgmflfdaaDoorTie
import Derived.Test.YtadaghhgmflfdaaDoorCards
import Derived.Test.YtadaghhgmflfdaaDoorMv
import Derived.Test.YtadaghhgmflfdaaDoorFo
import Derived.Test.YtadaghhgmflfdaaDoorZx
import Derived.Test.YtadaghhgmflfdaaDoorFs
import Derived.WalkKit
import Derived.ProofKit
import Derived.OpenShut
import Derived.Stop.Joined
import Derived.ShutString
import Derived.ChangeOld
import Derived.Below
import Derived.Carry
import Derived.LaidMore
import Derived.SevenTiedAt
import Derived.Test.YtadaghhgmflfdaaDoorFs
import Derived.Deep.RegionHeld3
namespace Go.Proofs.YtadaghhgmflfdaaDoor.timerOnce
open Go.ChangeShapes Go.WideShapes Go.ChangeAt Go.RowKit
open Mm Sl Wm Zm
set_option linter.unusedVariables false
set_option linter.unusedSimpArgs false

set_option maxRecDepth 100000 in
set_option maxHeartbeats 16000000 in
theorem walk (a0 : Option Addr) (len0 cap0 : Nat) (xs0 : List Int) (a1 : Option Addr) (len1 cap1 : Nat) (X1 : Nat → Nat → Int) (w : World) (w0 : Row w (.slice a0 len0 cap0) xs0) (l0 : xs0.length = len0) (z0 : ∀ n ∈ xs0, (Lit.int .i64 n).wf = true) (w1 : SRow w (.slice a1 len1 cap1) len1 [true, true, true, true, true] X1) (z1 : ∀ i, i < len1 → ∀ j, j < [true, true, true, true, true].length → [true, true, true, true, true].getD j true = true → (Lit.int .i64 (X1 i j)).wf = true) (ht : Tab w) (hs : 0 < w.heap.size) :
    Calls Tryd.prog 4 #[.slice a0 len0 cap0, .slice a1 len1 cap1] w fun e w' => e = .returned (.bool true) ∧ Below w.heap.size w w' := by
  have KN : Hid (∀ w1, Below w.heap.size w w1 → _) := fun w1 b => known_yes w1 (ht.keep hs (by simp) (Fr.of_below b)) (by have := b.size; omega)
  have C : Hid (∀ _ : Unit, _) := fun _ => tnew_any 3 w (by decide) (by decide)
  have HR : Hid (Row w (.slice a0 len0 cap0) xs0) := w0
  have HL : Hid (xs0.length = len0) := l0
  have HM : Hid (SRow w (.slice a1 len1 cap1) len1 [true, true, true, true, true] X1) := w1
  have HT : Hid (∀ w2 : World, Below w.heap.size w w2 → Tab w2) := fun w2 f => ht.below hs f
  clear w0 l0 z0 w1 z1 ht hs
  by_cases big : (48 : Int) < len0
  · go_enter Tryd.func4, Tryd.ntmps4
    go_wp2_with fail
    refine (C.out ()).mono ?_
    rintro e u1 ⟨t, rfl, F1, q1, l1, b1⟩
    have B1 : Hid (Below w.heap.size w u1) := b1
    clear q1 l1 b1
    go_wp2_with fail
    refine (KN.out _ B1.out).mono ?_
    rintro e u2 ⟨rfl, b2⟩
    go_wp2
    go_ret
    exact ⟨rfl, B1.out.trans (b2.mono B1.out.size)⟩
  · go_enter Tryd.func4, Tryd.ntmps4
    go_wp2_with fail
    refine (C.out ()).mono ?_
    rintro e u1 ⟨t, rfl, F1, q1, l1, b1⟩
    have P0 : Hid (OT w u1 t 0 (fun _ => []) F1 (.slice none 0 0) []) := ⟨q1, l1, b1, World.ownsRow_nil _ _ _ _, fun g e => by cases e⟩
    clear q1 l1 b1 C
    go_wp2
    go_loopw [8, 7] (fun i v wr => ∃ (k : Nat) (A : List Int) (K : Ks) (F : List Nat) (a' : Option Addr) (c' : Nat), (k : Int) ≤ len0 ∧ A.length ≤ k ∧ i = .int .i64 (k : Int) ∧ v = .slice a' A.length c' ∧ Hid (OT w wr t 0 K F (.slice a' A.length c') A) ∧ Hid (Ar A K ∧ (∀ i, 1 ≤ i → i ≤ A.length → oc 3 K i = true) ∧ tot K = A.length ∧ ∀ d ∈ A, 0 ≤ d ∧ d ≤ 100)) (fun i _ _ => len0 - (intOf i).toNat)
    case atStart => exact ⟨0, [], _, F1, none, 0, by omega, by simp, rfl, rfl, P0, fun c hc x hx => (by cases hx), fun i h1 h2 => (by simp at h2; omega), rfl, fun d hd => (by cases hd)⟩
    case round =>
      obtain ⟨k, A, K, F, a', c', hk, hA, rfl, rfl, p, hq⟩ := hrel
      clear P0
      by_cases c : (k : Int) < len0
      · obtain ⟨b0, off, rfl, hc⟩ := row_cell (wr := wr) HR.out HL.out p.out.bel c
        have HC : Hid (∀ (w1 : World), Below w.heap.size w w1 → w1.cell? ⟨b0, off + k, none⟩ = some (.int .i64 (xs0.getD k 0))) := fun w1 b => by
          obtain ⟨b0', off', e, hc'⟩ := row_cell (wr := w1) HR.out HL.out b c
          simp only [Option.some.injEq, Addr.mk.injEq, true_and, and_true] at e
          obtain ⟨rfl, rfl⟩ := e
          exact hc'
        generalize xs0.getD k 0 = d at *
        by_cases d0 : d < 0
        · go_wp2
          go_roundw
          case rel => exact ⟨k + 1, A, K, F, a', c', by omega, by omega, by go_num, rfl, p, hq⟩
          case measure => simp [intOf]; omega
        · by_cases d1 : 100 < d
          · go_wp2
            go_roundw
            case rel => exact ⟨k + 1, A, K, F, a', c', by omega, by omega, by go_num, rfl, p, hq⟩
            case measure => simp [intOf]; omega
          · have hl48 : A.length < 48 := by omega
            have e3 : ((k % 3 : Nat) : Int) = (k : Int).tmod 3 := by rw [Int.tmod_eq_emod_of_nonneg (by omega)]; omega
            have CA : Hid (∀ _ : Unit, _) := fun _ => arm_yes (k % 3) d (by omega) ⟨by omega, by omega⟩ p.out.tx (HT.out _ p.out.bel) (ar_ff hq.out.1 hq.out.2.1 hl48)
            rw [e3] at CA
            have ST : Hid (∀ w1 F', TX w1 t 3 0 (up K (k % 3) (ins (d, ((A.length + 1 : Nat) : Int)) (K (k % 3)))) F' → Mv wr w1 F F' → w1.cell? ⟨b0, off + k, none⟩ = some (.int .i64 d) ∧ ∃ a2 c2 w2, (Builtin.append_ #[22, 22] 22 #[.slice a' A.length c', .slice (some ⟨w1.heap.size, 0, none⟩) 1 1]).run Tryd.prog (w1.alloc (.cells #[.int .i64 0, .int .i64 0, .int .i64 0, .int .i64 ((A.length + 1 : Nat) : Int), .int .i64 d] 32)) = .ok (.slice a2 (A.length + 1) c2) w2 ∧ Hid (OT w w2 t 0 (up K (k % 3) (ins (d, ((A.length + 1 : Nat) : Int)) (K (k % 3)))) F' (.slice a2 (A ++ [d]).length c2) (A ++ [d]))) := fun w1 F' q m => by
              have h2 := p.out.act q m
              obtain ⟨a2, c2, w2, hrun, o2⟩ := h2.app hl48 d 22
              exact ⟨HC.out w1 h2.bel, a2, c2, w2, hrun, by rw [List.length_append, List.length_singleton]; exact o2⟩
            have NX : Hid _ := ar_arm p.out.tx.al hq.out.1 hq.out.2.1 hl48 (c := k % 3) (by omega) d
            have DA : Hid (∀ e ∈ A ++ [d], 0 ≤ e ∧ e ≤ 100) := fun e he => by
              rcases List.mem_append.1 he with h | h
              · exact hq.out.2.2.2 e h
              · simp only [List.mem_singleton] at h
                omega
            have HQ : Hid (tot K = A.length) := hq.out.2.2.1
            have eL : (A ++ [d]).length = A.length + 1 := by simp
            obtain ⟨n0, hn0⟩ : ∃ n0 : Int, Hid (n0 = ((A.length + 1 : Nat) : Int)) := ⟨_, rfl⟩
            rw [← hn0.out] at CA ST
            clear p hq e3
            go_wp2_with fail
            refine (CA.out ()).mono ?_
            rintro e w1 ⟨rfl, F', q, m⟩
            obtain ⟨x1, a2, c2, w2, hrun, o2⟩ := ST.out w1 F' q m
            clear q m ST CA
            go_wp2_with (at_builtin; refine wpList_runz rfl (.tmp 65) (.tmp 72) 22 rfl rfl rfl hrun ?_)
            go_roundw
            case rel => exact ⟨k + 1, A ++ [d], _, F', a2, c2, by omega, by omega, by go_num, by rw [eL], by rw [hn0.out] at o2; exact o2, NX.out.1, NX.out.2.1, by rw [NX.out.2.2, HQ.out, eL], DA.out⟩
            case measure => simp [intOf]; omega
      · have D1 : Hid (∀ d ∈ A, 0 ≤ d ∧ d ≤ 100) := hq.out.2.2.2
        obtain ⟨ln, hln⟩ : ∃ ln, Hid (A.length = ln) := ⟨_, rfl⟩
        have l48 : (ln : Int) ≤ 48 := by have := hln.out; omega
        rw [hln.out] at p ⊢
        have P1 : Hid (OT w wr t 0 K F (.slice a' ln c') A) := p
        have Q1 : Hid (Ar A K ∧ tot K = A.length) := ⟨hq.out.1, hq.out.2.2.1⟩
        clear p hq hA
        obtain ⟨wo, rfl⟩ : ∃ wo, wo = wr := ⟨_, rfl⟩
        go_wp2
        go_loopw [11] (fun i wq => ∃ (j : Nat) (K2 : Ks) (F2 : List Nat), (j : Int) ≤ len1 ∧ (j : Int) ≤ 100 ∧ Hid (OT w wq t 0 K2 F2 (.slice a' ln c') A) ∧ Hid (Ar A K2 ∧ tot K2 = A.length) ∧ i = .int .i64 j) (fun i _ => 100 - (intOf i).toNat)
        case atStart => exact ⟨0, K, F, by omega, by omega, P1, Q1, rfl⟩
        case round =>
          obtain ⟨j, K2, F2, hj, hj2, p, hq, rfl⟩ := hrel
          clear P1 Q1
          have tail2 : (¬ (j : Int) < len1 ∧ decide ((j : Int) < len1) = false) ∨ ((j : Int) < len1 ∧ ¬ (j : Int) < 100) ∨ ((j : Int) < len1 ∧ (j : Int) < 100) := by
            by_cases h : (j : Int) < len1
            · by_cases h2 : (j : Int) < 100
              · exact Or.inr (Or.inr ⟨h, h2⟩)
              · exact Or.inr (Or.inl ⟨h, h2⟩)
            · exact Or.inl ⟨h, decide_eq_false h⟩
          rw [← or_assoc] at tail2
          rcases tail2 with tail2 | ⟨h5, h6⟩
          · have FS : Hid (Fi A K2 0 0 0) := fi_start hq.out.1 hq.out.2 D1.out
            clear hq
            obtain ⟨wo2, rfl⟩ : ∃ wo2, wo2 = wr := ⟨_, rfl⟩
            rcases tail2 with ⟨h5, hd5⟩ | ⟨h5, h6⟩
            all_goals (
              go_wp2
              go_loopw [12, 13] (fun f n wq => ∃ (m fr : Nat) (K3 : Ks) (F3 : List Nat) (nw : Int), (m : Int) ≤ 101 ∧ (fr : Int) ≤ 48 ∧ nw ≤ m ∧ Hid (OT w wq t nw K3 F3 (.slice a' ln c') A) ∧ Hid (Fi A K3 m 0 fr) ∧ f = .int .i64 fr ∧ n = .int .i64 m) (fun _ n _ => 101 - (intOf n).toNat)
              case atStart => exact ⟨0, 0, K2, F2, 0, by omega, by omega, by omega, p, FS, rfl, rfl⟩
              case round =>
                obtain ⟨m, fr, K3, F3, nw, hm, hfr, hnw, p, hq, rfl, rfl⟩ := hrel
                by_cases h7 : (m : Int) ≤ 100
                · have GO : Hid (∀ _ : Unit, _) := fun _ => tgo_yes (m : Int) p.out.tx (by omega)
                  have ST : Hid (∀ w1 F', TX w1 t 3 m K3 F' → Mv wr w1 F3 F' → OT w w1 t m K3 F' (.slice a' ln c') A) := fun w1 F' q mv => p.out.act q mv
                  clear p
                  go_wp2_with fail
                  refine (GO.out ()).mono ?_
                  rintro e w1 ⟨rfl, F', q, mv⟩
                  have P3 : Hid (OT w w1 t m K3 F' (.slice a' ln c') A) := ST.out w1 F' q mv
                  clear q mv ST GO
                  obtain ⟨wo3, rfl⟩ : ∃ wo3, wo3 = wr := ⟨_, rfl⟩
                  go_wp2
                  go_loopw [12, 14] (fun f c wq => ∃ (cc fr : Nat) (K4 : Ks) (F4 : List Nat), (cc : Int) ≤ 3 ∧ (fr : Int) ≤ 48 ∧ Hid (OT w wq t m K4 F4 (.slice a' ln c') A) ∧ Hid (Fi A K4 m cc fr) ∧ f = .int .i64 fr ∧ c = .int .i64 cc) (fun _ c _ => 3 - (intOf c).toNat)
                  case atStart => exact ⟨0, fr, K3, F', by omega, hfr, P3, hq, rfl, rfl⟩
                  case round =>
                    obtain ⟨cc, fr2, K4, F4, hcc, hfr2, p, hq2, rfl, rfl⟩ := hrel
                    clear P3 hq
                    by_cases h8 : (cc : Int) < 3
                    · obtain ⟨wo4, rfl⟩ : ∃ wo4, wo4 = wr := ⟨_, rfl⟩
                      have L0 : ((K4 cc).length : Int) ≤ 48 := by have := p.out.tx.al.len (c := cc) (by omega); omega
                      go_wp2
                      go_loopw [12, 15] (fun f i wq => ∃ (ii fr : Nat) (K5 : Ks) (F5 : List Nat), (ii : Int) + ((K5 cc).length : Int) ≤ 48 ∧ (fr : Int) ≤ 48 ∧ Hid (OT w wq t m K5 F5 (.slice a' ln c') A) ∧ Hid (Fi A K5 m cc fr) ∧ f = .int .i64 fr ∧ i = .int .i64 ii) (fun _ i _ => 49 - (intOf i).toNat)
                      case atStart => exact ⟨0, fr2, K4, F4, by omega, hfr2, p, hq2, rfl, rfl⟩
                      case round =>
                        obtain ⟨ii, fr3, K5, F5, hii, hfr3, p, hq3, rfl, rfl⟩ := hrel
                        clear hq2 L0
                        have RD : Hid (∀ _ : Unit, _) := fun _ => tready_any (cc : Int) p.out.tx
                        have hi2 : (ii : Int) ≤ 48 := by omega
                        have c3 : cc < 3 := by omega
                        have hT : Hid (txR 3 m K5 cc = decide (duL m (K5 cc) ≠ [])) := by show txR 3 m K5 cc = _; unfold txR; rw [if_pos (show isC 3 cc from ⟨by omega, by omega⟩), Int.toNat_natCast]
                        rw [hT.out] at RD
                        cases hd : duL m (K5 cc) with
                        | nil =>
                          rw [hd] at RD
                          have NX : Hid (Fi A K5 m (cc + 1) fr3) := fi_next hq3.out hd
                          rw [show decide (([] : List It) ≠ []) = false from by simp] at RD
                          clear hd hq3 hT
                          go_wp2_with fail
                          refine (RD.out ()).mono ?_
                          rintro e w2 ⟨rfl, rfl⟩
                          go_wp2
                          go_roundw
                          case rel => exact ⟨cc + 1, fr3, K5, F5, by omega, hfr3, p, NX, rfl, by go_num⟩
                          case measure => simp [intOf]; omega
                        | cons x R =>
                          rw [hd] at RD
                          rw [show decide (x :: R ≠ []) = true from by simp] at RD
                          obtain ⟨n1, n2, n3, n4, n5⟩ := fi_fire p.out.tx.al hq3.out c3 hd
                          have FI : Hid (∀ _ : Unit, _) := fun _ => fire_yes cc c3 p.out.tx hd
                          have L2 : ((up K5 cc (rid x.2 (K5 cc)) cc).length : Int) + 1 = (K5 cc).length := by omega
                          have NX : Hid (Fi A (up K5 cc (rid x.2 (K5 cc))) m cc (fr3 + 1)) := n1
                          have fr4 : (fr3 : Int) + 1 ≤ 48 := by have := n1.sum; have := hln.out; omega
                          have ST : Hid (∀ w1 F', TX w1 t 3 m (up K5 cc (rid x.2 (K5 cc))) F' → Mv wr w1 F5 F' → Hid (OT w w1 t m (up K5 cc (rid x.2 (K5 cc))) F' (.slice a' ln c') A) ∧ Hid (Calls Tryd.prog 27 #[.slice a' ln c', .int .i64 x.2, .int .i64 m] w1 fun e w' => e = .returned (.bool true) ∧ w' = w1)) := fun w1 F' q mv => by
                            have o := p.out.act q mv
                            refine ⟨o, ?_⟩
                            have ow := o.own
                            rw [← arl_len A] at ow
                            have e2 : (arl A).length = ln := by rw [arl_len, hln.out]
                            rw [← e2] at ow ⊢
                            exact due_yes ow (by rw [e2]; omega) (x.2.toNat - 1) (by rw [arl_len]; exact n3) x.2 m n5 n4
                          generalize up K5 cc (rid x.2 (K5 cc)) = K6 at *
                          generalize x.2 = y at *
                          clear hd hq3 hT p n1 n2 n3 n4 n5
                          go_wp2_with fail
                          refine (RD.out ()).mono ?_
                          rintro e w2 ⟨rfl, rfl⟩
                          go_wp2_with fail
                          refine (FI.out ()).mono ?_
                          rintro e w2 ⟨rfl, F6, q, mv⟩
                          obtain ⟨P6, DU⟩ := ST.out w2 F6 q mv
                          clear q mv ST FI RD
                          go_wp2_with fail
                          refine DU.out.mono ?_
                          rintro e w3 ⟨rfl, rfl⟩
                          go_wp2
                          go_roundw
                          case rel => exact ⟨ii + 1, fr3 + 1, K6, F6, by omega, by omega, P6, NX, by go_num, by go_num⟩
                          case measure => simp [intOf]; omega
                    · obtain rfl : cc = 3 := by omega
                      go_wp2
                      go_roundw
                      case rel => exact ⟨m + 1, fr2, K4, F4, m, by omega, hfr2, by omega, p, fi_tick hq2.out, rfl, by go_num⟩
                      case measure => simp [intOf]; omega
                · obtain rfl : m = 101 := by omega
                  have e9 : fr = ln := (fi_end hq.out D1.out).trans hln.out
                  have B9 : Hid (Below w.heap.size w wr) := p.out.bel
                  subst e9
                  clear p hq
                  go_wp2_with fail
                  refine (KN.out _ B9.out).mono ?_
                  rintro e w6 ⟨rfl, b6⟩
                  go_wp2
                  go_ret
                  exact ⟨rfl, B9.out.trans (b6.mono B9.out.size)⟩)
          · obtain ⟨b0, off, rfl, hA⟩ := srow_cell (wr := wr) HM.out p.out.bel h5
            have Y1 : Hid (∀ w2 : World, Below w.heap.size w w2 → w2.cell? ⟨b0, off + j * 5 + 1, none⟩ = some (.int .i64 (X1 j 1)) ∧ w2.cell? ⟨b0, off + j * 5 + 2, none⟩ = some (.int .i64 (X1 j 2))) := fun w2 b2 => by
              obtain ⟨ab3, off3, e3, hc3⟩ := srow_cell (wr := w2) HM.out b2 h5
              cases e3
              exact ⟨hc3 1 (by decide), hc3 2 (by decide)⟩
            obtain ⟨x1, x2⟩ := Y1.out wr p.out.bel
            have PP : Hid (∀ w1 : World, Sm w1 wr → OT w w1 t 0 K2 F2 (.slice a' ln c') A) := fun w1 e => p.out.sm e
            have P : Hid (∀ w1 : World, Sm w1 wr → Calls Tryd.prog 24 #[.pointer (some ⟨t, 0, none⟩), .int .i64 (X1 j 1), .int .i64 (X1 j 2)] w1 fun e w' => e = .returned (.tuple #[.int .i64 (moN 3 K2 (X1 j 1) (X1 j 2)), .int .i64 (moE 3 K2 (X1 j 1) (X1 j 2))]) ∧ ∃ F', Hid (OT w w' t 0 (moK 3 K2 (X1 j 1) (X1 j 2)) F' (.slice a' ln c') A)) := fun w1 e => by
              refine (move_any (X1 j 1) (X1 j 2) (PP.out w1 e).tx).mono ?_
              rintro e w' ⟨rfl, F', q, mv⟩
              exact ⟨rfl, F', (PP.out w1 (by assumption)).act q mv⟩
            have S2 : Hid (Ar A (moK 3 K2 (X1 j 1) (X1 j 2)) ∧ tot (moK 3 K2 (X1 j 1) (X1 j 2)) = A.length) := by
              obtain ⟨h1, h2⟩ := ar_move p.out.tx.al hq.out.1 (X1 j 1) (X1 j 2)
              exact ⟨h1, h2.trans hq.out.2⟩
            generalize X1 j 1 = y1 at *
            generalize X1 j 2 = y2 at *
            generalize moN 3 K2 y1 y2 = nn at *
            generalize moE 3 K2 y1 y2 = e2 at *
            generalize moK 3 K2 y1 y2 = K3 at *
            clear p hq hA PP
            go_wp2
            go_region_held3 (fun w' => w'.cell? ⟨b0, off + j * 5 + 1, none⟩ = some (.int .i64 y1) ∧ w'.cell? ⟨b0, off + j * 5 + 2, none⟩ = some (.int .i64 y2)) (go_keep)
              (first | (go_at_call 24; refine (P.out _ ?_).mono ?_; exact ⟨rfl, rfl, rfl, rfl⟩; rintro e w2 ⟨rfl, F3, q2⟩; obtain ⟨k1, k2⟩ := Y1.out w2 q2.out.bel))
            all_goals go_wp2
            go_roundw
            case rel => exact ⟨j + 1, K3, F3, by omega, by omega, q2, S2, by go_num⟩
            case measure => simp [intOf]; omega

set_option maxRecDepth 100000 in
theorem lifted (os : Os) (started : os.Started) (H : Type) (enc : TypeId × Value → H) :
    ReturnsInHanded {} Tryd.checked os 4 .any (fun w args => (Rows.timerOnceSpec.pre enc Tryd.prog Tryd.f4 [] false w args ∧ laidMetH Tryd.prog laidTab w) ∧ sizedMet enc Tryd.prog Tryd.f4 (OpenSpec.ofChange Rows.timerOnceSpec) false w args)
      (Rows.timerOnceSpec.post enc Tryd.prog Tryd.f4 false true false false) := by
  refine returnsInHanded_of_change_and (C := Tryd.checked) (X := fun w _ => laidMetH Tryd.prog laidTab w) (fun _ _ _ hh h => h.of_heap hh) own started (by kernel_rfl) Tryd.func4
    (ChangeSpec.witness_shaped (enc := enc) (C := Tryd.checked) (os := os) (X := fun w _ => laidMetH Tryd.prog laidTab w) false (World.doorLaid Tryd.prog 400 os) #[.slice none 0 0, .slice none 0 0] 8 rfl (World.shaped_of_RefB (by kernel_rfl) (by kernel_rfl)) (by kernel_rfl) (by kernel_rfl) (by kernel_rfl) (door_met os _)) ?_
  intro W base args ds gs before hval0 hW _ _ hL _
  have hval : ∀ (j : Nat) t v, Tryd.f4.params[j]? = some t → args[j]? = some v → Value.okWide Tryd.prog W .any base t v := hval0
  have hW' := hW
  obtain ⟨p, q, hA0, hV, rfl, hfz, hnd⟩ := hW
  have hA : DataW.TrodAll enc Tryd.prog W 0 (fun _ => true) true Tryd.f4.params.toList args.toList ds p := hA0
  rw [Tryd.params4] at hA hval
  obtain ⟨v0, vs0, d0, ds0, p0, q0, hargs, rfl, rfl, h0, r0⟩ := trodAll_cons hA
  obtain ⟨v1, vs1, d1, ds1, p1, q1, rfl, rfl, rfl, h1, r1⟩ := trodAll_cons r0
  obtain ⟨rfl, rfl, rfl⟩ := trodAll_nil r1
  obtain rfl : args = #[v0, v1] := by cases args; simp_all
  obtain ⟨rfl, rfl⟩ := trodVars_none hV
  obtain ⟨a0, len0, cap0, rfl⟩ := okWide_slice Tryd.underlying54 (hval 0 54 v0 rfl rfl)
  have k0 := h0
  have lt0 : ∀ x ∈ p0, x.block < W.heap.size := by obtain ⟨m, hm⟩ := k0; exact DataW.trod_lt m _ _ _ hm
  obtain ⟨xs0, w0, l0, z0⟩ : ∃ xs, Row W (.slice a0 len0 cap0) xs ∧ xs.length = len0 ∧ ∀ n ∈ xs, (Lit.int .i64 n).wf = true := by
    obtain ⟨fuel, hf⟩ := h0
    rcases open_ints Tryd.underlying54 Tryd.underlying2 (by kernel_rfl) hf with ⟨hcs, _⟩ | ⟨x, l, c, zs, hcs, _, hl, hm, hz, _, hcell, hwz⟩
    · simp [Value.cells] at hcs
      obtain ⟨rfl, rfl, rfl⟩ := hcs
      exact ⟨[], Or.inl ⟨rfl, none, 0, rfl⟩, rfl, fun n hn => by simp at hn⟩
    · simp [Value.cells] at hcs
      obtain ⟨rfl, rfl, rfl⟩ := hcs
      obtain ⟨xs, r1, r2, r3⟩ := row_of_cells (zs := zs) (Or.inr ⟨_, rfl, hl, by simpa using hz, hcell⟩)
      exact ⟨xs, r1, r2, fun n hn => hwz n (r3 n hn)⟩
  obtain ⟨a1, len1, cap1, rfl⟩ := okWide_slice Tryd.underlying22 (hval 1 22 v1 rfl rfl)
  have k1 := h1
  have lt1 : ∀ x ∈ p1, x.block < W.heap.size := by obtain ⟨m, hm⟩ := k1; exact DataW.trod_lt m _ _ _ hm
  obtain ⟨X1, w1, z1⟩ : ∃ X : Nat → Nat → Int, SRow W (.slice a1 len1 cap1) len1 [true, true, true, true, true] X ∧ ∀ i, i < len1 → ∀ j, j < [true, true, true, true, true].length → [true, true, true, true, true].getD j true = true → (Lit.int .i64 (X i j)).wf = true := by
    obtain ⟨fuel, hf⟩ := h1
    exact open_recs [true, true, true, true, true] Tryd.underlying22 Tryd.underlying32 (by kernel_rfl) rfl (by decide) (fun | 0, _ => ⟨_, rfl, rfl, by kernel_rfl, Tryd.underlying3⟩ | 1, _ => ⟨_, rfl, rfl, by kernel_rfl, Tryd.underlying3⟩ | 2, _ => ⟨_, rfl, rfl, by kernel_rfl, Tryd.underlying3⟩ | 3, _ => ⟨_, rfl, rfl, by kernel_rfl, Tryd.underlying3⟩ | 4, _ => ⟨_, rfl, rfl, by kernel_rfl, Tryd.underlying2⟩ | n + 5, h => absurd h (by simp only [List.length]; omega)) hf
  obtain ⟨hT, hS⟩ := of_laid hL
  clear hA0 hval0
  refine (walk a0 len0 cap0 xs0 a1 len1 cap1 X1 W w0 l0 z0 w1 z1 hT hS).mono fun e W' ⟨he, bel⟩ => ?_
  subst he
  exact ⟨_, rfl, _, _, _, [], _, [], hW', trodAll_mk1 (shut_bool Tryd.underlying4 _), (trodAll_cons_mk (Below.trod laidOut (by kernel_rfl) (of_decide_eq_true (by kernel_rfl)) k0 bel lt0) (trodAll_cons_mk (Below.trod laidOut (by kernel_rfl) (of_decide_eq_true (by kernel_rfl)) k1 bel lt1) trodAll_mk0)), rfl, bel.frame _, fun h => by cases h⟩

theorem over : Rows.TimerOnceSaid :=
  OpenClaim.holds_of_wide 4 Tryd.f4 rfl rfl rfl rfl rfl rfl rfl ⟨rfl, rfl, rfl, rfl, rfl⟩ rfl rfl rfl rfl rfl (by kernel_rfl) Tryd.func4 (by kernel_rfl)
    (of_decide_eq_true (by kernel_rfl)) (by unfold Func.isWrapper; first | (rw [if_pos (by decide +kernel)]; kernel_rfl) | (rw [if_neg (by decide +kernel)]; exact ⟨rfl, rfl⟩))
    (fun os started H enc _ => lifted os started H enc)
end Go.Proofs.YtadaghhgmflfdaaDoor.timerOnce

namespace Go.Proofs.YtadaghhgmflfdaaDoor
open Go
theorem timerOnce_card : Rows.TimerOnceCardSaid :=
  Claim7.holds_tied_plain_at .later [] [.data] true (true, "8800100689924b8f49d9e6c3d6b5964cb4232e9978bd6e69b03e23ab13fd8e01") false
    timerOnce.over (fun _ h => by cases h) (by kernel_rfl) (fun _ h => by cases h) timerOnce_row_tie rfl ⟨rfl, rfl⟩ (by kernel_rfl) rfl
    (fun f fn hf hfn => by
      obtain rfl : f = 4 := Option.some.inj ((show Tryd.prog.funcNamed "davit/davitlaw14.TimerOnce" = some 4 by kernel_rfl).symm.trans hf) |>.symm
      obtain rfl : fn = Tryd.f4 := (Option.some.inj (Tryd.func4.symm.trans hfn)).symm
      exact ⟨by kernel_rfl, fun j t ht => by
        rw [Tryd.params4] at ht
        have hm : t ∈ [54, 22] := by simpa using Array.mem_of_getElem? ht
        have hall : ([54, 22].all fun u => !Tryd.prog.wantsStandIn u) = true := by kernel_rfl
        exact (show Tryd.prog.wantsStandIn t = false by simpa using List.all_eq_true.1 hall t hm)⟩)
    (by kernel_rfl)
#print axioms timerOnce_card
end Go.Proofs.YtadaghhgmflfdaaDoor
