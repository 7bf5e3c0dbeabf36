/- Proved: for every list l, davitlaw03.FifoRound(l) returns true: as many turns as there are numbers leave a queue as it was (lists of more than 300 numbers the law itself leaves out), and l is left alone, with no condition. -/
import Derived.Test.YtdkacamnelodaaaRows
import Derived.Test.YtdkacamnelodaaaFo
import Derived.Test.YtdkacamnelodaaaFk
import Derived.Test.YtdkacamnelodaaaFr
import Derived.WalkKit
import Derived.ProofKit
import Derived.OpenShut
import Derived.Stop.Joined
import Derived.ShutString
import Derived.ChangeOld
import Derived.Below
import Derived.Carry
namespace Go.Proofs.Ytdkacamnelodaaa.fifoRound
open Go.ChangeShapes Go.WideShapes Go.ChangeAt Go.RowKit
open Fm
set_option linter.unusedVariables false

theorem own : ownKnob Try.prog.godebug = none := by kernel_rfl
theorem laidOut : laidOutB Try.prog = true := by kernel_rfl

set_option maxHeartbeats 4000000 in
theorem walk (a0 : Option Addr) (len0 cap0 : Nat) (xs0 : List Int) (w : World) (w0 : Row w (.slice a0 len0 cap0) xs0) (l0 : xs0.length = len0) (z0 : ∀ n ∈ xs0, (Lit.int .i64 n).wf = true) :
    Calls Try.prog 5 #[.slice a0 len0 cap0] w fun e w' => e = .returned (.bool true) ∧ Below w.heap.size w w' := by
  have C : Hid (∀ _ : Unit, _) := fun _ => new_any 1024 w (by decide) (by decide)
  have KN : Hid (∀ w, _) := fun w => known_yes w
  have HR : Hid (Row w (.slice a0 len0 cap0) xs0) := w0
  have HL : Hid (xs0.length = len0) := l0
  have hP : Hid (∀ k ∈ [w.heap.size + 1, w.heap.size], w.heap.size ≤ k) := by unfold Hid; simp
  obtain ⟨s, hs⟩ : ∃ s, w.heap.size = s := ⟨_, rfl⟩
  have HS : Hid (w.heap.size = s) := hs
  rw [hs] at C hP ⊢
  clear w0 l0 z0 hs
  by_cases big : (300 : Int) < len0
  · go_enter Try.func5, Try.ntmps5
    go_wp2_with fail
    refine (C.out ()).mono ?_
    rintro e w1 ⟨rfl, q1, f1⟩
    have b1 : Hid (Below s w w1) := f1.below (by simp)
    clear f1 q1
    go_wp2_with fail
    refine (KN.out _).mono ?_
    rintro e w2 ⟨rfl, hb⟩
    go_wp2
    go_ret
    exact ⟨rfl, b1.out.trans (hb.mono (by have := b1.out.size; have := HS.out; omega))⟩
  · go_enter Try.func5, Try.ntmps5
    go_wp2_with fail
    refine (C.out ()).mono ?_
    rintro e w1 ⟨rfl, q1, f1⟩
    have b1 : Below s w w1 := f1.below (by simp)
    have Q1 : Hid (Q w1 (s + 1) s 1024 0 (List.replicate 1024 0) []) := q1
    have H1 : Hid (Below s w w1) := b1
    clear f1 q1 b1
    go_wp2
    go_loopw [5] (fun i wr => ∃ (k f : Nat) (r L : List Int), (k : Int) ≤ len0 ∧ Q wr (s + 1) s 1024 f r L ∧ Below s w wr ∧ Hid L.Nodup ∧ i = .int .i64 k) (fun i _ => len0 - (intOf i).toNat)
    case atStart => exact ⟨0, 0, _, [], by omega, Q1.out, H1.out, List.nodup_nil, rfl⟩
    case round =>
      obtain ⟨k, f, r, L, hk, q, hb, hn, rfl⟩ := hrel
      by_cases h : (k : Int) < len0
      · obtain ⟨b0, off, rfl, hc⟩ := row_cell (wr := wr) HR.out HL.out (by rw [HS.out]; exact hb) h
        have P : Hid (∀ _ : Unit, _) := fun _ => push_any (xs0.getD k 0) wr q
        have hz : s ≤ wr.heap.size := by have := hb.size; have := HS.out; omega
        have HB : Hid (Below s w wr) := hb
        have N2 : Hid (pL 1024 L (xs0.getD k 0)).Nodup := nodup_pL _ _ _ hn.out
        generalize xs0.getD k 0 = x at *
        generalize pL 1024 L x = L2 at *
        generalize pE 1024 L x = e2 at *
        clear q hb hn
        go_wp2_with fail
        refine (P.out ()).mono ?_
        rintro e w2 ⟨rfl, ⟨r2, q2⟩, f2⟩
        have B2 : Below s w w2 := fr_own HB.out f2 hz hP.out
        clear f2
        go_wp2
        go_roundw
        case rel => exact ⟨k + 1, _, _, L2, by omega, q2, B2, N2, by go_num⟩
        case measure => simp [intOf]; omega
      · have P : Hid (∀ _ : Unit, _) := fun _ => list_any wr q
        have hz : s ≤ wr.heap.size := by have := hb.size; have := HS.out; omega
        have HB : Hid (Below s w wr) := hb
        have HQ : Hid (Q wr (s + 1) s 1024 f r L) := q
        have hlen : (L.length : Int) ≤ 1024 := by have := q.rg.hc; omega
        have hlt : s + 1 < wr.heap.size := q.sb.lt
        clear q hb
        go_wp2_with fail
        refine (P.out ()).mono ?_
        rintro e w2 ⟨v, rfl, own, f2⟩
        obtain ⟨a2, c2, rfl⟩ := own_shape own
        have B2 : Hid (Below s w w2) := HB.out.trans (f2.mono hz)
        have Q2 : Hid (Q w2 (s + 1) s 1024 f r L) := HQ.out.keep (Fr.of_below f2) ⟨hlt, by omega⟩ ⟨by simp, by simp⟩
        have O2 : Hid (w2.ownsRow wr.heap.size 3 1 (.slice a2 L.length c2) L.length (L.map (Value.int .i64))) := own
        have ZB : Hid (s + 1 < wr.heap.size) := hlt
        clear own f2 P HQ HB hz hlt
        obtain ⟨n, hnl⟩ : ∃ n, L.length = n := ⟨_, rfl⟩
        have NL : Hid (L.length = n) := hnl
        rw [hnl] at hlen ⊢
        generalize wr.heap.size = base at *
        clear hnl
        go_wp2
        go_loopw [7] (fun i wq => ∃ (k f : Nat) (r : List Int), (k : Int) ≤ n ∧ Q wq (s + 1) s 1024 f r (rot k L) ∧ wq.ownsRow base 3 1 (.slice a2 L.length c2) L.length (L.map (Value.int .i64)) ∧ Below s w wq ∧ Hid (rot k L).Nodup ∧ i = .int .i64 k) (fun i _ => n - (intOf i).toNat)
        case atStart => exact ⟨0, f, r, by omega, by rw [rot_zero]; exact Q2.out, O2.out, B2.out, by rw [rot_zero]; exact hn, rfl⟩
        case round =>
          obtain ⟨k2, f2, r2, hk2, q, own, hb, hn2, rfl⟩ := hrel
          have HO : Hid (wr.ownsRow base 3 1 (.slice a2 L.length c2) L.length (L.map (Value.int .i64))) := own
          have HB : Hid (Below s w wr) := hb
          have hz : s ≤ wr.heap.size := by have := hb.size; have := HS.out; omega
          by_cases h : (k2 : Int) < n
          · have P : Hid (∀ _ : Unit, _) := fun _ => turn_any wr q hn2.out
            have N3 : Hid (rot (k2 + 1) L).Nodup := by rw [← rot_step k2 L (by have := NL.out; omega)]; exact nodup_tL _ hn2.out
            rw [rot_ok k2 L (by have := NL.out; omega), rot_step k2 L (by have := NL.out; omega)] at P
            clear q own hb hn2
            go_wp2_with fail
            refine (P.out ()).mono ?_
            rintro e w3 ⟨rfl, ⟨f3, r3, q3⟩, g3⟩
            have B3 : Below s w w3 := fr_own HB.out g3 hz hP.out
            have O3 := owns_keep HO.out g3 (Nat.le_refl _) (by simp; have := ZB.out; omega)
            clear g3
            go_wp2
            go_roundw
            case rel => exact ⟨k2 + 1, _, _, by omega, q3, O3, B3, N3, by go_num⟩
            case measure => simp [intOf]; omega
          · have e : rot k2 L = L := by
              have := NL.out
              rw [show k2 = L.length by omega, rot_all]
            rw [e] at q
            have P : Hid (∀ _ : Unit, _) := fun _ => list_any wr q
            clear q own hb hn2 e
            go_wp2_with fail
            refine (P.out ()).mono ?_
            rintro e w3 ⟨v3, rfl, o3, g3⟩
            have B3 : Hid (Below s w w3) := HB.out.trans (g3.mono hz)
            have R1 := row_of_owns o3
            have R2 := (row_of_owns HO.out).keep (B := wr.heap.size) (Fr.of_below g3) (Nat.le_refl _)
            have I : Hid (∀ _ : Unit, _) := fun _ => ints_any L v3 _ w3 (by have := NL.out; omega) R1 R2
            rw [NL.out] at I
            have z3 : s ≤ w3.heap.size := by have := B3.out.size; have := HS.out; omega
            clear o3 g3 R1 R2
            go_wp2_with fail
            refine (I.out ()).mono ?_
            rintro e w4 ⟨rfl, d, rfl⟩
            go_wp2_with fail
            refine (KN.out _).mono ?_
            rintro e w5 ⟨rfl, hb5⟩
            go_wp2
            go_ret
            have B4 : Below s w (w3.drewN d) := ⟨B3.out.os, B3.out.tape, B3.out.output, B3.out.size, B3.out.block⟩
            exact ⟨rfl, B4.trans (hb5.mono z3)⟩

set_option maxRecDepth 100000 in
theorem lifted (os : Os) (started : os.Started) (H : Type) (enc : TypeId × Value → H) :
    ReturnsInHanded {} Try.checked os 5 .any (Rows.fifoRoundSpec.pre6 enc Try.prog Try.f5 Rows.fifoRoundRow.domain false) (Rows.fifoRoundSpec.post enc Try.prog Try.f5 false true false false) := by
  refine returnsInHanded_of_change (C := Try.checked) own started (by kernel_rfl) Try.func5
    (ChangeSpec.witness6 (enc := enc) (C := Try.checked) false ⟨#[], #[.slice none 0 0], []⟩ 8 (by kernel_rfl) (by kernel_rfl) (by kernel_rfl) (by kernel_rfl)) ?_
  intro W base args ds gs before hval0 hW hcnd _
  have hval : ∀ (j : Nat) t v, Try.f5.params[j]? = some t → args[j]? = some v → Value.okWide Try.prog W .any base t v := hval0
  have hW' := hW
  obtain ⟨p, q, hA0, hV, rfl, hfz, hnd⟩ := hW
  have hA : DataW.TrodAll enc Try.prog W 0 (fun _ => true) true Try.f5.params.toList args.toList ds p := hA0
  rw [Try.params5] at hA hval
  obtain ⟨v0, vs0, d0, ds0, p0, q0, hargs, rfl, rfl, h0, r0⟩ := trodAll_cons hA
  obtain ⟨rfl, rfl, rfl⟩ := trodAll_nil r0
  obtain rfl : args = #[v0] := by cases args; simp_all
  obtain ⟨rfl, rfl⟩ := trodVars_none hV
  obtain ⟨a0, len0, cap0, rfl⟩ := okWide_slice Try.underlying38 (hval 0 38 v0 rfl rfl)
  have k0 := h0
  have lt0 : ∀ x ∈ p0, x.block < W.heap.size := by obtain ⟨m, hm⟩ := k0; exact DataW.trod_lt m _ _ _ hm
  obtain ⟨xs0, w0, l0, z0⟩ : ∃ xs, Row W (.slice a0 len0 cap0) xs ∧ xs.length = len0 ∧ ∀ n ∈ xs, (Lit.int .i64 n).wf = true := by
    obtain ⟨fuel, hf⟩ := h0
    rcases open_ints Try.underlying38 Try.underlying3 (by kernel_rfl) hf with ⟨hcs, _⟩ | ⟨x, l, c, zs, hcs, _, hl, hm, hz, _, hcell, hwz⟩
    · simp [Value.cells] at hcs
      obtain ⟨rfl, rfl, rfl⟩ := hcs
      exact ⟨[], Or.inl ⟨rfl, none, 0, rfl⟩, rfl, fun n hn => by simp at hn⟩
    · simp [Value.cells] at hcs
      obtain ⟨rfl, rfl, rfl⟩ := hcs
      obtain ⟨xs, r1, r2, r3⟩ := row_of_cells (zs := zs) (Or.inr ⟨_, rfl, hl, by simpa using hz, hcell⟩)
      exact ⟨xs, r1, r2, fun n hn => hwz n (r3 n hn)⟩
  clear hA0 hval0
  refine (walk a0 len0 cap0 xs0 W w0 l0 z0).mono fun e W' ⟨he, bel⟩ => ?_
  subst he
  exact ⟨_, rfl, _, _, _, [], _, [], hW', trodAll_mk1 (shut_bool Try.underlying4 _), (trodAll_cons_mk (Below.trod laidOut (by kernel_rfl) (of_decide_eq_true (by kernel_rfl)) k0 bel lt0) trodAll_mk0), rfl, bel.frame _, fun h => by cases h⟩

theorem over : Rows.FifoRoundSaid :=
  OpenClaim.holds_of_wide 5 Try.f5 rfl rfl rfl rfl rfl rfl rfl ⟨rfl, rfl, rfl, rfl, rfl⟩ rfl rfl rfl rfl rfl (by kernel_rfl) Try.func5 (by kernel_rfl)
    (of_decide_eq_true (by kernel_rfl)) (by unfold Func.isWrapper; first | (rw [if_pos (by decide +kernel)]; kernel_rfl) | (rw [if_neg (by decide +kernel)]; exact ⟨rfl, rfl⟩))
    (fun os started H enc _ => lifted os started H enc)
end Go.Proofs.Ytdkacamnelodaaa.fifoRound

namespace Go.Proofs.Ytdkacamnelodaaa
open Go
theorem fifoRound_holds : Rows.FifoRoundSaid := fifoRound.over
#print axioms fifoRound_holds
end Go.Proofs.Ytdkacamnelodaaa
