/- Proved: for every list l, davitlaw03.FifoOrder(l) returns true: what is pushed comes out in that order, each number once (lists of more than 500 numbers the law itself leaves out), and l is left alone, with no condition. -/
import Derived.Test.YtdkacamnelodaaaRows
import Derived.Test.YtdkacamnelodaaaFo
import Derived.Test.YtdkacamnelodaaaFk
import Derived.Test.YtdkacamnelodaaaFr
import Derived.WalkKit
import Derived.ProofKit
import Derived.OpenShut
import Derived.Stop.Joined
import Derived.ShutString
import Derived.ChangeOld
import Derived.Below
import Derived.Carry
namespace Go.Proofs.Ytdkacamnelodaaa.fifoOrder
open Go.ChangeShapes Go.WideShapes Go.ChangeAt Go.RowKit
open Fm
set_option linter.unusedVariables false

theorem own : ownKnob Try.prog.godebug = none := by kernel_rfl
theorem laidOut : laidOutB Try.prog = true := by kernel_rfl

set_option maxHeartbeats 4000000 in
theorem walk (a0 : Option Addr) (len0 cap0 : Nat) (xs0 : List Int) (w : World) (w0 : Row w (.slice a0 len0 cap0) xs0) (l0 : xs0.length = len0) (z0 : ∀ n ∈ xs0, (Lit.int .i64 n).wf = true) :
    Calls Try.prog 4 #[.slice a0 len0 cap0] w fun e w' => e = .returned (.bool true) ∧ Below w.heap.size w w' := by
  have C : Hid (∀ _ : Unit, _) := fun _ => new_any 1024 w (by decide) (by decide)
  have KN : Hid (∀ w, _) := fun w => known_yes w
  have HR : Hid (Row w (.slice a0 len0 cap0) xs0) := w0
  have HL : Hid (xs0.length = len0) := l0
  have hP : Hid (∀ k ∈ [w.heap.size + 1, w.heap.size], w.heap.size ≤ k) := by unfold Hid; simp
  obtain ⟨s, hs⟩ : ∃ s, w.heap.size = s := ⟨_, rfl⟩
  have HS : Hid (w.heap.size = s) := hs
  rw [hs] at C hP ⊢
  clear w0 l0 z0 hs
  by_cases big : (500 : Int) < len0
  · go_enter Try.func4, Try.ntmps4
    go_wp2_with fail
    refine (C.out ()).mono ?_
    rintro e w1 ⟨rfl, q1, f1⟩
    have b1 : Hid (Below s w w1) := f1.below (by simp)
    clear f1 q1
    go_wp2_with fail
    refine (KN.out _).mono ?_
    rintro e w2 ⟨rfl, hb⟩
    go_wp2
    go_ret
    exact ⟨rfl, b1.out.trans (hb.mono (by have := b1.out.size; have := HS.out; omega))⟩
  · obtain ⟨i0, hi, hz0, hz1, hz2⟩ := info_parts Try.info3
    go_enter Try.func4, Try.ntmps4
    go_wp2_with fail
    refine (C.out ()).mono ?_
    rintro e w1 ⟨rfl, q1, f1⟩
    have b1 : Below s w w1 := f1.below (by simp)
    have Q1 : Hid (Q w1 (s + 1) s 1024 0 (List.replicate 1024 0) []) := q1
    have H1 : Hid (Below s w w1) := b1
    have hlt : s + 1 < w1.heap.size := q1.sb.lt
    have ZB : Hid (s + 1 < w1.heap.size) := hlt
    clear f1 q1 b1
    obtain ⟨base, hbase⟩ : ∃ base, w1.heap.size = base := ⟨_, rfl⟩
    have O1 : Hid (w1.ownsRow base 3 1 (.slice none 0 0) 0 [] ∧ base ≤ w1.heap.size) := ⟨World.ownsRow_nil _ _ _ _, by omega⟩
    rw [hbase] at ZB
    clear hbase hlt
    go_wp2
    go_loopw [5, 6] (fun v i wr => ∃ (k f : Nat) (r L : List Int), (k : Int) ≤ len0 ∧ Q wr (s + 1) s 1024 f r L ∧ Below s w wr ∧ Hid L.Nodup ∧ Hid ((L.length : Int) ≤ k) ∧ Hid (wr.ownsRow base 3 1 v L.length (L.map (Value.int .i64)) ∧ base ≤ wr.heap.size) ∧ i = .int .i64 k) (fun _ i _ => len0 - (intOf i).toNat)
    case atStart => exact ⟨0, 0, _, [], by omega, Q1.out, H1.out, List.nodup_nil, by simp [Hid], O1, rfl⟩
    case round =>
      obtain ⟨k, f, r, L, hk, q, hb, hn, hlk, ho, rfl⟩ := hrel
      have hz : s ≤ wr.heap.size := by have := hb.size; have := HS.out; omega
      have HB : Hid (Below s w wr) := hb
      by_cases h : (k : Int) < len0
      · obtain ⟨b0, off, rfl, hc⟩ := row_cell (wr := wr) HR.out HL.out (by rw [HS.out]; exact hb) h
        have P : Hid (∀ _ : Unit, _) := fun _ => push_any (xs0.getD k 0) wr q
        have HC : Hid (∀ w2 : World, Below s w w2 → w2.cell? ⟨b0, off + k, none⟩ = some (.int .i64 (xs0.getD k 0))) := fun w2 b2 => by
          obtain ⟨b3, off3, e3, hc3⟩ := row_cell (wr := w2) HR.out HL.out (by rw [HS.out]; exact b2) h
          cases e3
          exact hc3
        obtain ⟨x, hx⟩ : ∃ x, xs0.getD k 0 = x := ⟨_, rfl⟩
        rw [hx] at P HC hc
        clear hx q hb
        by_cases m : x ∈ L
        · rw [(pL_in 1024 L x m).1, (pL_in 1024 L x m).2] at P
          have hl2 := hlk.out
          clear m
          go_wp2_with fail
          refine (P.out ()).mono ?_
          rintro e w2 ⟨rfl, ⟨r2, q2⟩, f2⟩
          have B2 : Below s w w2 := fr_own HB.out f2 hz hP.out
          have O2 : Hid (_ ∧ _) := ⟨owns_keep ho.out.1 f2 (Nat.le_refl _) (by simp; have := ZB.out; omega), Nat.le_trans ho.out.2 f2.size⟩
          clear f2
          go_wp2
          go_roundw
          case rel => exact ⟨k + 1, _, _, L, by omega, q2, B2, hn, by unfold Hid; omega, O2, by go_num⟩
          case measure => simp [intOf]; omega
        · have hl2 := hlk.out
          have hp := pL_new 1024 L x m (by omega)
          rw [hp.1, hp.2] at P
          have N2 : Hid (L ++ [x]).Nodup := by rw [← hp.1]; exact nodup_pL _ _ _ hn.out
          clear m hp
          go_wp2_with fail
          refine (P.out ()).mono ?_
          rintro e w2 ⟨rfl, ⟨r2, q2⟩, f2⟩
          have B2 : Hid (Below s w w2) := fr_own HB.out f2 hz hP.out
          have O2 : Hid (_ ∧ _) := ⟨owns_keep ho.out.1 f2 (Nat.le_refl _) (by simp; have := ZB.out; omega), Nat.le_trans ho.out.2 f2.size⟩
          have Q2 : Hid (Q w2 (s + 1) s 1024 f r2 (L ++ [x])) := q2
          have hc2 := HC.out w2 B2.out
          have z2 := O2.out.2
          clear f2 q2
          go_wp2_with (at_builtin; refine wpList_append_own _ rfl _ _ 38 rfl base 3 i0 (.int .i64 0) 1 8 Try.underlying38 hi hz0 hz1 hz2 rfl (by decide) _ _ _ rfl (O2.out.1.alloc _) ⟨_, 0, none⟩ 1 1 [.int .i64 x] rfl rfl ?c1 ?c2 ?c3 ?c4 ?c5 ?_)
          case c1 =>
            intro j u hj
            match j, hj with
            | 0, hj => simp at hj; subst hj; exact (Blk.new _ [_] _).cell 0
          case c2 => intro u hu; simp at hu; subst hu; rfl
          case c3 => unfold maxLen; omega
          case c4 => omega
          case c5 => simp; omega
          intro v' w3 hown' hgrow _
          have F3 : Fr base [] w2 w3 := ((Fr.refl base [] w2).alloc z2 _).grown hgrow (by simp; omega) fun k hk => Or.inl (O2.out.1.lt k hk).1
          have Q3 : Q w3 (s + 1) s 1024 f r2 (L ++ [x]) := Q2.out.keep F3 ⟨ZB.out, by have := ZB.out; omega⟩ ⟨by simp, by simp⟩
          have B3 : Below s w w3 := B2.out.trans ((F3.less (by have := ZB.out; omega)).below (by simp))
          have O3 : Hid (w3.ownsRow base 3 1 v' (L ++ [x]).length ((L ++ [x]).map (Value.int .i64)) ∧ base ≤ w3.heap.size) := ⟨by simpa using hown', Nat.le_trans z2 F3.size⟩
          clear hown' hgrow F3
          go_wp2
          go_roundw
          case rel => exact ⟨k + 1, _, _, L ++ [x], by omega, Q3, B3, N2, by unfold Hid; simp; omega, O3, by go_num⟩
          case measure => simp [intOf]; omega
      · have Q2 : Hid (Q wr (s + 1) s 1024 f r L) := q
        have hlen : (L.length : Int) ≤ 1024 := by have := q.rg.hc; omega
        obtain ⟨a2, c2, rfl⟩ := own_shape ho.out.1
        obtain ⟨n, hnl⟩ : ∃ n, L.length = n := ⟨_, rfl⟩
        have NL : Hid (L.length = n) := hnl
        rw [hnl] at hlen ho ⊢
        clear hnl q hb
        go_wp2
        go_loopw [7] (fun i wr => ∃ (k f : Nat) (r : List Int), (k : Int) ≤ n ∧ Q wr (s + 1) s 1024 f r (L.drop k) ∧ wr.ownsRow base 3 1 (.slice a2 n c2) n (L.map (Value.int .i64)) ∧ Below s w wr ∧ i = .int .i64 k) (fun i _ => n - (intOf i).toNat)
        case atStart => exact ⟨0, f, r, by omega, by rw [List.drop_zero]; exact Q2.out, ho.out.1, HB.out, rfl⟩
        case round =>
          obtain ⟨k2, f2, r2, hk2, q, own, hb2, rfl⟩ := hrel
          have HB2 : Hid (Below s w wr) := hb2
          have hz2 : s ≤ wr.heap.size := by have := hb2.size; have := HS.out; omega
          by_cases h : (k2 : Int) < n
          · obtain ⟨b5, rfl, hc5⟩ := own_cell own h
            have HO : Hid (wr.ownsRow base 3 1 (.slice (some ⟨b5, 0, none⟩) n c2) n (L.map (Value.int .i64))) := own
            have P : Hid (∀ _ : Unit, _) := fun _ => pop_any wr q
            have hk3 : k2 < L.length := by have := NL.out; omega
            rw [drop_head k2 L hk3, drop_ok k2 L hk3, List.tail_drop] at P
            have KC : Hid (∀ w2 : World, w2.ownsRow base 3 1 (.slice (some ⟨b5, 0, none⟩) n c2) n (L.map (Value.int .i64)) → w2.cell? ⟨b5, k2, none⟩ = some (.int .i64 (L.getD k2 0))) := fun w2 o2 => by
              obtain ⟨b6, e6, hc6⟩ := own_cell o2 h
              cases e6
              exact hc6
            generalize L.getD k2 0 = x at *
            clear q own hb2 hk3 hc5
            go_wp2_with fail
            refine (P.out ()).mono ?_
            rintro e w3 ⟨rfl, ⟨f3, q3⟩, g3⟩
            have B3 : Below s w w3 := fr_own HB2.out g3 hz2 hP.out
            have O3 := owns_keep HO.out g3 (Nat.le_refl _) (by simp; have := ZB.out; omega)
            have hc7 := KC.out w3 O3
            clear g3
            go_wp2
            go_roundw
            case rel => exact ⟨k2 + 1, _, _, by omega, q3, O3, B3, by go_num⟩
            case measure => simp [intOf]; omega
          · have e : L.drop k2 = [] := List.drop_eq_nil_of_le (by have := NL.out; omega)
            rw [e] at q
            have P : Hid (∀ _ : Unit, _) := fun _ => pop_any wr q
            rw [show fE [] = 12 from rfl, show List.headD ([] : List Int) 0 = 0 from rfl] at P
            clear q own hb2 e
            go_wp2_with fail
            refine (P.out ()).mono ?_
            rintro e w3 ⟨rfl, ⟨f3, q3⟩, g3⟩
            have B3 : Hid (Below s w w3) := fr_own HB2.out g3 hz2 hP.out
            have z3 : s ≤ w3.heap.size := by have := B3.out.size; have := HS.out; omega
            clear g3 q3
            go_wp2_with fail
            refine (KN.out _).mono ?_
            rintro e w5 ⟨rfl, hb5⟩
            go_wp2
            go_ret
            exact ⟨rfl, B3.out.trans (hb5.mono z3)⟩

set_option maxRecDepth 100000 in
theorem lifted (os : Os) (started : os.Started) (H : Type) (enc : TypeId × Value → H) :
    ReturnsInHanded {} Try.checked os 4 .any (Rows.fifoOrderSpec.pre6 enc Try.prog Try.f4 Rows.fifoOrderRow.domain false) (Rows.fifoOrderSpec.post enc Try.prog Try.f4 false true false false) := by
  refine returnsInHanded_of_change (C := Try.checked) own started (by kernel_rfl) Try.func4
    (ChangeSpec.witness6 (enc := enc) (C := Try.checked) false ⟨#[], #[.slice none 0 0], []⟩ 8 (by kernel_rfl) (by kernel_rfl) (by kernel_rfl) (by kernel_rfl)) ?_
  intro W base args ds gs before hval0 hW hcnd _
  have hval : ∀ (j : Nat) t v, Try.f4.params[j]? = some t → args[j]? = some v → Value.okWide Try.prog W .any base t v := hval0
  have hW' := hW
  obtain ⟨p, q, hA0, hV, rfl, hfz, hnd⟩ := hW
  have hA : DataW.TrodAll enc Try.prog W 0 (fun _ => true) true Try.f4.params.toList args.toList ds p := hA0
  rw [Try.params4] at hA hval
  obtain ⟨v0, vs0, d0, ds0, p0, q0, hargs, rfl, rfl, h0, r0⟩ := trodAll_cons hA
  obtain ⟨rfl, rfl, rfl⟩ := trodAll_nil r0
  obtain rfl : args = #[v0] := by cases args; simp_all
  obtain ⟨rfl, rfl⟩ := trodVars_none hV
  obtain ⟨a0, len0, cap0, rfl⟩ := okWide_slice Try.underlying38 (hval 0 38 v0 rfl rfl)
  have k0 := h0
  have lt0 : ∀ x ∈ p0, x.block < W.heap.size := by obtain ⟨m, hm⟩ := k0; exact DataW.trod_lt m _ _ _ hm
  obtain ⟨xs0, w0, l0, z0⟩ : ∃ xs, Row W (.slice a0 len0 cap0) xs ∧ xs.length = len0 ∧ ∀ n ∈ xs, (Lit.int .i64 n).wf = true := by
    obtain ⟨fuel, hf⟩ := h0
    rcases open_ints Try.underlying38 Try.underlying3 (by kernel_rfl) hf with ⟨hcs, _⟩ | ⟨x, l, c, zs, hcs, _, hl, hm, hz, _, hcell, hwz⟩
    · simp [Value.cells] at hcs
      obtain ⟨rfl, rfl, rfl⟩ := hcs
      exact ⟨[], Or.inl ⟨rfl, none, 0, rfl⟩, rfl, fun n hn => by simp at hn⟩
    · simp [Value.cells] at hcs
      obtain ⟨rfl, rfl, rfl⟩ := hcs
      obtain ⟨xs, r1, r2, r3⟩ := row_of_cells (zs := zs) (Or.inr ⟨_, rfl, hl, by simpa using hz, hcell⟩)
      exact ⟨xs, r1, r2, fun n hn => hwz n (r3 n hn)⟩
  clear hA0 hval0
  refine (walk a0 len0 cap0 xs0 W w0 l0 z0).mono fun e W' ⟨he, bel⟩ => ?_
  subst he
  exact ⟨_, rfl, _, _, _, [], _, [], hW', trodAll_mk1 (shut_bool Try.underlying4 _), (trodAll_cons_mk (Below.trod laidOut (by kernel_rfl) (of_decide_eq_true (by kernel_rfl)) k0 bel lt0) trodAll_mk0), rfl, bel.frame _, fun h => by cases h⟩

theorem over : Rows.FifoOrderSaid :=
  OpenClaim.holds_of_wide 4 Try.f4 rfl rfl rfl rfl rfl rfl rfl ⟨rfl, rfl, rfl, rfl, rfl⟩ rfl rfl rfl rfl rfl (by kernel_rfl) Try.func4 (by kernel_rfl)
    (of_decide_eq_true (by kernel_rfl)) (by unfold Func.isWrapper; first | (rw [if_pos (by decide +kernel)]; kernel_rfl) | (rw [if_neg (by decide +kernel)]; exact ⟨rfl, rfl⟩))
    (fun os started H enc _ => lifted os started H enc)
end Go.Proofs.Ytdkacamnelodaaa.fifoOrder

namespace Go.Proofs.Ytdkacamnelodaaa
open Go
theorem fifoOrder_holds : Rows.FifoOrderSaid := fifoOrder.over
#print axioms fifoOrder_holds
end Go.Proofs.Ytdkacamnelodaaa
