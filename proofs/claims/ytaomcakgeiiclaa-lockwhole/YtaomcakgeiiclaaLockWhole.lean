/- Proved: for every list acts, davitlaw05.LockWhole(acts) returns true: what is read between a start and an end without another stamp is what one writer left (200 acts at most, as the law itself says), and acts is left alone, with no condition. -/
import Derived.Test.YtaomcakgeiiclaaRows
import Derived.Test.YtaomcakgeiiclaaFo
import Derived.Test.YtaomcakgeiiclaaLd
import Derived.Test.YtaomcakgeiiclaaLe
import Derived.WalkKit
import Derived.ProofKit
import Derived.OpenShut
import Derived.Stop.Joined
import Derived.ShutString
import Derived.ChangeOld
import Derived.Below
import Derived.Carry
import Derived.Test.YtaomcakgeiiclaaFs
namespace Go.Proofs.Ytaomcakgeiiclaa.lockWhole
open Go.ChangeShapes Go.WideShapes Go.ChangeAt Go.RowKit
open Fm Ll
set_option linter.unusedVariables false

theorem own : ownKnob Try.prog.godebug = none := by kernel_rfl
theorem laidOut : laidOutB Try.prog = true := by kernel_rfl

set_option maxRecDepth 100000 in
set_option maxHeartbeats 4000000 in
theorem walk (a0 : Option Addr) (len0 cap0 : Nat) (X0 : Nat → Nat → Int) (w : World) (w0 : SRow w (.slice a0 len0 cap0) len0 [true, true, true, true] X0) (z0 : ∀ i, i < len0 → ∀ j, j < [true, true, true, true].length → [true, true, true, true].getD j true = true → (Lit.int .i64 (X0 i j)).wf = true) :
    Calls Try.prog 6 #[.slice a0 len0 cap0] w fun e w' => e = .returned (.bool true) ∧ Below w.heap.size w w' := by
  have KN : Hid (∀ w, _) := fun w => known_yes w
  have HR : Hid (SRow w (.slice a0 len0 cap0) len0 [true, true, true, true] X0) := w0
  have PW0 : Hid (PW w (w.alloc (.cells #[.int .i64 0, .int .i64 0, .int .i64 0, .int .i64 0] 46)) w.heap.size ⟨0, 0, 0, 0⟩) := pw_new w
  clear w0 z0
  go_enter Try.func6, Try.ntmps6
  go_wp2
  go_loopw [4, 5, 6] (fun x y i wr => ∃ (k : Nat) (v : PV) (p q : Int), (k : Int) ≤ 200 ∧ (k : Int) ≤ len0 ∧ PW w wr w.heap.size v ∧ Hid ((v.t : Int) ≤ k) ∧ Hid (Wh v p q) ∧ x = .int .i64 p ∧ y = .int .i64 q ∧ i = .int .i64 k) (fun _ _ i _ => 200 - (intOf i).toNat)
  case atStart => exact ⟨0, _, 0, 0, by omega, by omega, PW0.out, by simp [Hid], fun _ => ⟨rfl, rfl⟩, rfl, rfl, rfl⟩
  case round =>
    obtain ⟨k, v, p, q, hk, hk2, pw, ht, hpq, rfl, rfl, rfl⟩ := hrel
    clear PW0
    by_cases h : (k : Int) < len0
    · by_cases h2 : (k : Int) < 200
      · obtain ⟨ab, off, rfl, hA⟩ := srow_cell (wr := wr) HR.out (pw.bel) h
        have x0 := hA 0 (by decide)
        have x1 := hA 1 (by decide)
        have x2 := hA 2 (by decide)
        have x3 := hA 3 (by decide)
        simp only [List.length_cons, List.length_nil, Nat.zero_add, Nat.reduceAdd, Nat.add_zero, fval, List.getD_cons_zero, List.getD_cons_succ, if_true] at x0 x1 x2 x3
        clear hA
        generalize X0 k 0 = y0 at *
        generalize X0 k 1 = y1 at *
        generalize X0 k 2 = y2 at *
        generalize X0 k 3 = y3 at *
        have pw2 := pw.alloc (.cells #[.int .i64 y0, .int .i64 y1, .int .i64 y2, .int .i64 y3] 51)
        have tb : (v.t : Int) ≤ 1000 := by have := ht.out; omega
        have A2 : Hid (∀ (w2 : World) (v2 : PV), PB 46 w2 w.heap.size v2 → Fr (wr.alloc (.cells #[.int .i64 y0, .int .i64 y1, .int .i64 y2, .int .i64 y3] 51)).heap.size [w.heap.size] (wr.alloc (.cells #[.int .i64 y0, .int .i64 y1, .int .i64 y2, .int .i64 y3] 51)) w2 → PW w w2 w.heap.size v2) := fun w2 v2 a b => pw2.act a b
        by_cases t0 : y0.tmod 4 = 0
        · have e0 : (y0.tmod 4 == 0) = true := by simpa using t0
          have C : Hid (∀ _ : Unit, _) := fun _ => begin_any y1 _ pw2.pb tb
          have T2 : Hid (_ ∧ _) := wh_bg hpq.out y1
          clear t0 pw pw2 tb
          generalize bgV v y1 = v2 at *
          go_wp2_with fail
          refine (C.out ()).mono ?_
          rintro e w2 ⟨rfl, b2, f2⟩
          have P2 := A2.out _ _ b2 f2
          clear b2 f2
          go_wp2
          go_roundw
          case rel => exact ⟨k + 1, v2, p, q, by omega, by omega, P2, by have := T2.out.2; have := ht.out; unfold Hid; omega, T2.out.1, rfl, rfl, by go_num⟩
          case measure => simp [intOf]; omega
        · have e0 : (y0.tmod 4 == 0) = false := by simpa using t0
          by_cases t1 : y0.tmod 4 = 1
          · have e1 : (y0.tmod 4 == 1) = true := by simpa using t1
            have C : Hid (∀ _ : Unit, _) := fun _ => put_any y1 y2 y3 _ pw2.pb tb
            have T2 : Hid (_ ∧ _) := wh_pt hpq.out y1 y2 y3
            clear t0 t1 pw pw2 tb
            generalize ptV v y1 y2 y3 = v2 at *
            go_wp2_with fail
            refine (C.out ()).mono ?_
            rintro e w2 ⟨rfl, b2, f2⟩
            have P2 := A2.out _ _ b2 f2
            clear b2 f2
            go_wp2
            go_roundw
            case rel => exact ⟨k + 1, v2, p, q, by omega, by omega, P2, by have := T2.out.2; have := ht.out; unfold Hid; omega, T2.out.1, rfl, rfl, by go_num⟩
            case measure => simp [intOf]; omega
          · have e1 : (y0.tmod 4 == 1) = false := by simpa using t1
            by_cases t2 : y0.tmod 4 = 2
            · have e2 : (y0.tmod 4 == 2) = true := by simpa using t2
              have C : Hid (∀ _ : Unit, _) := fun _ => end_any y1 _ pw2.pb tb
              rcases wh_en (v := v) y1 with ⟨n1, n2, n3, n4, n5⟩ | ⟨n1, n2⟩
              · have T2 : Hid (_ ∧ _) := ⟨n2, n3⟩
                rw [n1] at C
                have G : Hid (∀ w2 : World, PB 46 w2 w.heap.size (enV v y1) → _) := fun w2 b => get_any 0 w2 b
                have G2 : Hid (∀ w2 : World, PB 46 w2 w.heap.size (enV v y1) → _) := fun w2 b => get_any 1 w2 b
                rw [show gN (enV v y1) 0 = v.x0 by rw [← n4]; rfl] at G
                rw [show gN (enV v y1) 1 = v.x1 by rw [← n5]; rfl] at G2
                clear t0 t1 t2 pw pw2 tb n1 n2 n3 n4 n5
                generalize enV v y1 = v2 at *
                go_wp2_with fail
                refine (C.out ()).mono ?_
                rintro e w2 ⟨rfl, b2, f2⟩
                have P2 := A2.out _ _ b2 f2
                have B2 : Hid (PB 46 w2 w.heap.size v2) := b2
                clear b2 f2
                go_wp2_with fail
                refine (G.out _ B2.out).mono ?_
                rintro e w3 ⟨rfl, rfl⟩
                go_wp2_with fail
                refine (G2.out _ B2.out).mono ?_
                rintro e w3 ⟨rfl, rfl⟩
                go_wp2
                go_roundw
                case rel => exact ⟨k + 1, v2, v.x0, v.x1, by omega, by omega, P2, by have := T2.out.2; have := ht.out; unfold Hid; omega, T2.out.1, rfl, rfl, by go_num⟩
                case measure => simp [intOf]; omega
              · rw [n2] at C
                clear t0 t1 t2 pw pw2 tb n2
                generalize enE v y1 = ee at *
                go_wp2_with fail
                refine (C.out ()).mono ?_
                rintro e w2 ⟨rfl, b2, f2⟩
                have P2 := A2.out _ _ b2 f2
                clear b2 f2
                go_wp2
                go_roundw
                case rel => exact ⟨k + 1, v, p, q, by omega, by omega, P2, by have := ht.out; unfold Hid; omega, hpq, rfl, rfl, by go_num⟩
                case measure => simp [intOf]; omega
            · have e2 : (y0.tmod 4 == 2) = false := by simpa using t2
              have C : Hid (∀ _ : Unit, _) := fun _ => start_any _ pw2.pb
              have G : Hid (∀ _ : Unit, _) := fun _ => get_any 0 _ pw2.pb
              have G2 : Hid (∀ _ : Unit, _) := fun _ => get_any 1 _ pw2.pb
              have AG : Hid (∀ _ : Unit, _) := fun _ => again_any (v.t : Int) _ pw2.pb
              rw [show gN v 0 = v.x0 from rfl] at G
              rw [show gN v 1 = v.x1 from rfl] at G2
              rw [show (((v.t : Int)) != (v.t : Int)) = false by simp] at AG
              have P2 : Hid (PW w _ w.heap.size v) := pw2
              clear t0 t1 t2 pw pw2 tb
              cases o : odd v with
              | true =>
                rw [show sN v = 0 from if_pos o, show sE v = 7 from if_pos o] at C
                clear o
                go_wp2_with fail
                refine (C.out ()).mono ?_
                rintro e w2 ⟨rfl, rfl⟩
                go_wp2_with fail
                refine (G.out ()).mono ?_
                rintro e w3 ⟨rfl, rfl⟩
                go_wp2_with fail
                refine (G2.out ()).mono ?_
                rintro e w3 ⟨rfl, rfl⟩
                go_wp2
                go_roundw
                case rel => exact ⟨k + 1, v, p, q, by omega, by omega, P2.out, by have := ht.out; unfold Hid; omega, hpq, rfl, rfl, by go_num⟩
                case measure => simp [intOf]; omega
              | false =>
                rw [show sN v = v.t from if_neg (by rw [o]; simp), show sE v = 0 from if_neg (by rw [o]; simp)] at C
                obtain ⟨d1, d2⟩ := hpq.out o
                subst d1
                subst d2
                clear o
                go_wp2_with fail
                refine (C.out ()).mono ?_
                rintro e w2 ⟨rfl, rfl⟩
                go_wp2_with fail
                refine (G.out ()).mono ?_
                rintro e w3 ⟨rfl, rfl⟩
                go_wp2_with fail
                refine (G2.out ()).mono ?_
                rintro e w3 ⟨rfl, rfl⟩
                go_wp2_with fail
                refine (AG.out ()).mono ?_
                rintro e w3 ⟨rfl, rfl⟩
                go_wp2
                go_roundw
                case rel => exact ⟨k + 1, v, _, _, by omega, by omega, P2.out, by have := ht.out; unfold Hid; omega, hpq, rfl, rfl, by go_num⟩
                case measure => simp [intOf]; omega
      · have hb := pw.bel
        have hz := Blk.lt pw.pb
        clear pw
        go_wp2_with fail
        refine (KN.out wr).mono ?_
        rintro e u5 ⟨rfl, hb5⟩
        go_wp2
        go_ret
        exact ⟨rfl, hb.trans (hb5.mono (by omega))⟩
    · have hb := pw.bel
      have hz := Blk.lt pw.pb
      have hd : decide ((k : Int) < len0) = false := decide_eq_false h
      clear pw
      go_wp2_with fail
      refine (KN.out wr).mono ?_
      rintro e u5 ⟨rfl, hb5⟩
      go_wp2
      go_ret
      exact ⟨rfl, hb.trans (hb5.mono (by omega))⟩

set_option maxRecDepth 100000 in
theorem lifted (os : Os) (started : os.Started) (H : Type) (enc : TypeId × Value → H) :
    ReturnsInHanded {} Try.checked os 6 .any (Rows.lockWholeSpec.pre6 enc Try.prog Try.f6 Rows.lockWholeRow.domain false) (Rows.lockWholeSpec.post enc Try.prog Try.f6 false true false false) := by
  refine returnsInHanded_of_change (C := Try.checked) own started (by kernel_rfl) Try.func6
    (ChangeSpec.witness6 (enc := enc) (C := Try.checked) false ⟨#[], #[.slice none 0 0], []⟩ 8 (by kernel_rfl) (by kernel_rfl) (by kernel_rfl) (by kernel_rfl)) ?_
  intro W base args ds gs before hval0 hW hcnd _
  have hval : ∀ (j : Nat) t v, Try.f6.params[j]? = some t → args[j]? = some v → Value.okWide Try.prog W .any base t v := hval0
  have hW' := hW
  obtain ⟨p, q, hA0, hV, rfl, hfz, hnd⟩ := hW
  have hA : DataW.TrodAll enc Try.prog W 0 (fun _ => true) true Try.f6.params.toList args.toList ds p := hA0
  rw [Try.params6] at hA hval
  obtain ⟨v0, vs0, d0, ds0, p0, q0, hargs, rfl, rfl, h0, r0⟩ := trodAll_cons hA
  obtain ⟨rfl, rfl, rfl⟩ := trodAll_nil r0
  obtain rfl : args = #[v0] := by cases args; simp_all
  obtain ⟨rfl, rfl⟩ := trodVars_none hV
  obtain ⟨a0, len0, cap0, rfl⟩ := okWide_slice Try.underlying42 (hval 0 42 v0 rfl rfl)
  have k0 := h0
  have lt0 : ∀ x ∈ p0, x.block < W.heap.size := by obtain ⟨m, hm⟩ := k0; exact DataW.trod_lt m _ _ _ hm
  obtain ⟨X0, w0, z0⟩ : ∃ X : Nat → Nat → Int, SRow W (.slice a0 len0 cap0) len0 [true, true, true, true] X ∧ ∀ i, i < len0 → ∀ j, j < [true, true, true, true].length → [true, true, true, true].getD j true = true → (Lit.int .i64 (X i j)).wf = true := by
    obtain ⟨fuel, hf⟩ := h0
    exact open_recs [true, true, true, true] Try.underlying42 Try.underlying51 (by kernel_rfl) rfl (by decide) (fun | 0, _ => ⟨_, rfl, rfl, by kernel_rfl, Try.underlying3⟩ | 1, _ => ⟨_, rfl, rfl, by kernel_rfl, Try.underlying3⟩ | 2, _ => ⟨_, rfl, rfl, by kernel_rfl, Try.underlying3⟩ | 3, _ => ⟨_, rfl, rfl, by kernel_rfl, Try.underlying2⟩ | n + 4, h => absurd h (by simp only [List.length]; omega)) hf
  clear hA0 hval0
  refine (walk a0 len0 cap0 X0 W w0 z0).mono fun e W' ⟨he, bel⟩ => ?_
  subst he
  exact ⟨_, rfl, _, _, _, [], _, [], hW', trodAll_mk1 (shut_bool Try.underlying4 _), (trodAll_cons_mk (Below.trod laidOut (by kernel_rfl) (of_decide_eq_true (by kernel_rfl)) k0 bel lt0) trodAll_mk0), rfl, bel.frame _, fun h => by cases h⟩

theorem over : Rows.LockWholeSaid :=
  OpenClaim.holds_of_wide 6 Try.f6 rfl rfl rfl rfl rfl rfl rfl ⟨rfl, rfl, rfl, rfl, rfl⟩ rfl rfl rfl rfl rfl (by kernel_rfl) Try.func6 (by kernel_rfl)
    (of_decide_eq_true (by kernel_rfl)) (by unfold Func.isWrapper; first | (rw [if_pos (by decide +kernel)]; kernel_rfl) | (rw [if_neg (by decide +kernel)]; exact ⟨rfl, rfl⟩))
    (fun os started H enc _ => lifted os started H enc)
end Go.Proofs.Ytaomcakgeiiclaa.lockWhole

namespace Go.Proofs.Ytaomcakgeiiclaa
open Go
theorem lockWhole_holds : Rows.LockWholeSaid := lockWhole.over
#print axioms lockWhole_holds
end Go.Proofs.Ytaomcakgeiiclaa
