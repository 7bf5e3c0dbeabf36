/- Proved: for every number pages, every list acts and every number id, davitlaw07.PoolPlays(pages, acts, id) returns true: a pool of any size that is played with answers what the document says (200 acts at most, as the law itself says), and acts is left alone, with no condition. -/
import Derived.Test.YtibajjidigmkhaaRows
import Derived.Test.YtibajjidigmkhaaFo
import Derived.Test.YtibajjidigmkhaaOe
import Derived.WalkKit
import Derived.ProofKit
import Derived.OpenShut
import Derived.Stop.Joined
import Derived.ShutString
import Derived.ChangeOld
import Derived.Below
import Derived.Carry
import Derived.Deep.DeepCutAuto
import Derived.Deep.CutBlock
import Derived.Deep.RegionHeld3
namespace Go.Proofs.Ytibajjidigmkhaa.poolPlays
open Go.ChangeShapes Go.WideShapes Go.ChangeAt Go.RowKit
open Om
set_option linter.unusedVariables false
set_option linter.unusedSimpArgs false

theorem own : ownKnob Try.prog.godebug = none := by kernel_rfl
theorem laidOut : laidOutB Try.prog = true := by kernel_rfl

set_option maxRecDepth 100000 in
set_option maxHeartbeats 4000000 in
theorem walk (a0 : Int) (a1 : Option Addr) (len1 cap1 : Nat) (xs1 : List Int) (a2 : Int) (w : World) (w0 : (Lit.int .i64 a0).wf = true) (w1 : Row w (.slice a1 len1 cap1) xs1) (l1 : xs1.length = len1) (z1 : ∀ n ∈ xs1, (Lit.int .i64 n).wf = true) (w2 : (Lit.int .i64 a2).wf = true) :
    Calls Try.prog 3 #[.int .i64 a0, .slice a1 len1 cap1, .int .i64 a2] w fun e w' => e = .returned (.bool true) ∧ Below w.heap.size w w' := by
  have KN : Hid (∀ w, _) := fun w => pknown_yes w
  by_cases wrong : a0 < 1 ∨ 12 < a0
  · have C : Hid (∀ w, _) := fun w => pnew_bad a0 w wrong
    have D : Hid (∀ w, _) := fun w => rpnew_bad a0 w wrong
    clear wrong w0 w1 w2 l1 z1
    go_enter Try.func3, Try.ntmps3
    go_wp2_with fail
    refine (C.out _).mono ?_
    rintro e u1 ⟨rfl, rfl⟩
    go_wp2_with fail
    refine (D.out _).mono ?_
    rintro e u1 ⟨rfl, rfl⟩
    go_wp2_with fail
    refine (KN.out _).mono ?_
    rintro e u1 ⟨rfl, hb⟩
    go_wp2
    go_ret
    exact ⟨rfl, hb⟩
  · obtain ⟨m, rfl⟩ := Int.eq_ofNat_of_zero_le (show 0 ≤ a0 by omega)
    have m1 : (1 : Int) ≤ m := by omega
    have m2 : (m : Int) ≤ 12 := by omega
    have C : Hid (∀ _ : Unit, _) := fun _ => pnew_any m w m1 m2
    have D : Hid (∀ w1, _) := fun w1 => rpnew_any m w1 m1 m2
    have HR : Hid (Row w (.slice a1 len1 cap1) xs1) := w1
    have HL : Hid (xs1.length = len1) := l1
    obtain ⟨s, hs⟩ : ∃ s, w.heap.size = s := ⟨_, rfl⟩
    have HS : Hid (w.heap.size = s) := hs
    rw [hs] at C ⊢
    clear wrong w0 w1 w2 l1 z1 hs
    go_enter Try.func3, Try.ntmps3
    go_wp2_with fail
    refine (C.out ()).mono ?_
    rintro e u1 ⟨rfl, q1, f1⟩
    have lt1 := q1.sb.lt
    have Q1 : Hid (PO u1 s m (List.replicate 12 0)) := q1
    have B1 : Hid (Below s w u1) := f1.below (by simp)
    clear q1 f1
    go_wp2_with fail
    refine (D.out u1).mono ?_
    rintro e u2 ⟨rfl, r2, f2⟩
    have PI0 : Hid (OI w u2 s u1.heap.size m (List.replicate 12 0)) := ⟨Q1.out.keep f2 lt1 (by simp), r2, B1.out.trans ((f2.less (by omega)).below (by simp)), lt1⟩
    clear r2 f2 lt1
    generalize u1.heap.size = br at *
    clear Q1 B1
    go_wp2
    go_loopw [11] (fun i wr => ∃ (k : Nat) (A : List Nat), (k : Int) ≤ 200 ∧ (k : Int) ≤ len1 ∧ OI w wr s br m A ∧ i = .int .i64 k) (fun i _ => 200 - (intOf i).toNat)
    case atStart => exact ⟨0, _, by omega, by omega, PI0.out, rfl⟩
    case round =>
      obtain ⟨k, A, hk, hk2, p, rfl⟩ := hrel
      have hsz := p.le
      clear PI0
      by_cases h : (k : Int) < len1
      · by_cases h2 : (k : Int) < 200
        · obtain ⟨ab, off, rfl, hA⟩ : ∃ ab off, a1 = some ⟨ab, off, none⟩ ∧ Hid (∀ w2 : World, Below s w w2 → w2.cell? ⟨ab, off + k, none⟩ = some (.int .i64 (xs1.getD k 0))) := by
            have hl := HL.out
            rcases HR.out with ⟨rfl, _⟩ | ⟨ab, off, c, hv, hlt, hc⟩
            · simp at hl
              omega
            · simp only [Value.slice.injEq] at hv
              refine ⟨ab, off, hv.1, fun w2 b2 => ?_⟩
              rw [HS.out] at hlt
              rw [b2.cell (p := ⟨ab, off + k, none⟩) hlt]
              exact hc k (by omega)
          have x0 := hA.out wr p.bel
          generalize xs1.getD k 0 = x at *
          go_upto_if 59 with (fail)
          go_cut [11] (fun i wx => i = .int .i64 k ∧ ∃ A2, OI w wx s br m A2)
          case first =>
            by_cases t0 : x = 0
            · have e0 : (x == 0) = true := by simpa using t0
              clear t0
              have C1 : Hid (∀ _ : Unit, _) := fun _ => oact_take p wr ⟨rfl, rfl, rfl, rfl⟩
              have C2 : Hid (∀ v1 : World, Fr wr.heap.size [s] wr v1 → _) := fun v1 f => rptake_any v1 (p.other f)
              have ACT : Hid (∀ w2 w3 : World, PO w2 s m (tkA m A) → Fr wr.heap.size [s] wr w2 → RO w3 (br + 1) br m (tkA m A) → Fr w2.heap.size [br] w2 w3 → OI w w3 s br m (tkA m A)) := fun w2 w3 a b c d => p.act a b c d
              generalize tkA m A = A2 at *
              generalize tkE m A = ee at *
              generalize tkN m A = nn at *
              have bb : (ee != ee) = false := by simp
              have bc : (nn != nn) = false := by simp
              clear p
              go_wp2_with fail
              refine (C1.out ()).mono ?_
              rintro e v1 ⟨rfl, q2, f12⟩
              have Q2 : Hid (PO v1 s m A2) := q2
              have F12 : Hid (Fr wr.heap.size [s] wr v1) := f12
              clear q2 f12
              go_wp2_with fail
              refine (C2.out v1 F12.out).mono ?_
              rintro e v2 ⟨rfl, r3, f23⟩
              have p2 : Hid (OI w v2 s br m A2) := ACT.out _ _ Q2.out F12.out r3 f23
              clear r3 f23 Q2 F12
              go_wp2
              go_meet
              case rel => exact ⟨rfl, _, p2.out⟩
            · have e0 : (x == 0) = false := by simpa using t0
              clear t0
              have C1 : Hid (∀ w1 : World, Sm w1 wr → _) := fun w1 e => oact_give p x w1 e
              have C2 : Hid (∀ v1 w1 : World, Fr wr.heap.size [s] wr v1 → Sm w1 v1 → _) := fun v1 w1 f e => oact_rgive p x v1 w1 f e
              have ACT : Hid (∀ w2 w3 : World, PO w2 s m (gvA m A x) → Fr wr.heap.size [s] wr w2 → RO w3 (br + 1) br m (gvA m A x) → Fr w2.heap.size [br] w2 w3 → OI w w3 s br m (gvA m A x)) := fun w2 w3 a b c d => p.act a b c d
              have YF : Hid (∀ v1 : World, Fr wr.heap.size [s] wr v1 → v1.cell? ⟨ab, off + k, none⟩ = some (.int .i64 x)) := fun v1 f => hA.out v1 (p.bel.trans ((f.less hsz).below (by simp)))
              generalize gvA m A x = A2 at *
              generalize gvE m A x = ee at *
              have bb : (ee != ee) = false := by simp
              clear p
              go_wp2_with fail
              go_region_held3 (fun w' => w'.cell? ⟨ab, off + k, none⟩ = some (.int .i64 x)) (go_keep)
                (first | (go_at_call 14; refine (C1.out _ ?_).mono ?_; exact ⟨rfl, rfl, rfl, rfl⟩; rintro e v1 ⟨rfl, q2, f12⟩; have yy := YF.out v1 f12; have Q2 : Hid (PO v1 s m A2) := q2; have F12 : Hid (Fr wr.heap.size [s] wr v1) := f12; clear q2 f12) | (go_at_call 15; refine (C2.out v1 _ F12.out ?_).mono ?_; exact ⟨rfl, rfl, rfl, rfl⟩; rintro e v2 ⟨rfl, r3, f23⟩; have p2 := ACT.out _ _ Q2.out F12.out r3 f23; have yy2 : v2.cell? ⟨ab, off + k, none⟩ = some (.int .i64 x) := hA.out v2 p2.bel; have P2 : Hid (OI w v2 s br m A2) := p2; clear r3 f23 Q2 F12 p2 yy))
              all_goals go_wp2
              go_meet
              case rel => exact ⟨rfl, _, P2.out.sm ⟨rfl, rfl, rfl, rfl⟩⟩
          case rest =>
            obtain ⟨rfl, A2, p2⟩ := hcut
            have P2 : Hid (OI w wc s br m A2) := p2
            have T1 : Hid (∀ w1 : World, w1.heap = wc.heap → _) := fun w1 e => ppages_any w1 (p2.p.heap e)
            have T2 : Hid (∀ w1 : World, w1.heap = wc.heap → _) := fun w1 e => rppages_any w1 (p2.r.heap e)
            have T3 : Hid (∀ w1 : World, w1.heap = wc.heap → _) := fun w1 e => pfree_any w1 (p2.p.heap e)
            have T4 : Hid (∀ w1 : World, w1.heap = wc.heap → _) := fun w1 e => rpfree_any w1 (p2.r.heap e)
            have T5 : Hid (∀ w1 : World, w1.heap = wc.heap → _) := fun w1 e => pout_any a2 w1 (p2.p.heap e)
            have T6 : Hid (∀ w1 : World, w1.heap = wc.heap → _) := fun w1 e => rpout_any a2 w1 (p2.r.heap e)
            clear p p2 hA x0
            generalize m - ct (em A2) m - ct (fu A2) m = n2 at *
            generalize ct (em A2) m = n1 at *
            generalize ct (fu A2) m = n3 at *
            generalize fr m A2 = n4 at *
            generalize ou m A2 a2 = n5 at *
            have b1 : ((n1 : Int) != (n1 : Int)) = false := by simp
            have b2 : ((n2 : Int) != (n2 : Int)) = false := by simp
            have b3 : ((n3 : Int) != (n3 : Int)) = false := by simp
            have b4 : ((n4 : Int) != (n4 : Int)) = false := by simp
            have b5 : (n5 != n5) = false := by simp
            go_wp2_with fail
            refine (T1.out _ rfl).mono ?_
            rintro e v3 ⟨rfl, d1, rfl⟩
            go_wp2_with fail
            refine (T2.out (wc.drewN d1) rfl).mono ?_
            rintro e v3 ⟨rfl, rfl⟩
            go_wp2_with fail
            refine (T3.out (wc.drewN d1) rfl).mono ?_
            rintro e v3 ⟨rfl, rfl⟩
            go_wp2_with fail
            refine (T4.out (wc.drewN d1) rfl).mono ?_
            rintro e v3 ⟨rfl, rfl⟩
            go_wp2_with fail
            refine (T5.out (wc.drewN d1) rfl).mono ?_
            rintro e v3 ⟨rfl, d2, rfl⟩
            go_wp2_with fail
            refine (T6.out (wc.drewN (d1 + d2)) rfl).mono ?_
            rintro e v3 ⟨rfl, rfl⟩
            go_wp2
            go_roundw
            case rel => exact ⟨k + 1, A2, by omega, by omega, P2.out.sm ⟨rfl, rfl, rfl, rfl⟩, by go_num⟩
            case measure => simp [intOf]; omega
        · have hb := p.bel
          clear p
          go_wp2_with fail
          refine (KN.out _).mono ?_
          rintro e u5 ⟨rfl, hb5⟩
          go_wp2
          go_ret
          exact ⟨rfl, hb.trans (hb5.mono hsz)⟩
      · have hb := p.bel
        clear p
        have hd : decide ((k : Int) < len1) = false := decide_eq_false h
        go_wp2_with fail
        refine (KN.out _).mono ?_
        rintro e u5 ⟨rfl, hb5⟩
        go_wp2
        go_ret
        exact ⟨rfl, hb.trans (hb5.mono hsz)⟩

set_option maxRecDepth 100000 in
theorem lifted (os : Os) (started : os.Started) (H : Type) (enc : TypeId × Value → H) :
    ReturnsInHanded {} Try.checked os 3 .any (Rows.poolPlaysSpec.pre6 enc Try.prog Try.f3 Rows.poolPlaysRow.domain false) (Rows.poolPlaysSpec.post enc Try.prog Try.f3 false true false false) := by
  refine returnsInHanded_of_change (C := Try.checked) own started (by kernel_rfl) Try.func3
    (ChangeSpec.witness6 (enc := enc) (C := Try.checked) false ⟨#[], #[.int .i64 0, .slice none 0 0, .int .i64 0], []⟩ 8 (by kernel_rfl) (by kernel_rfl) (by kernel_rfl) (by kernel_rfl)) ?_
  intro W base args ds gs before hval0 hW hcnd _
  have hval : ∀ (j : Nat) t v, Try.f3.params[j]? = some t → args[j]? = some v → Value.okWide Try.prog W .any base t v := hval0
  have hW' := hW
  obtain ⟨p, q, hA0, hV, rfl, hfz, hnd⟩ := hW
  have hA : DataW.TrodAll enc Try.prog W 0 (fun _ => true) true Try.f3.params.toList args.toList ds p := hA0
  rw [Try.params3] at hA hval
  obtain ⟨v0, vs0, d0, ds0, p0, q0, hargs, rfl, rfl, h0, r0⟩ := trodAll_cons hA
  obtain ⟨v1, vs1, d1, ds1, p1, q1, rfl, rfl, rfl, h1, r1⟩ := trodAll_cons r0
  obtain ⟨v2, vs2, d2, ds2, p2, q2, rfl, rfl, rfl, h2, r2⟩ := trodAll_cons r1
  obtain ⟨rfl, rfl, rfl⟩ := trodAll_nil r2
  obtain rfl : args = #[v0, v1, v2] := by cases args; simp_all
  obtain ⟨rfl, rfl⟩ := trodVars_none hV
  obtain ⟨a0, rfl, rfl, rfl, w0⟩ := open_int Try.underlying3 (hval 0 3 v0 rfl rfl) h0
  obtain ⟨a1, len1, cap1, rfl⟩ := okWide_slice Try.underlying22 (hval 1 22 v1 rfl rfl)
  have k1 := h1
  have lt1 : ∀ x ∈ p1, x.block < W.heap.size := by obtain ⟨m, hm⟩ := k1; exact DataW.trod_lt m _ _ _ hm
  obtain ⟨xs1, w1, l1, z1⟩ : ∃ xs, Row W (.slice a1 len1 cap1) xs ∧ xs.length = len1 ∧ ∀ n ∈ xs, (Lit.int .i64 n).wf = true := by
    obtain ⟨fuel, hf⟩ := h1
    rcases open_ints Try.underlying22 Try.underlying3 (by kernel_rfl) hf with ⟨hcs, _⟩ | ⟨x, l, c, zs, hcs, _, hl, hm, hz, _, hcell, hwz⟩
    · simp [Value.cells] at hcs
      obtain ⟨rfl, rfl, rfl⟩ := hcs
      exact ⟨[], Or.inl ⟨rfl, none, 0, rfl⟩, rfl, fun n hn => by simp at hn⟩
    · simp [Value.cells] at hcs
      obtain ⟨rfl, rfl, rfl⟩ := hcs
      obtain ⟨xs, r1, r2, r3⟩ := row_of_cells (zs := zs) (Or.inr ⟨_, rfl, hl, by simpa using hz, hcell⟩)
      exact ⟨xs, r1, r2, fun n hn => hwz n (r3 n hn)⟩
  obtain ⟨a2, rfl, rfl, rfl, w2⟩ := open_int Try.underlying3 (hval 2 3 v2 rfl rfl) h2
  clear hA0 hval0
  refine (walk a0 a1 len1 cap1 xs1 a2 W w0 w1 l1 z1 w2).mono fun e W' ⟨he, bel⟩ => ?_
  subst he
  exact ⟨_, rfl, _, _, _, [], _, [], hW', trodAll_mk1 (shut_bool Try.underlying4 _), (trodAll_cons_mk (shut_int Try.underlying3 w0) (trodAll_cons_mk (Below.trod laidOut (by kernel_rfl) (of_decide_eq_true (by kernel_rfl)) k1 bel lt1) (trodAll_cons_mk (shut_int Try.underlying3 w2) trodAll_mk0))), rfl, bel.frame _, fun h => by cases h⟩

theorem over : Rows.PoolPlaysSaid :=
  OpenClaim.holds_of_wide 3 Try.f3 rfl rfl rfl rfl rfl rfl rfl ⟨rfl, rfl, rfl, rfl, rfl⟩ rfl rfl rfl rfl rfl (by kernel_rfl) Try.func3 (by kernel_rfl)
    (of_decide_eq_true (by kernel_rfl)) (by unfold Func.isWrapper; first | (rw [if_pos (by decide +kernel)]; kernel_rfl) | (rw [if_neg (by decide +kernel)]; exact ⟨rfl, rfl⟩))
    (fun os started H enc _ => lifted os started H enc)
end Go.Proofs.Ytibajjidigmkhaa.poolPlays

namespace Go.Proofs.Ytibajjidigmkhaa
open Go
theorem poolPlays_holds : Rows.PoolPlaysSaid := poolPlays.over
#print axioms poolPlays_holds
end Go.Proofs.Ytibajjidigmkhaa
