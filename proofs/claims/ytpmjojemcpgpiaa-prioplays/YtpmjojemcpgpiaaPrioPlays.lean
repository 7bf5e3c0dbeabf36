/- Proved: for every number most and every list acts, davitlaw09.PrioPlays(most, acts) returns true: a queue by priorities of any size that is played with answers what the document says, and all that waits, in order, is what it says (150 acts at most, as the law itself says), and acts is left alone, with no condition. -/
import Derived.Test.YtpmjojemcpgpiaaRows
import Derived.Test.YtpmjojemcpgpiaaFo
import Derived.Test.YtpmjojemcpgpiaaXd
import Derived.Test.YtpmjojemcpgpiaaFs
import Derived.WalkKit
import Derived.ProofKit
import Derived.OpenShut
import Derived.Stop.Joined
import Derived.ShutString
import Derived.ChangeOld
import Derived.Below
import Derived.Carry
import Derived.Test.YtpmjojemcpgpiaaFs
import Derived.Deep.RegionHeld3
namespace Go.Proofs.Ytpmjojemcpgpiaa.prioPlays
open Go.ChangeShapes Go.WideShapes Go.ChangeAt Go.RowKit
open Fm Qm
set_option linter.unusedVariables false
set_option linter.unusedSimpArgs false

theorem own : ownKnob Try.prog.godebug = none := by kernel_rfl
theorem laidOut : laidOutB Try.prog = true := by kernel_rfl

set_option maxRecDepth 100000 in
set_option maxHeartbeats 4000000 in
theorem walk (a0 : Int) (a1 : Option Addr) (len1 cap1 : Nat) (X1 : Nat → Nat → Int) (w : World) (w0 : (Lit.int .i64 a0).wf = true) (w1 : SRow w (.slice a1 len1 cap1) len1 [true, true, true] X1) (z1 : ∀ i, i < len1 → ∀ j, j < [true, true, true].length → [true, true, true].getD j true = true → (Lit.int .i64 (X1 i j)).wf = true) :
    Calls Try.prog 3 #[.int .i64 a0, .slice a1 len1 cap1] w fun e w' => e = .returned (.bool true) ∧ Below w.heap.size w w' := by
  have KN : Hid (∀ w, _) := fun w => known_yes w
  by_cases wrong : a0 < 1 ∨ 1024 < a0
  · have C : Hid (∀ w, _) := fun w => pnew_bad a0 w wrong
    have D : Hid (∀ w, _) := fun w => rpnew_bad a0 w wrong
    clear wrong w0 w1 z1
    go_enter Try.func3, Try.ntmps3
    go_wp2_with fail
    refine (C.out _).mono ?_
    rintro e u1 ⟨rfl, b1⟩
    go_wp2_with fail
    refine (D.out _).mono ?_
    rintro e u2 ⟨rfl, rfl⟩
    go_wp2_with fail
    refine (KN.out _).mono ?_
    rintro e u3 ⟨rfl, hb⟩
    go_wp2
    go_ret
    exact ⟨rfl, b1.trans (hb.mono b1.size)⟩
  · obtain ⟨m, rfl⟩ := Int.eq_ofNat_of_zero_le (show 0 ≤ a0 by omega)
    have m1 : (1 : Int) ≤ m := by omega
    have m2 : (m : Int) ≤ 1024 := by omega
    have C : Hid (∀ _ : Unit, _) := fun _ => pnew_any m w m1 m2
    have D : Hid (∀ w1, _) := fun w1 => rpnew_any m w1 m1 m2
    have HR : Hid (SRow w (.slice a1 len1 cap1) len1 [true, true, true] X1) := w1
    obtain ⟨s, hs⟩ : ∃ s, w.heap.size = s := ⟨_, rfl⟩
    have HS : Hid (w.heap.size = s) := hs
    rw [hs] at C ⊢
    clear wrong w0 w1 z1 hs
    go_enter Try.func3, Try.ntmps3
    go_wp2_with fail
    refine (C.out ()).mono ?_
    rintro e u1 ⟨rfl, q1, f1, -⟩
    have Q1 : Hid (PQ u1 s m []) := q1
    have B1 : Hid (Below s w u1) := f1
    have D1 : Hid (∀ _ : Unit, _) := fun _ => D.out u1
    have hi1 : Hid (s + 17 ≤ u1.heap.size) := q1.hi
    clear q1 f1
    go_wp2_with fail
    refine (D1.out ()).mono ?_
    rintro e u2 ⟨rfl, r2, f2, -⟩
    have PP0 : Hid (PP w u2 s u1.heap.size m (.slice none 0 0) []) := ⟨Q1.out.below f2, r2, B1.out.trans (f2.mono (by have := hi1.out; omega)), hi1.out, fun g e => by cases e⟩
    clear r2 f2
    generalize u1.heap.size = b at *
    clear Q1 B1 D1 hi1
    go_wp2
    go_loopw [9] (fun i wr => ∃ (k : Nat) (X : Its) (v : Value), (k : Int) ≤ 150 ∧ (k : Int) ≤ len1 ∧ PP w wr s b m v X ∧ i = .int .i64 k) (fun i _ => 150 - (intOf i).toNat)
    case atStart => exact ⟨0, [], _, by omega, by omega, PP0.out, rfl⟩
    case round =>
      obtain ⟨k, X, v, hk, hk2, p, rfl⟩ := hrel
      clear PP0
      have HB : Hid (Below s w wr) := p.bel
      have hz : s ≤ wr.heap.size := by have := p.size; omega
      have tail : (¬ (k : Int) < len1 ∧ decide ((k : Int) < len1) = false) ∨ ((k : Int) < len1 ∧ ¬ (k : Int) < 150) ∨ ((k : Int) < len1 ∧ (k : Int) < 150) := by
        by_cases h : (k : Int) < len1
        · by_cases h2 : (k : Int) < 150
          · exact Or.inr (Or.inr ⟨h, h2⟩)
          · exact Or.inr (Or.inl ⟨h, h2⟩)
        · exact Or.inl ⟨h, decide_eq_false h⟩
      rw [← or_assoc] at tail
      rcases tail with tail | ⟨h, h2⟩
      · clear p
        rcases tail with ⟨h, hd⟩ | ⟨h, h2⟩
        all_goals (
          go_wp2_with fail
          refine (KN.out _).mono ?_
          rintro e w4 ⟨rfl, f4⟩
          go_wp2
          go_ret
          exact ⟨rfl, HB.out.trans (f4.mono hz)⟩)
      · obtain ⟨b0, off, rfl, hA⟩ := srow_cell (wr := wr) HR.out (by rw [HS.out]; exact p.bel) h
        have HX : Hid (∀ w2 : World, Below s w w2 → ∀ j, j < 3 → w2.cell? ⟨b0, off + k * 3 + j, none⟩ = some (.int .i64 (X1 k j))) := fun w2 b2 j hj => by
          obtain ⟨ab3, off3, e3, hc3⟩ := srow_cell (wr := w2) HR.out (by rw [HS.out]; exact b2) h
          cases e3
          have := hc3 j hj
          match j, hj with
          | 0, _ => exact this
          | 1, _ => exact this
          | 2, _ => exact this
        clear hA
        have x0 := HX.out wr p.bel 0 (by omega)
        have x1 := HX.out wr p.bel 1 (by omega)
        have x2 := HX.out wr p.bel 2 (by omega)
        simp only [Nat.add_zero] at x0
        have Y2 : Hid (∀ w2 : World, Below s w w2 → w2.cell? ⟨b0, off + k * 3 + 2, none⟩ = some (.int .i64 (X1 k 2))) := fun w2 b2 => HX.out w2 b2 2 (by omega)
        clear HX
        generalize X1 k 0 = y0 at *
        generalize X1 k 1 = y1 at *
        generalize X1 k 2 = y2 at *
        have C1 : Hid (∀ _ : Unit, _) := fun _ => do_any y0 y1 y2 wr p
        clear p
        go_wp2_with fail
        refine (C1.out ()).mono ?_
        rintro e u3 ⟨rfl, v3, X3, p3⟩
        have T1 : Hid (∀ _ : Unit, _) := fun _ => top_any u3 p3.q
        have P3 : Hid (PP w u3 s b m v3 X3) := p3
        clear x0 x1 x2 C1 p3
        go_wp2_with fail
        refine (T1.out ()).mono ?_
        rintro e u4 ⟨rfl, f4⟩
        have P4 : Hid (PP w u4 s b m v3 X3) := P3.out.keep f4
        have T2 : Hid (∀ _ : Unit, _) := fun _ => rptop_any u4 P4.out.r
        clear f4 T1 P3
        go_wp2_with fail
        refine (T2.out ()).mono ?_
        rintro e u5 ⟨rfl, f5⟩
        have P5 : Hid (PP w u5 s b m v3 X3) := P4.out.keep f5
        have T3 : Hid (∀ _ : Unit, _) := fun _ => prio_any y2 u5 P5.out.q
        have c5 := Y2.out u5 P5.out.bel
        clear f5 T2 P4
        go_wp2_with fail
        refine (T3.out ()).mono ?_
        rintro e u6 ⟨rfl, f6⟩
        have P6 : Hid (PP w u6 s b m v3 X3) := P5.out.keep f6
        have T4 : Hid (∀ _ : Unit, _) := fun _ => rprio_any y2 u6 P6.out.r
        have c6 := Y2.out u6 P6.out.bel
        clear f6 T3 P5 c5
        go_wp2_with fail
        refine (T4.out ()).mono ?_
        rintro e u7 ⟨rfl, rfl⟩
        obtain ⟨a7, c7, rfl⟩ := P6.out.r.shape
        have kc : u7.cell? ⟨b, 1, none⟩ = some (.slice a7 X3.length c7) := P6.out.r.sb.cell 1
        have L1 : Hid (∀ w1 : World, w1.heap = u7.heap → _) := fun w1 e => plen_any w1 (P6.out.q.heap e)
        have L2 : Hid (∀ w1 : World, Sm w1 u7 → Calls Try.prog 18 #[.pointer (some ⟨s, 0, none⟩)] w1 fun e w' => ∃ v, e = .returned v ∧ w'.ownsRow u7.heap.size 3 1 v (cat X3).length ((cat X3).map (Value.int .i64)) ∧ Below u7.heap.size u7 w') := fun w1 e => (plist_any w1 (P6.out.q.heap e.1)).mono fun _ w2 ⟨v, r1, r2, r3⟩ => ⟨v, r1, by rw [e.1] at r2; exact r2, by have := e.from r3; rwa [e.1] at this⟩
        have L3 : Hid (∀ v1 w1 : World, Below u7.heap.size u7 v1 → Sm w1 v1 → Calls Try.prog 19 #[.pointer (some ⟨b, 0, none⟩)] w1 fun e w' => ∃ v, e = .returned v ∧ w'.ownsRow v1.heap.size 3 1 v (cat X3).length ((cat X3).map (Value.int .i64)) ∧ Below v1.heap.size v1 w') := fun v1 w1 bv e => (rplist_any w1 ((P6.out.r.below bv).heap e.1)).mono fun _ w2 ⟨v, r1, r2⟩ => ⟨v, r1, by have := r2.own; rw [e.1] at this; exact this, by have := e.from r2.bel; rwa [e.1] at this⟩
        have LC : (cat X3).length ≤ 1024 := by rw [len_cat P6.out.q.ok.rg]; have := P6.out.q.ok.le; omega
        have L4 : Hid (∀ (v1 v2 w1 : World) (x y : Value), v1.ownsRow u7.heap.size 3 1 x (cat X3).length ((cat X3).map (Value.int .i64)) → Below v1.heap.size v1 v2 → v2.ownsRow v1.heap.size 3 1 y (cat X3).length ((cat X3).map (Value.int .i64)) → w1.heap = v2.heap → Calls Try.prog 17 #[x, y] w1 fun e w' => e = .returned (.bool true) ∧ ∃ n, w' = w1.drewN n) := fun v1 v2 w1 x y o1 b2 o2 e => by
          have R1 : Row v2 x (cat X3) := (row_of_owns o1).keep (B := v1.heap.size) (Fr.of_below b2) (Nat.le_refl _)
          have R2 : Row v2 y (cat X3) := row_of_owns o2
          exact ints_any (cat X3) x y w1 (by omega) (R1.heap e) (R2.heap e)
        have KB : Hid (∀ w1 : World, Below u7.heap.size u7 w1 → w1.cell? ⟨b, 1, none⟩ = some (.slice a7 X3.length c7)) := fun w1 b1 => (P6.out.r.below b1).sb.cell 1
        have FIN : Hid (∀ v1 v2 w1 : World, Below u7.heap.size u7 v1 → Below v1.heap.size v1 v2 → Sm w1 v2 → PP w w1 s b m (.slice a7 X3.length c7) X3) := fun v1 v2 w1 b1 b2 e => ((P6.out.keep b1).keep b2).sm e
        generalize tpN X3 = n1 at *
        generalize tpE X3 = n2 at *
        generalize prP X3 y2 = n3 at *
        generalize decide (y2 ∈ ids X3) = n4 at *
        have g1 : (n1 != n1) = false := by simp
        have g2 : (n2 != n2) = false := by simp
        have g3 : (n3 != n3) = false := by simp
        have g4 : (n4 != n4) = false := by simp
        have g5 : ((X3.length : Int) != (X3.length : Int)) = false := by simp
        clear P6 T4 c6 Y2 LC
        generalize X3.length = xl at *
        go_wp2_with fail
        go_region_held3 (fun w' => w'.cell? ⟨b, 1, none⟩ = some (.slice a7 xl c7)) (go_keep)
          (first | (go_at_call 16; refine (L1.out _ ?_).mono ?_; rfl; rintro e w' ⟨rfl, rfl⟩) | (go_at_call 18; refine (L2.out _ ?_).mono ?_; exact ⟨rfl, rfl, rfl, rfl⟩; rintro e v8 ⟨r8, rfl, o8, b8⟩; obtain ⟨a8, c8, rfl⟩ := own_shape o8; have k8 := KB.out v8 b8; have O8 : Hid (v8.ownsRow u7.heap.size 3 1 (.slice a8 (cat X3).length c8) (cat X3).length ((cat X3).map (Value.int .i64))) := o8; have B8 : Hid (Below u7.heap.size u7 v8) := b8; clear o8 b8) | (go_at_call 19; refine (L3.out v8 _ B8.out ?_).mono ?_; exact ⟨rfl, rfl, rfl, rfl⟩; rintro e v9 ⟨r9, rfl, o9, b9⟩; obtain ⟨a9, c9, rfl⟩ := own_shape o9; have k9 := KB.out v9 (B8.out.trans (b9.mono B8.out.size)); have O9 : Hid (v9.ownsRow v8.heap.size 3 1 (.slice a9 (cat X3).length c9) (cat X3).length ((cat X3).map (Value.int .i64))) := o9; have B9 : Hid (Below v8.heap.size v8 v9) := b9; clear o9 b9) | (go_at_call 17; refine (L4.out v8 v9 _ _ _ O8.out B9.out O9.out ?_).mono ?_; rfl; rintro e w' ⟨rfl, d9, rfl⟩))
        all_goals go_wp2
        go_roundw
        case rel => exact ⟨k + 1, X3, _, by omega, by omega, FIN.out v8 v9 _ B8.out B9.out ⟨rfl, rfl, rfl, rfl⟩, by go_num⟩
        case measure => simp [intOf]; omega

set_option maxRecDepth 100000 in
theorem lifted (os : Os) (started : os.Started) (H : Type) (enc : TypeId × Value → H) :
    ReturnsInHanded {} Try.checked os 3 .any (Rows.prioPlaysSpec.pre6 enc Try.prog Try.f3 Rows.prioPlaysRow.domain false) (Rows.prioPlaysSpec.post enc Try.prog Try.f3 false true false false) := by
  refine returnsInHanded_of_change (C := Try.checked) own started (by kernel_rfl) Try.func3
    (ChangeSpec.witness6 (enc := enc) (C := Try.checked) false ⟨#[], #[.int .i64 0, .slice none 0 0], []⟩ 8 (by kernel_rfl) (by kernel_rfl) (by kernel_rfl) (by kernel_rfl)) ?_
  intro W base args ds gs before hval0 hW hcnd _
  have hval : ∀ (j : Nat) t v, Try.f3.params[j]? = some t → args[j]? = some v → Value.okWide Try.prog W .any base t v := hval0
  have hW' := hW
  obtain ⟨p, q, hA0, hV, rfl, hfz, hnd⟩ := hW
  have hA : DataW.TrodAll enc Try.prog W 0 (fun _ => true) true Try.f3.params.toList args.toList ds p := hA0
  rw [Try.params3] at hA hval
  obtain ⟨v0, vs0, d0, ds0, p0, q0, hargs, rfl, rfl, h0, r0⟩ := trodAll_cons hA
  obtain ⟨v1, vs1, d1, ds1, p1, q1, rfl, rfl, rfl, h1, r1⟩ := trodAll_cons r0
  obtain ⟨rfl, rfl, rfl⟩ := trodAll_nil r1
  obtain rfl : args = #[v0, v1] := by cases args; simp_all
  obtain ⟨rfl, rfl⟩ := trodVars_none hV
  obtain ⟨a0, rfl, rfl, rfl, w0⟩ := open_int Try.underlying3 (hval 0 3 v0 rfl rfl) h0
  obtain ⟨a1, len1, cap1, rfl⟩ := okWide_slice Try.underlying22 (hval 1 22 v1 rfl rfl)
  have k1 := h1
  have lt1 : ∀ x ∈ p1, x.block < W.heap.size := by obtain ⟨m, hm⟩ := k1; exact DataW.trod_lt m _ _ _ hm
  obtain ⟨X1, w1, z1⟩ : ∃ X : Nat → Nat → Int, SRow W (.slice a1 len1 cap1) len1 [true, true, true] X ∧ ∀ i, i < len1 → ∀ j, j < [true, true, true].length → [true, true, true].getD j true = true → (Lit.int .i64 (X i j)).wf = true := by
    obtain ⟨fuel, hf⟩ := h1
    exact open_recs [true, true, true] Try.underlying22 Try.underlying33 (by kernel_rfl) rfl (by decide) (fun | 0, _ => ⟨_, rfl, rfl, by kernel_rfl, Try.underlying3⟩ | 1, _ => ⟨_, rfl, rfl, by kernel_rfl, Try.underlying3⟩ | 2, _ => ⟨_, rfl, rfl, by kernel_rfl, Try.underlying3⟩ | n + 3, h => absurd h (by simp only [List.length]; omega)) hf
  clear hA0 hval0
  refine (walk a0 a1 len1 cap1 X1 W w0 w1 z1).mono fun e W' ⟨he, bel⟩ => ?_
  subst he
  exact ⟨_, rfl, _, _, _, [], _, [], hW', trodAll_mk1 (shut_bool Try.underlying4 _), (trodAll_cons_mk (shut_int Try.underlying3 w0) (trodAll_cons_mk (Below.trod laidOut (by kernel_rfl) (of_decide_eq_true (by kernel_rfl)) k1 bel lt1) trodAll_mk0)), rfl, bel.frame _, fun h => by cases h⟩

theorem over : Rows.PrioPlaysSaid :=
  OpenClaim.holds_of_wide 3 Try.f3 rfl rfl rfl rfl rfl rfl rfl ⟨rfl, rfl, rfl, rfl, rfl⟩ rfl rfl rfl rfl rfl (by kernel_rfl) Try.func3 (by kernel_rfl)
    (of_decide_eq_true (by kernel_rfl)) (by unfold Func.isWrapper; first | (rw [if_pos (by decide +kernel)]; kernel_rfl) | (rw [if_neg (by decide +kernel)]; exact ⟨rfl, rfl⟩))
    (fun os started H enc _ => lifted os started H enc)
end Go.Proofs.Ytpmjojemcpgpiaa.prioPlays

namespace Go.Proofs.Ytpmjojemcpgpiaa
open Go
theorem prioPlays_holds : Rows.PrioPlaysSaid := prioPlays.over
#print axioms prioPlays_holds
end Go.Proofs.Ytpmjojemcpgpiaa
