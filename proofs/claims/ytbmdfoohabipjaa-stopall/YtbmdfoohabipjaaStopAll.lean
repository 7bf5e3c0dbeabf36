/- Proved: for every mask who and every list order, davitlaw20.StopAll(who, order) returns true: all stand still just if each one that is to has acknowledged, in whatever order (200 acknowledge at most, as the law itself says), and order is left alone; no condition. -/
import Derived.Test.YtbmdfoohabipjaaRows
import Derived.Test.YtbmdfoohabipjaaFo
import Derived.Test.YtbmdfoohabipjaaEo
import Derived.WalkKit
import Derived.ProofKit
import Derived.OpenShut
import Derived.Stop.Joined
import Derived.ShutString
import Derived.ChangeOld
import Derived.Below
import Derived.Carry
namespace Go.Proofs.Ytbmdfoohabipjaa.stopAll
open Go.ChangeShapes Go.WideShapes Go.ChangeAt Go.RowKit
open Mm Ek
set_option linter.unusedVariables false
set_option linter.unusedSimpArgs false

theorem own : ownKnob Try.prog.godebug = none := by kernel_rfl
theorem laidOut : laidOutB Try.prog = true := by kernel_rfl

set_option maxRecDepth 100000 in
set_option maxHeartbeats 4000000 in
theorem walk (a0 : Int) (a1 : Option Addr) (len1 cap1 : Nat) (xs1 : List Int) (w : World) (w0 : (Lit.int .u64 a0).wf = true) (w1 : Row w (.slice a1 len1 cap1) xs1) (l1 : xs1.length = len1) (z1 : ∀ n ∈ xs1, (Lit.int .i64 n).wf = true) :
    Calls Try.prog 7 #[.int .u64 a0, .slice a1 len1 cap1] w fun e w' => e = .returned (.bool true) ∧ Below w.heap.size w w' := by
  obtain ⟨x, rfl⟩ := Int.eq_ofNat_of_zero_le (show 0 ≤ a0 from (bounds_u64 w0).1)
  have hx : x < 18446744073709551616 := by have := (bounds_u64 w0).2; omega
  have KN : Hid (∀ w1, _) := fun w1 => tknown_yes w1
  have HR : Hid (Row w (.slice a1 len1 cap1) xs1 ∧ xs1.length = len1) := ⟨w1, l1⟩
  have q0 := st_new w
  have b0 : Below w.heap.size w (w.alloc (.cells #[.int .u64 0, .int .u64 0] 49)) := (Below.refl _ _).alloc (Nat.le_refl _) _
  obtain ⟨u0, hu0⟩ : ∃ u0, w.alloc (.cells #[.int .u64 0, .int .u64 0] 49) = u0 := ⟨_, rfl⟩
  have HU0 : Hid (w.alloc (.cells #[.int .u64 0, .int .u64 0] 49) = u0) := hu0
  rw [hu0] at q0 b0
  obtain ⟨s, hs⟩ : ∃ s, w.heap.size = s := ⟨_, rfl⟩
  have HS : Hid (w.heap.size = s) := hs
  rw [hs] at q0 b0 ⊢
  have B0 : Hid (Below s w u0 ∧ s < u0.heap.size) := ⟨b0, q0.sb.lt⟩
  have P0 : Hid (∀ _ : Unit, _) := fun _ => tbegin_any x hx u0 q0
  have HX : Hid (x < 18446744073709551616) := hx
  by_cases z : x = 0
  · subst z
    rw [show beE 0 0 0 = 2 by decide, show beL 0 0 0 = 0 by decide] at P0
    clear hu0 hs q0 b0 w0 w1 l1 z1 hx
    go_enter Try.func7, Try.ntmps7
    go_wp2_with fail
    rw [HU0.out, HS.out]
    refine (P0.out ()).mono ?_
    rintro e v1 ⟨rfl, q1, f1⟩
    have B1 : Hid (Below s w v1 ∧ s ≤ v1.heap.size) := ⟨fr_own B0.out.1 f1 (by have := B0.out.2; omega) (by simp), by have := f1.size; have := B0.out.2; omega⟩
    clear q1 f1
    go_wp2_with fail
    refine (KN.out _).mono ?_
    rintro e v2 ⟨rfl, b2⟩
    go_wp2
    go_ret
    exact ⟨rfl, B1.out.1.trans (b2.mono B1.out.2)⟩
  · have ob : onB x 0 = true := by
      cases o : onB x 0
      · exact absurd (on_no o).1 z
      · rfl
    have OB : Hid (onB x 0 = true) := ob
    rw [show beE 0 0 x = 0 by simp [beE, on_zero, z], show beL 0 0 x = x by simp [beL, beE, on_zero, z]] at P0
    clear hu0 hs q0 b0 w0 w1 l1 z1 hx z ob
    go_enter Try.func7, Try.ntmps7
    go_wp2_with fail
    rw [HU0.out, HS.out]
    refine (P0.out ()).mono ?_
    rintro e v1 ⟨rfl, q1, f1⟩
    have A1 : Hid (SA w v1 s x) := ⟨⟨0, q1, OB.out⟩, fr_own B0.out.1 f1 (by have := B0.out.2; omega) (by simp)⟩
    clear q1 f1 P0 B0 OB HU0
    go_wp2
    go_loopw [6, 7] (fun v i wr => ∃ (k l : Nat), (k : Int) ≤ 200 ∧ (k : Int) ≤ len1 ∧ SA w wr s l ∧ v = .int .u64 (l : Int) ∧ i = .int .i64 k) (fun _ i _ => 200 - (intOf i).toNat)
    case atStart => exact ⟨0, x, by omega, by omega, A1.out, rfl, rfl⟩
    case round =>
      obtain ⟨k, l, hk, hk2, q, rfl, rfl⟩ := hrel
      clear A1
      have tail : (¬ (k : Int) < len1 ∧ decide ((k : Int) < len1) = false) ∨ ((k : Int) < len1 ∧ ¬ (k : Int) < 200) ∨ ((k : Int) < len1 ∧ (k : Int) < 200) := by
        by_cases h : (k : Int) < len1
        · by_cases h2 : (k : Int) < 200
          · exact Or.inr (Or.inr ⟨h, h2⟩)
          · exact Or.inr (Or.inl ⟨h, h2⟩)
        · exact Or.inl ⟨h, decide_eq_false h⟩
      rw [← or_assoc] at tail
      have Q0 : Hid (SA w wr s l) := q
      rcases tail with tail | ⟨h, h2⟩
      · have T : Hid (∀ w1, Sm w1 wr → _) := fun w1 e => sa_left Q0.out (w1 := w1) e
        have n1 : ((l : Int) == (l : Int)) = true := by simp
        clear q
        rcases tail with ⟨h, hd⟩ | ⟨h, h2⟩
        all_goals (
          go_wp2_with fail
          refine (T.out _ ⟨rfl, rfl, rfl, rfl⟩).mono ?_
          rintro e v2 ⟨rfl, q2⟩
          have B2 : Hid (Below s w v2 ∧ s ≤ v2.heap.size) := ⟨q2.bel, by have := q2.hi; omega⟩
          clear q2
          go_wp2_with fail
          refine (KN.out _).mono ?_
          rintro e v4 ⟨rfl, f4⟩
          go_wp2
          go_ret
          exact ⟨rfl, B2.out.1.trans (f4.mono B2.out.2)⟩)
      · obtain ⟨b0, off, rfl, x0⟩ := row_cell (wr := wr) HR.out.1 HR.out.2 (by rw [HS.out]; exact q.bel) h
        have HC : Hid (∀ v, SA w v s (nt l (bv (xs1.getD k 0))) → v.cell? ⟨b0, off + k, none⟩ = some (.int .i64 (xs1.getD k 0))) := fun v q => by
          obtain ⟨b1, o1, e1, x1⟩ := row_cell (wr := v) HR.out.1 HR.out.2 (by rw [HS.out]; exact q.bel) h
          simp only [Option.some.injEq, Addr.mk.injEq, and_true] at e1
          obtain ⟨rfl, rfl⟩ := e1
          exact x1
        have T1 : Hid (∀ w1, _) := fun w1 => krefhas_any l (xs1.getD k 0) w1 Q0.out.lt
        have T2 : Hid (∀ w1, Sm w1 wr → _) := fun w1 e => sa_ack (xs1.getD k 0) Q0.out (w1 := w1) e
        have T3 : Hid (∀ w1, _) := fun w1 => krefless_any l (xs1.getD k 0) w1 Q0.out.lt
        have ea := acE_eq l (xs1.getD k 0)
        clear q
        generalize nt l (bv (xs1.getD k 0)) = l2 at *
        generalize acE l (xs1.getD k 0) = ee at *
        generalize tb l (xs1.getD k 0) = t at *
        generalize xs1.getD k 0 = c at *
        have n1 : (t != t) = false := by simp
        go_wp2_with fail
        refine (T1.out _).mono ?_
        rintro e v1 ⟨rfl, rfl⟩
        go_wp2_with fail
        refine (T2.out _ ⟨rfl, rfl, rfl, rfl⟩).mono ?_
        rintro e v2 ⟨rfl, q2⟩
        have x2 := HC.out v2 q2
        have A2 : Hid (SA w v2 s l2) := q2
        have T4 : Hid (∀ w1, Sm w1 v2 → _) := fun w1 e => sa_ready A2.out (w1 := w1) e
        have hz : ((l2 : Int) == 0) = (l2 == 0) := by
          cases e : (l2 == 0)
          · have : l2 ≠ 0 := by simpa using e
            have : (l2 : Int) ≠ 0 := by omega
            simpa using this
          · have : l2 = 0 := by simpa using e
            simp [this]
        generalize (l2 == 0) = y at *
        have n2 : (y != y) = false := by simp
        clear q2 T1 T2 HC x0
        go_wp2_with fail
        refine (T3.out _).mono ?_
        rintro e v3 ⟨rfl, rfl⟩
        go_wp2_with fail
        refine (T4.out _ ⟨rfl, rfl, rfl, rfl⟩).mono ?_
        rintro e v4 ⟨rfl, q4⟩
        have A4 : Hid (SA w v4 s l2) := q4
        clear q4 T4 T3 x2
        go_wp2
        go_roundw
        case rel => exact ⟨k + 1, l2, by omega, by omega, A4.out, rfl, by go_num⟩
        case measure => simp [intOf]; omega

set_option maxRecDepth 100000 in
theorem lifted (os : Os) (started : os.Started) (H : Type) (enc : TypeId × Value → H) :
    ReturnsInHanded {} Try.checked os 7 .any (Rows.stopAllSpec.pre6 enc Try.prog Try.f7 Rows.stopAllRow.domain false) (Rows.stopAllSpec.post enc Try.prog Try.f7 false true false false) := by
  refine returnsInHanded_of_change (C := Try.checked) own started (by kernel_rfl) Try.func7
    (ChangeSpec.witness6 (enc := enc) (C := Try.checked) false ⟨#[], #[.int .u64 0, .slice none 0 0], []⟩ 8 (by kernel_rfl) (by kernel_rfl) (by kernel_rfl) (by kernel_rfl)) ?_
  intro W base args ds gs before hval0 hW hcnd _
  have hval : ∀ (j : Nat) t v, Try.f7.params[j]? = some t → args[j]? = some v → Value.okWide Try.prog W .any base t v := hval0
  have hW' := hW
  obtain ⟨p, q, hA0, hV, rfl, hfz, hnd⟩ := hW
  have hA : DataW.TrodAll enc Try.prog W 0 (fun _ => true) true Try.f7.params.toList args.toList ds p := hA0
  rw [Try.params7] at hA hval
  obtain ⟨v0, vs0, d0, ds0, p0, q0, hargs, rfl, rfl, h0, r0⟩ := trodAll_cons hA
  obtain ⟨v1, vs1, d1, ds1, p1, q1, rfl, rfl, rfl, h1, r1⟩ := trodAll_cons r0
  obtain ⟨rfl, rfl, rfl⟩ := trodAll_nil r1
  obtain rfl : args = #[v0, v1] := by cases args; simp_all
  obtain ⟨rfl, rfl⟩ := trodVars_none hV
  obtain ⟨a0, rfl, rfl, rfl, w0⟩ := open_int Try.underlying46 (hval 0 46 v0 rfl rfl) h0
  obtain ⟨a1, len1, cap1, rfl⟩ := okWide_slice Try.underlying35 (hval 1 35 v1 rfl rfl)
  have k1 := h1
  have lt1 : ∀ x ∈ p1, x.block < W.heap.size := by obtain ⟨m, hm⟩ := k1; exact DataW.trod_lt m _ _ _ hm
  obtain ⟨xs1, w1, l1, z1⟩ : ∃ xs, Row W (.slice a1 len1 cap1) xs ∧ xs.length = len1 ∧ ∀ n ∈ xs, (Lit.int .i64 n).wf = true := by
    obtain ⟨fuel, hf⟩ := h1
    rcases open_ints Try.underlying35 Try.underlying3 (by kernel_rfl) hf with ⟨hcs, _⟩ | ⟨x, l, c, zs, hcs, _, hl, hm, hz, _, hcell, hwz⟩
    · simp [Value.cells] at hcs
      obtain ⟨rfl, rfl, rfl⟩ := hcs
      exact ⟨[], Or.inl ⟨rfl, none, 0, rfl⟩, rfl, fun n hn => by simp at hn⟩
    · simp [Value.cells] at hcs
      obtain ⟨rfl, rfl, rfl⟩ := hcs
      obtain ⟨xs, r1, r2, r3⟩ := row_of_cells (zs := zs) (Or.inr ⟨_, rfl, hl, by simpa using hz, hcell⟩)
      exact ⟨xs, r1, r2, fun n hn => hwz n (r3 n hn)⟩
  clear hA0 hval0
  refine (walk a0 a1 len1 cap1 xs1 W w0 w1 l1 z1).mono fun e W' ⟨he, bel⟩ => ?_
  subst he
  exact ⟨_, rfl, _, _, _, [], _, [], hW', trodAll_mk1 (shut_bool Try.underlying4 _), (trodAll_cons_mk (shut_int Try.underlying46 w0) (trodAll_cons_mk (Below.trod laidOut (by kernel_rfl) (of_decide_eq_true (by kernel_rfl)) k1 bel lt1) trodAll_mk0)), rfl, bel.frame _, fun h => by cases h⟩

theorem over : Rows.StopAllSaid :=
  OpenClaim.holds_of_wide 7 Try.f7 rfl rfl rfl rfl rfl rfl rfl ⟨rfl, rfl, rfl, rfl, rfl⟩ rfl rfl rfl rfl rfl (by kernel_rfl) Try.func7 (by kernel_rfl)
    (of_decide_eq_true (by kernel_rfl)) (by unfold Func.isWrapper; first | (rw [if_pos (by decide +kernel)]; kernel_rfl) | (rw [if_neg (by decide +kernel)]; exact ⟨rfl, rfl⟩))
    (fun os started H enc _ => lifted os started H enc)
end Go.Proofs.Ytbmdfoohabipjaa.stopAll

namespace Go.Proofs.Ytbmdfoohabipjaa
open Go
theorem stopAll_holds : Rows.StopAllSaid := stopAll.over
#print axioms stopAll_holds
end Go.Proofs.Ytbmdfoohabipjaa
