/- Proved: for all floats a, b and c and every list l of floats, davitlaw25.MeterLine(a, b, c, l) returns true: any three floats stand in one order, and the first and the last one of some (at most 100, as the law itself says) do not hang on how they are handed on, and l is left alone; no condition. -/
import Derived.Test.YtmelbbojanomiaaRows
import Derived.Test.YtmelbbojanomiaaFo
import Derived.Test.YtmelbbojanomiaaMeK
import Derived.Test.YtmelbbojanomiaaMeB
import Derived.Test.YtmelbbojanomiaaMeL
import Derived.WalkKit
import Derived.ProofKit
import Derived.OpenShut
import Derived.Stop.Joined
import Derived.ShutString
import Derived.ChangeOld
import Derived.Below
import Derived.Carry
import Derived.Test.YtmelbbojanomiaaOro
import Derived.WalkLawsBesides
namespace Go.Proofs.Ytmelbbojanomiaa.meterLine
open Go.ChangeShapes Go.WideShapes Go.ChangeAt Go.RowKit
open Mt Flo
set_option linter.unusedVariables false
set_option linter.unusedSimpArgs false

theorem own : ownKnob Try.prog.godebug = none := by kernel_rfl
theorem laidOut : laidOutB Try.prog = true := by kernel_rfl

set_option maxRecDepth 100000 in
set_option maxHeartbeats 4000000 in
theorem walk (a0 : Nat) (a1 : Nat) (a2 : Nat) (a3 : Option Addr) (len3 cap3 : Nat) (xs3 : List Nat) (w : World) (w0 : a0 < 18446744073709551616) (w1 : a1 < 18446744073709551616) (w2 : a2 < 18446744073709551616) (w3 : ORow fl w (.slice a3 len3 cap3) xs3) (l3 : xs3.length = len3) (z3 : ∀ n ∈ xs3, n < 18446744073709551616) :
    Calls Try.prog 6 #[.float .f64 a0, .float .f64 a1, .float .f64 a2, .slice a3 len3 cap3] w fun e w' => e = .returned (.bool true) ∧ Below w.heap.size w w' := by
  have KN : Hid (∀ w, _) := fun w => mknown_yes w
  have Z : Hid (∀ x ∈ xs3, x < 18446744073709551616) := z3
  have HR : Hid (ORow fl w (.slice a3 len3 cap3) xs3) := w3
  have HL : Hid (xs3.length = len3) := l3
  have C1 : Hid (∀ w, _) := fun w => order_any a0 a1 w w0 w1
  have C2 : Hid (∀ w, _) := fun w => order_any a1 a2 w w1 w2
  have C3 : Hid (∀ w, _) := fun w => order_any a1 a0 w w1 w0
  have C4 : Hid (∀ w, _) := fun w => order_any a0 a0 w w0 w0
  have C5 : Hid (∀ w, _) := fun w => order_any a0 a2 w w0 w2
  have C6 : Hid (∀ x y u, x < 18446744073709551616 → y < 18446744073709551616 → _) := fun x y u hx hy => same_any x y u hx hy
  have g1 := od_back a0 a1
  have g2 := od_self a0
  have g3 := od_le a0 a1 a2
  have g4 := od_zero a0 a1 a2
  have g5 : od a0 a1 = -1 ∨ od a0 a1 = 0 ∨ od a0 a1 = 1 := by unfold od; repeat' split
                                                              all_goals simp
  have g6 : od a1 a2 = -1 ∨ od a1 a2 = 0 ∨ od a1 a2 = 1 := by unfold od; repeat' split
                                                              all_goals simp
  rw [g1] at C3
  rw [g2] at C4
  generalize od a0 a1 = x at *
  generalize od a1 a2 = y at *
  generalize od a0 a2 = z at *
  clear g1 g2 w0 w1 w2 w3 z3 l3
  by_cases big : (100 : Int) < len3
  · clear g3 g4 g5 g6
    go_enter Try.func6, Try.ntmps6
    go_wp2_with fail
    refine (KN.out _).mono ?_
    rintro e u ⟨rfl, b⟩
    have B : Hid (Below w.heap.size w u) := b
    clear b
    go_wp2
    go_ret
    exact ⟨rfl, B.out⟩
  have hl : (xs3.length : Int) ≤ 1000 := by have := HL.out; omega
  have hrl : (xs3.reverse.length : Int) ≤ 1000 := by rw [List.length_reverse]; exact hl
  have hrz : ∀ x ∈ xs3.reverse, x < 18446744073709551616 := fun x hx => Z.out x (List.mem_reverse.1 hx)
  have M1 : Hid (∀ u, Below w.heap.size w u → _) := fun u s => most_any xs3 _ u (HR.out.below s) Z.out hl
  have M2 : Hid (∀ u v, ORow fl u v xs3.reverse → _) := fun u v r => most_any xs3.reverse v u r hrz hrl
  have M3 : Hid (∀ u, Below w.heap.size w u → _) := fun u s => least_any xs3 _ u (HR.out.below s) Z.out hl
  have M4 : Hid (∀ u v, ORow fl u v xs3.reverse → _) := fun u v r => least_any xs3.reverse v u r hrz hrl
  have Y1 : Hid (∀ w, _) := fun w => C6.out (bst 1 xs3) (bst 1 xs3.reverse) w (bst_lt _ _ Z.out) (bst_lt _ _ hrz)
  have Y2 : Hid (∀ w, _) := fun w => C6.out (bst (-1) xs3) (bst (-1) xs3.reverse) w (bst_lt _ _ Z.out) (bst_lt _ _ hrz)
  rw [bst_back 1 (Or.inl rfl) xs3 Z.out] at Y1
  rw [bst_back (-1) (Or.inr rfl) xs3 Z.out] at Y2
  simp only [beq_self_eq_true] at Y1 Y2
  generalize bst 1 xs3 = t1 at *
  generalize bst 1 xs3.reverse = t2 at *
  generalize bst (-1) xs3 = t3 at *
  generalize bst (-1) xs3.reverse = t4 at *
  clear C6 hl hrl hrz
  obtain ⟨i0, hi, hz0, hz1, hz2⟩ := info_parts Try.infoFl
  have AP : Hid (∀ (wr : World) (v : Value) (ys : List Nat) (f : Nat), OG fl 38 w wr v ys → (ys.length : Int) ≤ 1000 → ∃ v' w2, (Builtin.append_ #[44, 44] 44 #[v, .slice (some ⟨wr.heap.size, 0, none⟩) 1 1]).run Try.prog (wr.alloc (.cells #[.float .f64 f] 38)) = .ok v' w2 ∧ OG fl 38 w w2 v' (ys ++ [f])) := fun wr v ys f g hy =>
    og_app 38 44 44 i0 (.float .f64 0) 8 Try.underlying44 hi hz0 hz1 hz2 rfl one_fl g ((Below.refl _ _).alloc (Nat.le_refl _) _) (orow_new (c := fl) wr [f] 38 1 1 rfl) (fun a cap h => by simp at h) (by simp only [List.length_singleton, maxLen]; omega) (by simp only [List.length_singleton]; omega)
  clear hi hz0 hz1 hz2
  have O0 : Hid (OG fl 38 w w (.slice none 0 0) []) := og_start fl 38 w
  have DR : Hid (∀ (j f : Nat), xs3[j]? = some f → (xs3.drop j).reverse = (xs3.drop (j + 1)).reverse ++ [f]) := fun j f hf => by
    have hj : j < xs3.length := by
      rcases Nat.lt_or_ge j xs3.length with q | q
      · exact q
      · rw [List.getElem?_eq_none q] at hf; cases hf
    rw [List.drop_eq_getElem_cons hj, List.reverse_cons]
    rw [List.getElem?_eq_getElem hj] at hf
    rw [Option.some.inj hf]
  rcases g5 with rfl | rfl | rfl <;> rcases g6 with rfl | rfl | rfl
  all_goals (try simp at g3)
  all_goals (try simp at g4)
  all_goals (try subst g4)
  all_goals (try clear g4)
  all_goals
    go_enter Try.func6, Try.ntmps6
    go_wp2_with fail
    refine (C1.out _).mono ?_
    rintro e w' ⟨rfl, rfl⟩
    go_wp2_with fail
    refine (C2.out _).mono ?_
    rintro e w' ⟨rfl, rfl⟩
    go_wp2_with fail
    refine (C3.out _).mono ?_
    rintro e w' ⟨rfl, rfl⟩
    go_wp2_with fail
    refine (C4.out _).mono ?_
    rintro e w' ⟨rfl, rfl⟩
    (try (go_wp2_with fail; refine (C5.out _).mono ?_; rintro e w' ⟨rfl, rfl⟩))
    (try (go_wp2_with fail; refine (C5.out _).mono ?_; rintro e w' ⟨rfl, rfl⟩))
    go_wp2
    go_loopw [11, 12] (fun v i wr => ∃ k : Nat, (k : Int) ≤ len3 ∧ OG fl 38 w' wr v (xs3.drop k).reverse ∧ i = .int .i64 k) (fun _ i _ => (intOf i).toNat)
    case atStart =>
      refine ⟨len3, by omega, ?_, rfl⟩
      rw [show xs3.drop len3 = [] from List.drop_eq_nil_of_le (by have := HL.out; omega)]
      exact O0.out
    case round =>
      obtain ⟨k, hk, og, rfl⟩ := hrel
      have G : Hid (OG fl 38 w' wr _ (xs3.drop k).reverse) := og
      clear og
      by_cases h : (0 : Int) < k
      · obtain ⟨j, rfl⟩ : ∃ j, k = j + 1 := ⟨k - 1, by omega⟩
        obtain ⟨f, hf⟩ : ∃ f, xs3[j]? = some f := ⟨_, List.getElem?_eq_getElem (by have := HL.out; omega)⟩
        have HR2 := HR.out.below G.out.bel
        obtain ⟨b, off, e0, _, hc⟩ := orow_cell HR2 hf
        subst e0
        have hc2 : wr.cell? ⟨b, off + j, none⟩ = some (.float .f64 f) := hc
        have jl : (j : Int) < len3 := by omega
        obtain ⟨v', w2, hrun, g2⟩ := AP.out wr _ _ f G.out (by rw [List.length_reverse, List.length_drop]; have := HL.out; omega)
        rw [← DR.out j f hf] at g2
        have G2 : Hid (OG fl 38 w' w2 v' (xs3.drop j).reverse) := g2
        clear g2 hc HR2 hf AP DR C1 C2 C3 C4 C5
        go_wp2_with (at_builtin; refine wpList_rung rfl (.tmp 69) (.tmp 75) 44 rfl rfl rfl hrun ?_)
        go_roundw
        case rel => exact ⟨j, by omega, G2.out, by go_num⟩
        case measure => simp [intOf]
      · obtain rfl : k = 0 := by omega
        have B0 : Hid (Below w'.heap.size w' wr) := G.out.bel
        have R0 := G.out.row
        rw [List.drop_zero] at R0
        obtain ⟨av, cv, hv⟩ := R0.shape
        have X1 : Hid (∀ _ : Unit, _) := fun _ => M1.out wr B0.out
        have X2 : Hid (∀ _ : Unit, _) := fun _ => M2.out wr _ R0
        have X3 : Hid (∀ _ : Unit, _) := fun _ => M3.out wr B0.out
        have X4 : Hid (∀ _ : Unit, _) := fun _ => M4.out wr _ R0
        clear R0 G hv M1 M2 M3 M4 C1 C2 C3 C4 C5 AP DR
        go_wp2_with fail
        refine (X1.out ()).mono ?_
        rintro e w'' ⟨rfl, e0⟩
        subst e0
        go_wp2_with fail
        refine (X2.out ()).mono ?_
        rintro e w'' ⟨rfl, e0⟩
        subst e0
        go_wp2_with fail
        refine (Y1.out _).mono ?_
        rintro e w'' ⟨rfl, e0⟩
        subst e0
        go_wp2_with fail
        refine (X3.out ()).mono ?_
        rintro e w'' ⟨rfl, e0⟩
        subst e0
        go_wp2_with fail
        refine (X4.out ()).mono ?_
        rintro e w'' ⟨rfl, e0⟩
        subst e0
        go_wp2_with fail
        refine (Y2.out _).mono ?_
        rintro e w'' ⟨rfl, e0⟩
        subst e0
        go_wp2_with fail
        refine (KN.out _).mono ?_
        rintro e u3 ⟨rfl, b3⟩
        have B3 : Hid (Below w'.heap.size w' u3) := B0.out.trans (b3.mono B0.out.size)
        clear b3
        go_wp2
        go_ret
        exact ⟨rfl, B3.out⟩

set_option maxRecDepth 100000 in
theorem lifted (os : Os) (started : os.Started) (H : Type) (enc : TypeId × Value → H) :
    ReturnsInHanded {} Try.checked os 6 .any (Rows.meterLineSpec.pre6 enc Try.prog Try.f6 Rows.meterLineRow.domain false) (Rows.meterLineSpec.post enc Try.prog Try.f6 false true false false) := by
  refine returnsInHanded_of_change (C := Try.checked) own started (by kernel_rfl) Try.func6
    (ChangeSpec.witness6 (enc := enc) (C := Try.checked) false ⟨#[], #[.float .f64 0, .float .f64 0, .float .f64 0, .slice none 0 0], []⟩ 8 (by kernel_rfl) (by kernel_rfl) (by kernel_rfl) (by kernel_rfl)) ?_
  intro W base args ds gs before hval0 hW hcnd _
  have hval : ∀ (j : Nat) t v, Try.f6.params[j]? = some t → args[j]? = some v → Value.okWide Try.prog W .any base t v := hval0
  have hW' := hW
  obtain ⟨p, q, hA0, hV, rfl, hfz, hnd⟩ := hW
  have hA : DataW.TrodAll enc Try.prog W 0 (fun _ => true) true Try.f6.params.toList args.toList ds p := hA0
  rw [Try.params6] at hA hval
  obtain ⟨v0, vs0, d0, ds0, p0, q0, hargs, rfl, rfl, h0, r0⟩ := trodAll_cons hA
  obtain ⟨v1, vs1, d1, ds1, p1, q1, rfl, rfl, rfl, h1, r1⟩ := trodAll_cons r0
  obtain ⟨v2, vs2, d2, ds2, p2, q2, rfl, rfl, rfl, h2, r2⟩ := trodAll_cons r1
  obtain ⟨v3, vs3, d3, ds3, p3, q3, rfl, rfl, rfl, h3, r3⟩ := trodAll_cons r2
  obtain ⟨rfl, rfl, rfl⟩ := trodAll_nil r3
  obtain rfl : args = #[v0, v1, v2, v3] := by cases args; simp_all
  obtain ⟨rfl, rfl⟩ := trodVars_none hV
  obtain ⟨a0, rfl, rfl, rfl, wf0⟩ := open_float Try.underlying38 (hval 0 38 v0 rfl rfl) h0
  have w0 : a0 < 18446744073709551616 := by simpa [Lit.wf] using wf0
  obtain ⟨a1, rfl, rfl, rfl, wf1⟩ := open_float Try.underlying38 (hval 1 38 v1 rfl rfl) h1
  have w1 : a1 < 18446744073709551616 := by simpa [Lit.wf] using wf1
  obtain ⟨a2, rfl, rfl, rfl, wf2⟩ := open_float Try.underlying38 (hval 2 38 v2 rfl rfl) h2
  have w2 : a2 < 18446744073709551616 := by simpa [Lit.wf] using wf2
  obtain ⟨a3, len3, cap3, rfl⟩ := okWide_slice Try.underlying44 (hval 3 44 v3 rfl rfl)
  have k3 := h3
  have lt3 : ∀ x ∈ p3, x.block < W.heap.size := by obtain ⟨m, hm⟩ := k3; exact DataW.trod_lt m _ _ _ hm
  obtain ⟨xs3, w3, l3, z3⟩ : ∃ xs, ORow fl W (.slice a3 len3 cap3) xs ∧ xs.length = len3 ∧ ∀ n ∈ xs, n < 18446744073709551616 := by
    obtain ⟨fuel, hf⟩ := h3
    exact open_ones (fun n => n < 18446744073709551616) Try.underlying44 (by kernel_rfl) (trod_fl Try.underlying38) hf
  clear hA0 hval0
  refine (walk a0 a1 a2 a3 len3 cap3 xs3 W w0 w1 w2 w3 l3 z3).mono fun e W' ⟨he, bel⟩ => ?_
  subst he
  exact ⟨_, rfl, _, _, _, [], _, [], hW', trodAll_mk1 (shut_bool Try.underlying4 _), (trodAll_cons_mk (shut_float Try.underlying38 wf0) (trodAll_cons_mk (shut_float Try.underlying38 wf1) (trodAll_cons_mk (shut_float Try.underlying38 wf2) (trodAll_cons_mk (Below.trod laidOut (by kernel_rfl) (of_decide_eq_true (by kernel_rfl)) k3 bel lt3) trodAll_mk0)))), rfl, bel.frame _, fun h => by cases h⟩

theorem over : Rows.MeterLineSaid :=
  OpenClaim.holds_of_wide 6 Try.f6 rfl rfl rfl rfl rfl rfl rfl ⟨rfl, rfl, rfl, rfl, rfl⟩ rfl rfl rfl rfl rfl (by kernel_rfl) Try.func6 (by kernel_rfl)
    (of_decide_eq_true (by kernel_rfl)) (by unfold Func.isWrapper; first | (rw [if_pos (by decide +kernel)]; kernel_rfl) | (rw [if_neg (by decide +kernel)]; exact ⟨rfl, rfl⟩))
    (fun os started H enc _ => lifted os started H enc)
end Go.Proofs.Ytmelbbojanomiaa.meterLine

namespace Go.Proofs.Ytmelbbojanomiaa
open Go
theorem meterLine_holds : Rows.MeterLineSaid := meterLine.over
#print axioms meterLine_holds
end Go.Proofs.Ytmelbbojanomiaa
