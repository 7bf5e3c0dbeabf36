/- Events as lines: the law of texts. -/
import Derived.Test.YtcifjdnmnmmhoaaDoorWd23
namespace Go.Proofs.YtcifjdnmnmmhoaaDoor
open Go.ChangeShapes Go.WideShapes Go.ChangeAt Go.RowKit
open Wd Mm
set_option linter.unusedVariables false
set_option linter.unusedSimpArgs false
set_option maxRecDepth 100000

set_option maxHeartbeats 4000000 in
theorem texts_law (es : List V) (hw : ∀ e ∈ es, e.wf) (a : Option Addr) (n cap : Nat) (w : World) (g : GW w) (hr : LRow vl w (.slice a n cap) es) (hn : es.length = n) :
    Calls Tryd.prog 5 #[.slice a n cap] w fun r w' => r = .returned (.bool true) ∧ Below w.heap.size w w' := by
  have CK : Hid (∀ u, Below w.heap.size w u → _) := fun u b => known_yes u (g.below b)
  have B0 : Hid (Below w.heap.size w w) := Below.refl _ _
  by_cases h6 : 650 < n
  · have h7 : (650 : Int) < (n : Int) := by omega
    clear hr hw g hn h6
    go_enter Tryd.func5, Tryd.ntmps5
    go_wp2_with fail
    refine (CK.out _ B0.out).mono ?_
    rintro r u5 ⟨rfl, b5⟩
    have B5 : Hid (Below w.heap.size w u5) := b5
    clear b5 B0 CK
    go_wp2
    go_ret
    exact ⟨rfl, B5.out⟩
  have h7 : ¬ (650 : Int) < (n : Int) := by omega
  have h8 : decide ((650 : Int) < (n : Int)) = false := decide_eq_false h7
  have CT : Hid (∀ _ : Unit, _) := fun _ => text_any es hw a n cap w g hr hn
  have CR : Hid (∀ u, Below w.heap.size w u → _) := fun u b => rtext_any es hw a n cap u (hr.below b) hn
  have CD : Hid (∀ t u, Below w.heap.size w u → _) := fun t u b => read_any t u (g.below b)
  have HR : Hid (∀ u, Below w.heap.size w u → LRow vl u (.slice a n cap) es) := fun u b => hr.below b
  have HS : Hid (∀ v u, LRow vl u v es → Below w.heap.size w u → _) := fun v u h b => rsame_any es v (.slice a n cap) u (by omega) h (hr.below b)
  obtain ⟨t, y, hy, HT⟩ : ∃ t y, txtR es = .tuple #[.string (sb t), .int .i64 y] ∧ (y ≠ 0 ∨ (y = 0 ∧ ∀ w' v a z, t.length ≤ 16000 → RdE t w' v a z → LRow vl w' v es ∧ a = 0 ∧ z = 0)) := by
    unfold txtR
    by_cases h : 600 < es.length
    · rw [if_pos h]; exact ⟨_, _, rfl, Or.inl (by decide)⟩
    · rw [if_neg h]
      cases ht : txt es with
      | none => exact ⟨_, _, rfl, Or.inl (by decide)⟩
      | some t =>
        refine ⟨t, 0, rfl, Or.inr ⟨rfl, fun w' v a z h16 hd => ?_⟩⟩
        unfold RdE at hd
        rw [if_neg (by omega), rdo_txt es t 0 [] hw ht, List.nil_append] at hd
        unfold RdO at hd
        simp only [if_neg h] at hd
        exact hd
  rw [hy] at CT CR
  clear g hr hn hw hy h6
  go_enter Tryd.func5, Tryd.ntmps5
  go_wp2_with fail
  refine (CT.out ()).mono ?_
  rintro r u1 ⟨rfl, b1⟩
  have B1 : Hid (Below w.heap.size w u1) := b1
  clear b1 CT B0
  go_wp2_with fail
  refine (CR.out _ B1.out).mono ?_
  rintro r u2 ⟨rfl, b2⟩
  have B2 : Hid (Below w.heap.size w u2) := B1.out.trans (b2.mono B1.out.size)
  clear b2 B1 CR
  rcases HT with hc | ⟨rfl, HT⟩
  · have hc2 : (y == 0) = false := by simpa using hc
    have hc3 : (y != 0) = true := by simpa using hc
    clear CD HR HS
    go_wp2_with fail
    refine (CK.out _ B2.out).mono ?_
    rintro r u5 ⟨rfl, b5⟩
    have B5 : Hid (Below w.heap.size w u5) := B2.out.trans (b5.mono B2.out.size)
    clear b5 B2 CK
    go_wp2
    go_ret
    exact ⟨rfl, B5.out⟩
  by_cases h16 : 16000 < t.length
  · have h17 : (16000 : Int) < (t.length : Int) := by omega
    clear CD HR HS HT h16
    go_wp2_with fail
    refine (CK.out _ B2.out).mono ?_
    rintro r u5 ⟨rfl, b5⟩
    have B5 : Hid (Below w.heap.size w u5) := B2.out.trans (b5.mono B2.out.size)
    clear b5 B2 CK
    go_wp2
    go_ret
    exact ⟨rfl, B5.out⟩
  have h17 : ¬ (16000 : Int) < (t.length : Int) := by omega
  have h18 : decide ((16000 : Int) < (t.length : Int)) = false := decide_eq_false h17
  have HT2 : Hid (∀ w' v a z, RdE t w' v a z → LRow vl w' v es ∧ a = 0 ∧ z = 0) := fun w' v a z => HT w' v a z (by omega)
  clear HT h16
  go_wp2_with fail
  refine (CD.out t _ B2.out).mono ?_
  rintro r u3 ⟨⟨v, x, z, rfl, hd⟩, b3⟩
  obtain ⟨hv, rfl, rfl⟩ := HT2.out _ _ _ _ hd
  have HV : Hid (LRow vl u3 v es) := hv
  have B3 : Hid (Below w.heap.size w u3) := B2.out.trans (b3.mono B2.out.size)
  clear b3 B2 hd hv CD HT2 HR
  go_wp2_with fail
  refine (HS.out v _ HV.out B3.out).mono ?_
  rintro r u4 ⟨rfl, s4⟩
  have B4 : Hid (Below w.heap.size w u4) := s4.below B3.out
  clear s4 B3 HS HV
  go_wp2_with fail
  refine (CK.out _ B4.out).mono ?_
  rintro r u5 ⟨rfl, b5⟩
  have B5 : Hid (Below w.heap.size w u5) := B4.out.trans (b5.mono B4.out.size)
  clear b5 B4 CK
  go_wp2
  go_ret
  exact ⟨rfl, B5.out⟩
end Go.Proofs.YtcifjdnmnmmhoaaDoor
