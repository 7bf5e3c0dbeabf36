/- Events as lines: the law of readings of texts. -/
import Derived.Test.YtcifjdnmnmmhoaaDoorWd25
namespace Go.Proofs.YtcifjdnmnmmhoaaDoor
open Go.ChangeShapes Go.WideShapes Go.ChangeAt Go.RowKit
open Wd Mm
set_option linter.unusedVariables false
set_option linter.unusedSimpArgs false
set_option maxRecDepth 100000

/-- Two readings of one text read the same. -/
theorem rde_two (t : List UInt8) : ∃ (Y : List V) (a y : Int), (Y.length : Int) ≤ 1000 ∧ ∀ w v x z, RdE t w v x z → x = a ∧ z = y ∧ LRow vl w v Y := by
  have nil0 : ∀ w, LRow vl w (.slice none 0 0) [] := fun w => Or.inl ⟨rfl, none, 0, rfl⟩
  unfold RdE
  by_cases h : 16000 < t.length
  · simp only [if_pos h]
    refine ⟨[], 0, 15, by simp, ?_⟩
    rintro w v x z ⟨rfl, rfl, rfl⟩
    exact ⟨rfl, rfl, nil0 w⟩
  · simp only [if_neg h]
    cases rdo (parts 10 t) 0 [] with
    | inr j =>
      refine ⟨[], j, 13, by simp, ?_⟩
      rintro w v x z ⟨rfl, rfl, rfl⟩
      exact ⟨rfl, rfl, nil0 w⟩
    | inl es =>
      unfold RdO
      by_cases h6 : 600 < es.length
      · simp only [if_pos h6]
        refine ⟨[], 600, 15, by simp, ?_⟩
        rintro w v x z ⟨rfl, rfl, rfl⟩
        exact ⟨rfl, rfl, nil0 w⟩
      · simp only [if_neg h6]
        refine ⟨es, 0, 0, by omega, ?_⟩
        rintro w v x z ⟨h1, rfl, rfl⟩
        exact ⟨rfl, rfl, h1⟩

set_option maxHeartbeats 4000000 in
theorem reads_law (t : List UInt8) (w : World) (g : GW w) :
    Calls Tryd.prog 6 #[.string (sb t)] w fun r w' => r = .returned (.bool true) ∧ Below w.heap.size w w' := by
  have CK : Hid (∀ u, Below w.heap.size w u → _) := fun u b => known_yes u (g.below b)
  by_cases hl : 4000 < t.length ∧ t.length ≤ 16000
  · have h1 : decide ((4000 : Int) < (t.length : Int)) = true := decide_eq_true (by omega)
    have h2 : (4000 : Int) < (t.length : Int) := by omega
    have h3 : decide ((t.length : Int) ≤ 16000) = true := decide_eq_true (by omega)
    have h4 : (t.length : Int) ≤ 16000 := by omega
    have BA : Hid (Below w.heap.size w w) := Below.refl _ _
    clear g hl
    go_enter Tryd.func6, Tryd.ntmps6
    go_wp2_with fail
    refine (CK.out _ BA.out).mono ?_
    rintro r u5 ⟨rfl, b5⟩
    have B5 : Hid (Below w.heap.size w u5) := b5
    clear b5 BA CK
    go_wp2
    go_ret
    exact ⟨rfl, B5.out⟩
  have CD : Hid (∀ _ : Unit, _) := fun _ => read_any t w g
  have CR : Hid (∀ u, _) := fun u => rread_any t (by omega) u
  obtain ⟨Y, a, y, hY, hR⟩ := rde_two t
  have HR : Hid (∀ w v x z, RdE t w v x z → x = a ∧ z = y ∧ LRow vl w v Y) := hR
  have HS : Hid (∀ u1 u2 w, LRow vl w u1 Y → LRow vl w u2 Y → _) := fun u1 u2 w h1 h2 => rsame_any Y u1 u2 w hY h1 h2
  have cond : (decide ((4000 : Int) < (t.length : Int)) && decide ((t.length : Int) ≤ 16000)) = false := by
    rw [Bool.and_eq_false_iff, decide_eq_false_iff_not, decide_eq_false_iff_not]; omega
  clear g hR hY
  have KEY : Calls Tryd.prog 6 #[.string (sb t)] w fun r w' => r = .returned (.bool true) ∧ Below w.heap.size w w' := by
    by_cases h2 : (4000 : Int) < (t.length : Int)
    all_goals
      first
      | have h3 : ¬ (t.length : Int) ≤ 16000 := by omega
        have h4 : decide ((t.length : Int) ≤ 16000) = false := decide_eq_false h3
        have h1 : decide ((4000 : Int) < (t.length : Int)) = true := decide_eq_true h2
      | have h1 : decide ((4000 : Int) < (t.length : Int)) = false := decide_eq_false h2
      clear cond hl
      go_enter Tryd.func6, Tryd.ntmps6
      go_wp2_with fail
      refine (CD.out ()).mono ?_
      rintro r u1 ⟨⟨v1, x1, z1, rfl, hd1⟩, b1⟩
      obtain ⟨rfl, rfl, hv1⟩ := HR.out _ _ _ _ hd1
      have V1 : Hid (LRow vl u1 v1 Y) := hv1
      have B1 : Hid (Below w.heap.size w u1) := b1
      clear hd1 hv1 b1 CD
      go_wp2_with fail
      refine (CR.out _).mono ?_
      rintro r u2 ⟨⟨v2, x2, z2, rfl, hd2⟩, b2⟩
      obtain ⟨rfl, rfl, hv2⟩ := HR.out _ _ _ _ hd2
      have V2 : Hid (LRow vl u2 v2 Y) := hv2
      have V1' : Hid (LRow vl u2 v1 Y) := V1.out.below b2
      have B2 : Hid (Below w.heap.size w u2) := B1.out.trans (b2.mono B1.out.size)
      clear hd2 hv2 b2 CR V1 B1 HR
      go_wp2_with fail
      refine (HS.out v1 v2 _ V1'.out V2.out).mono ?_
      rintro r u4 ⟨rfl, s4⟩
      have B4 : Hid (Below w.heap.size w u4) := s4.below B2.out
      clear s4 B2 HS V1' V2
      go_wp2_with fail
      refine (CK.out _ B4.out).mono ?_
      rintro r u5 ⟨rfl, b5⟩
      have B5 : Hid (Below w.heap.size w u5) := B4.out.trans (b5.mono B4.out.size)
      clear b5 B4 CK
      go_wp2
      go_ret
      exact ⟨rfl, B5.out⟩
  exact KEY
end Go.Proofs.YtcifjdnmnmmhoaaDoor
