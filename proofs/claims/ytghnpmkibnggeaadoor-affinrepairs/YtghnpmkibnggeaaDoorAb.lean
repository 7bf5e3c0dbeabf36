/- What the document's Choose answers (davitref12), for all masks and every number. -/
import Derived.Test.YtghnpmkibnggeaaDoorRows
import Derived.Test.YtghnpmkibnggeaaDoorAa
import Derived.Test.YtghnpmkibnggeaaDoorKe
import Derived.Test.YtghnpmkibnggeaaDoorKg
import Derived.WalkKit
import Derived.ProofKit
import Derived.OpenShut
import Derived.BigQuiet
import Derived.OwnWalk
namespace Go.Proofs.YtghnpmkibnggeaaDoor
open Go.ChangeShapes Go.WideShapes Go.ChangeAt Go.RowKit
open Mm

set_option maxRecDepth 100000 in
set_option maxHeartbeats 1000000 in
theorem rchoose_any (a b : Nat) (c : Int) (w : World) (ha : a < 18446744073709551616) (hb : b < 18446744073709551616) :
    Calls Tryd.prog 26 #[.int .u64 (a : Int), .int .u64 (b : Int), .int .i64 c] w fun e w' => e = .returned (.tuple #[.int .i64 (cN a b c), .bool (cF a b), .int .i64 (cE b)]) ∧ Below w.heap.size w w' := by
  by_cases h0 : b = 0
  · subst h0
    rw [show cN a 0 c = 0 from if_pos rfl, show cF a 0 = false from if_pos rfl, show cE 0 = 12 from if_pos rfl]
    clear ha hb
    go_enter Tryd.func26, Tryd.ntmps26
    go_wp2
    go_ret3
    exact ⟨rfl, Below.refl _ _⟩
  · have M2 : Hid (∀ w, _) := fun w => krefand_any a b w ha hb
    have M4 : Hid (∀ w, _) := fun w => krefhas_any (cS a b) c w (cS_lt hb)
    have M5 : Hid (∀ w, _) := fun w => krefnext_any (cS a b) c w (cS_lt hb)
    rw [er_nx (cS_lt hb) (cS_ne h0)] at M5
    have q1 : ((b : Int) == 0) = false := by rw [beq_eq_false_iff_ne]; omega
    rw [show cE b = 0 from if_neg h0]
    rcases Bool.eq_false_or_eq_true (tb (cS a b) c) with ht2 | ht2
    · rw [show cN a b c = c from (if_neg h0).trans (if_pos ht2)]
      rw [ht2] at M4
      by_cases h1 : a &&& b = 0
      · rw [show cF a b = true from (if_neg h0).trans (decide_eq_true h1)]
        rw [show cS a b = b from if_pos h1] at M4
        rw [h1] at M2
        clear ha hb h0 ht2 h1 M5
        go_enter Tryd.func26, Tryd.ntmps26
        go_wp2_with fail
        refine (M2.out _).mono ?_
        rintro e w2 ⟨rfl, b2⟩
        have B2 : Hid (Below w.heap.size w w2) := b2
        clear b2
        go_wp2_with fail
        refine (M4.out _).mono ?_
        rintro e w' ⟨rfl, rfl⟩
        go_wp2
        go_ret3
        exact ⟨rfl, B2.out⟩
      · rw [show cF a b = false from (if_neg h0).trans (decide_eq_false h1)]
        rw [show cS a b = a &&& b from if_neg h1] at M4
        have q2 : (((a &&& b : Nat) : Int) == 0) = false := by rw [beq_eq_false_iff_ne]; omega
        generalize a &&& b = P at *
        clear ha hb h0 ht2 h1 M5
        go_enter Tryd.func26, Tryd.ntmps26
        go_wp2_with fail
        refine (M2.out _).mono ?_
        rintro e w2 ⟨rfl, b2⟩
        have B2 : Hid (Below w.heap.size w w2) := b2
        clear b2
        go_wp2_with fail
        refine (M4.out _).mono ?_
        rintro e w' ⟨rfl, rfl⟩
        go_wp2
        go_ret3
        exact ⟨rfl, B2.out⟩
    · rw [show cN a b c = ((hd (nx (cS a b) c) : Nat) : Int) from (if_neg h0).trans (if_neg (by rw [ht2]; simp))]
      rw [ht2] at M4
      generalize hd (nx (cS a b) c) = R at *
      by_cases h1 : a &&& b = 0
      · rw [show cF a b = true from (if_neg h0).trans (decide_eq_true h1)]
        rw [show cS a b = b from if_pos h1] at M4 M5
        rw [h1] at M2
        clear ha hb h0 ht2 h1
        go_enter Tryd.func26, Tryd.ntmps26
        go_wp2_with fail
        refine (M2.out _).mono ?_
        rintro e w2 ⟨rfl, b2⟩
        have B2 : Hid (Below w.heap.size w w2) := b2
        clear b2
        go_wp2_with fail
        refine (M4.out _).mono ?_
        rintro e w' ⟨rfl, rfl⟩
        go_wp2_with fail
        refine (M5.out _).mono ?_
        rintro e w5 ⟨rfl, b5⟩
        have B5 : Hid (Below w.heap.size w w5) := B2.out.trans (b5.mono B2.out.size)
        clear b5
        go_wp2
        go_ret3
        exact ⟨rfl, B5.out⟩
      · rw [show cF a b = false from (if_neg h0).trans (decide_eq_false h1)]
        rw [show cS a b = a &&& b from if_neg h1] at M4 M5
        have q2 : (((a &&& b : Nat) : Int) == 0) = false := by rw [beq_eq_false_iff_ne]; omega
        generalize a &&& b = P at *
        clear ha hb h0 ht2 h1
        go_enter Tryd.func26, Tryd.ntmps26
        go_wp2_with fail
        refine (M2.out _).mono ?_
        rintro e w2 ⟨rfl, b2⟩
        have B2 : Hid (Below w.heap.size w w2) := b2
        clear b2
        go_wp2_with fail
        refine (M4.out _).mono ?_
        rintro e w' ⟨rfl, rfl⟩
        go_wp2_with fail
        refine (M5.out _).mono ?_
        rintro e w5 ⟨rfl, b5⟩
        have B5 : Hid (Below w.heap.size w w5) := B2.out.trans (b5.mono B2.out.size)
        clear b5
        go_wp2
        go_ret3
        exact ⟨rfl, B5.out⟩
end Go.Proofs.YtghnpmkibnggeaaDoor
