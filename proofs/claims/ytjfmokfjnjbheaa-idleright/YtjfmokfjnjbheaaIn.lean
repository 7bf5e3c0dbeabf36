/- What davitlaw23's fixed calls come to: they hold. -/
import Derived.Test.YtjfmokfjnjbheaaRows
import Derived.Test.YtjfmokfjnjbheaaIi
import Derived.Test.YtjfmokfjnjbheaaIj
import Derived.Test.YtjfmokfjnjbheaaIk
import Derived.WalkKit
import Derived.ProofKit
import Derived.OpenShut
import Derived.BigQuiet
namespace Go.Proofs.Ytjfmokfjnjbheaa
open Go.ChangeShapes Go.WideShapes Go.ChangeAt Go.RowKit

set_option maxHeartbeats 1000000 in
theorem iknown_yes (w : World) :
    Calls Try.prog 9 #[] w fun e w' => e = .returned (.bool true) ∧ Below w.heap.size w w' := by
  have C0 : Hid (∀ _ : Unit, _) := fun _ => itable_any w
  go_enter Try.func9, Try.ntmps9
  go_wp2_with fail
  refine (C0.out ()).mono ?_
  rintro e u1 ⟨v, rfl, r1, b1⟩
  have B1 : Hid (Below w.heap.size w u1) := b1
  have R1 : Hid (LRow wy u1 v wt) := r1
  have C1 : Hid (∀ _ : Unit, _) := fun _ => ichoose_any wt v 60 20 u1 r1 (by decide)
  obtain ⟨va, vc, rfl⟩ := r1.shape
  clear r1 b1
  go_wp2_with fail
  refine (C1.out ()).mono ?_
  rintro e w' ⟨⟨c, rfl, hc⟩, rfl⟩
  obtain rfl : c = 2 := hc.one wt_two
  have C2 : Hid (∀ _ : Unit, _) := fun _ => iright_any wt _ w' R1.out
  clear hc
  go_wp2_with fail
  refine (C2.out ()).mono ?_
  rintro e u2 ⟨⟨q, rfl, hq⟩, b2⟩
  obtain rfl : q = true := hq.2 wt_right
  have R2 : Hid (LRow wy u2 _ wt) := R1.out.below b2
  have B2 : Hid (Below w.heap.size w u2) := B1.out.trans (b2.mono B1.out.size)
  have C3 : Hid (∀ _ : Unit, _) := fun _ => itaken_any wt _ u2 R2.out (by decide)
  clear hq b2
  go_wp2_with fail
  refine (C3.out ()).mono ?_
  rintro e u3 ⟨v3, rfl, g3⟩
  have R3 : Hid (LRow wy u3 _ wt) := R2.out.below g3.bel
  have Q3 : Hid (LRow wy u3 v3 wt) := g3.row
  have B3 : Hid (Below w.heap.size w u3) := B2.out.trans (g3.bel.mono B2.out.size)
  have C4 : Hid (∀ _ : Unit, _) := fun _ => jtable_any u3
  clear g3
  go_wp2_with fail
  refine (C4.out ()).mono ?_
  rintro e u4 ⟨v4, rfl, r4, b4⟩
  have R4 : Hid (LRow wy u4 _ wt) := R3.out.below b4
  have B4 : Hid (Below w.heap.size w u4) := B3.out.trans (b4.mono B3.out.size)
  have C5 : Hid (∀ _ : Unit, _) := fun _ => jsame_any wt v3 v4 u4 (by decide) (Q3.out.below b4) r4
  clear r4 b4
  go_wp2_with fail
  refine (C5.out ()).mono ?_
  rintro e u5 ⟨rfl, m5⟩
  have R5 : Hid (LRow wy u5 _ wt) := R4.out.heap m5.1
  have B5 : Hid (Below w.heap.size w u5) := m5.below B4.out
  have C6 : Hid (∀ _ : Unit, _) := fun _ => ipredict_any 5 9 true u5 (by decide)
  rw [prd_four] at C6
  have C7 : Hid (∀ _ : Unit, _) := fun _ => icost_any wt _ 1 3 u5 R5.out
  rw [wt_cost] at C7
  clear m5
  go_wp2_with fail
  refine (C6.out ()).mono ?_
  rintro e w' ⟨rfl, rfl⟩
  go_wp2_with fail
  refine (C7.out ()).mono ?_
  rintro e w' ⟨rfl, rfl⟩
  go_wp2
  go_ret
  exact ⟨rfl, B5.out⟩
end Go.Proofs.Ytjfmokfjnjbheaa
