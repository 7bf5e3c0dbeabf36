/- Proved: for all picks, every mask and every window, davitlaw36.FairPicks(picks, of, window) returns true: whether the picks are fair of the mask's cores in windows of so many, and how many picks are enough, is what the document says (of at most 300 picks, as the law itself says; of more its fixed calls alone), the fixed calls hold, and the picks are left alone. -/
import Derived.Test.YtfipiifickdeiaaGreatDoorRows
import Derived.Test.YtfipiifickdeiaaGreatDoorTie
import Derived.Test.YtfipiifickdeiaaGreatDoorCards
import Derived.Test.YtfipiifickdeiaaGreatDoorZke
import Derived.Test.YtfipiifickdeiaaGreatDoorFp6
import Derived.WalkKit
import Derived.ProofKit
import Derived.OpenShut
import Derived.Stop.Joined
import Derived.ShutString
import Derived.ChangeOld
import Derived.Below
import Derived.Carry
import Derived.LaidMore
import Derived.SevenTiedAt
import Derived.Test.YtfipiifickdeiaaGreatDoorOcp
import Derived.Test.YtfipiifickdeiaaGreatDoorFrb
import Derived.Test.YtfipiifickdeiaaGreatDoorFre

namespace Go.Proofs.YtfipiifickdeiaaGreatDoor
open Go
theorem fairPicks_card : Rows.FairPicksCardSaid :=
  Claim7.holds_tied_plain_at .later [] [.data] true (true, "fa1972de3addbeabda183c713debb2cc4c2d837ca415417b0248673bee8c4f82") false
    fairPicks.over (fun _ h => by cases h) fairPicks.f1 (fun _ h => by cases h) fairPicks_row_tie rfl ⟨rfl, rfl⟩ fairPicks.f2 rfl
    (fun f fn hf hfn => by
      obtain rfl : f = 3 := Option.some.inj (fairPicks.f3.symm.trans hf) |>.symm
      obtain rfl : fn = Tryz.f3 := (Option.some.inj (Tryz.func3.symm.trans hfn)).symm
      exact ⟨fairPicks.f4, fun j t ht => by
        rw [Tryz.params3] at ht
        have hm : t ∈ [22, 23, 3] := by simpa using Array.mem_of_getElem? ht
        have hall := fairPicks.f5
        exact (show Tryz.prog.wantsStandIn t = false by simpa using List.all_eq_true.1 hall t hm)⟩)
    fairPicks.f6
#print axioms fairPicks_card
end Go.Proofs.YtfipiifickdeiaaGreatDoor
