/- Proved: for every event e, davitlaw28.KernelNil(e) returns true: a kernel that is not there does nothing; no condition but that the listed table is as the program's text lays it, which the card ties. -/
import Derived.Test.YtmkboahjkhkefaaGreatDoorRows
import Derived.Test.YtmkboahjkhkefaaGreatDoorTie
import Derived.Test.YtmkboahjkhkefaaGreatDoorCards
import Derived.Test.YtmkboahjkhkefaaGreatDoorQKmu
import Derived.Test.YtmkboahjkhkefaaGreatDoorQKwm
import Derived.WalkKit
import Derived.ProofKit
import Derived.OpenShut
import Derived.Stop.Joined
import Derived.ShutString
import Derived.ChangeOld
import Derived.Below
import Derived.Carry
import Derived.LaidMore
import Derived.SevenTiedAt
import Derived.Test.YtmkboahjkhkefaaGreatDoorLnb
import Derived.Test.YtmkboahjkhkefaaGreatDoorLne

namespace Go.Proofs.YtmkboahjkhkefaaGreatDoor
open Go
theorem kernelNil_card : Rows.KernelNilCardSaid :=
  Claim7.holds_tied_plain_at .later [] [.data] true (true, "f6707ee6add9dd0dffa84f801ca6fcddc6c5986d05ab89a3ee9a9cbc4e5c7388") false
    kernelNil.over (fun _ h => by cases h) kernelNil.f1 (fun _ h => by cases h) kernelNil_row_tie rfl ⟨rfl, rfl⟩ kernelNil.f2 rfl
    (fun f fn hf hfn => by
      obtain rfl : f = 7 := Option.some.inj (kernelNil.f3.symm.trans hf) |>.symm
      obtain rfl : fn = Tryz.f7 := (Option.some.inj (Tryz.func7.symm.trans hfn)).symm
      exact ⟨kernelNil.f4, fun j t ht => by
        rw [Tryz.params7] at ht
        have hm : t ∈ [34] := by simpa using Array.mem_of_getElem? ht
        have hall := kernelNil.f5
        exact (show Tryz.prog.wantsStandIn t = false by simpa using List.all_eq_true.1 hall t hm)⟩)
    kernelNil.f6
#print axioms kernelNil_card
end Go.Proofs.YtmkboahjkhkefaaGreatDoor
