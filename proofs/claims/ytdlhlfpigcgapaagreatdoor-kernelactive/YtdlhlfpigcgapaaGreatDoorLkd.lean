/- Proved: for every number of cores and every list of events, davitlaw28.KernelActive(cpus, l) returns true: no thing is done on a core that is not active, nor by another event than a step of that core (the first 300 events, as the law itself says); no condition but that the listed table is as the program's text lays it, which the card ties. -/
import Derived.Test.YtdlhlfpigcgapaaGreatDoorRows
import Derived.Test.YtdlhlfpigcgapaaGreatDoorTie
import Derived.Test.YtdlhlfpigcgapaaGreatDoorCards
import Derived.Test.YtdlhlfpigcgapaaGreatDoorAZke
import Derived.Test.YtdlhlfpigcgapaaGreatDoorAZkj
import Derived.WalkKit
import Derived.ProofKit
import Derived.OpenShut
import Derived.Stop.Joined
import Derived.ShutString
import Derived.ChangeOld
import Derived.Below
import Derived.Carry
import Derived.LaidMore
import Derived.SevenTiedAt
import Derived.Test.YtdlhlfpigcgapaaGreatDoorLkb
import Derived.Test.YtdlhlfpigcgapaaGreatDoorLke

namespace Go.Proofs.YtdlhlfpigcgapaaGreatDoor
open Go
theorem kernelActive_card : Rows.KernelActiveCardSaid :=
  Claim7.holds_tied_plain_at .later [] [.data] true (true, "f6e9977f7bba549c8414f4f1bc2cd538d47e03bc58c88a616f8717993b4835d7") false
    kernelActive.over (fun _ h => by cases h) kernelActive.f1 (fun _ h => by cases h) kernelActive_row_tie rfl ⟨rfl, rfl⟩ kernelActive.f2 rfl
    (fun f fn hf hfn => by
      obtain rfl : f = 3 := Option.some.inj (kernelActive.f3.symm.trans hf) |>.symm
      obtain rfl : fn = Tryz.f3 := (Option.some.inj (Tryz.func3.symm.trans hfn)).symm
      exact ⟨kernelActive.f4, fun j t ht => by
        rw [Tryz.params3] at ht
        have hm : t ∈ [3, 22] := by simpa using Array.mem_of_getElem? ht
        have hall := kernelActive.f5
        exact (show Tryz.prog.wantsStandIn t = false by simpa using List.all_eq_true.1 hall t hm)⟩)
    kernelActive.f6
#print axioms kernelActive_card
end Go.Proofs.YtdlhlfpigcgapaaGreatDoor
