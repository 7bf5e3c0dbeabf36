/- Proved: for every number of cores and every list of events, davitlaw28.KernelCounts(cpus, l) returns true: the counts together are how many things were done (the first 300 events, as the law itself says); no condition but that the listed table is as the program's text lays it, which the card ties. -/
import Derived.Test.YtdlhlfpigcgapaaGreatDoorRows
import Derived.Test.YtdlhlfpigcgapaaGreatDoorTie
import Derived.Test.YtdlhlfpigcgapaaGreatDoorCards
import Derived.Test.YtdlhlfpigcgapaaGreatDoorZke
import Derived.Test.YtdlhlfpigcgapaaGreatDoorZkh
import Derived.WalkKit
import Derived.ProofKit
import Derived.OpenShut
import Derived.Stop.Joined
import Derived.ShutString
import Derived.ChangeOld
import Derived.Below
import Derived.Carry
import Derived.LaidMore
import Derived.SevenTiedAt
import Derived.Test.YtdlhlfpigcgapaaGreatDoorLcb
import Derived.Test.YtdlhlfpigcgapaaGreatDoorLce

namespace Go.Proofs.YtdlhlfpigcgapaaGreatDoor
open Go
theorem kernelCounts_card : Rows.KernelCountsCardSaid :=
  Claim7.holds_tied_plain_at .later [] [.data] true (true, "f6e9977f7bba549c8414f4f1bc2cd538d47e03bc58c88a616f8717993b4835d7") false
    kernelCounts.over (fun _ h => by cases h) kernelCounts.f1 (fun _ h => by cases h) kernelCounts_row_tie rfl ⟨rfl, rfl⟩ kernelCounts.f2 rfl
    (fun f fn hf hfn => by
      obtain rfl : f = 6 := Option.some.inj (kernelCounts.f3.symm.trans hf) |>.symm
      obtain rfl : fn = Tryz.f6 := (Option.some.inj (Tryz.func6.symm.trans hfn)).symm
      exact ⟨kernelCounts.f4, fun j t ht => by
        rw [Tryz.params6] at ht
        have hm : t ∈ [3, 22] := by simpa using Array.mem_of_getElem? ht
        have hall := kernelCounts.f5
        exact (show Tryz.prog.wantsStandIn t = false by simpa using List.all_eq_true.1 hall t hm)⟩)
    kernelCounts.f6
#print axioms kernelCounts_card
end Go.Proofs.YtdlhlfpigcgapaaGreatDoor
