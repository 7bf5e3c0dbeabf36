/- Proved: for every number of cores and every list of events, davitlaw28.KernelHot(cpus, l) returns true: only the return of a request that went well changes which cores are online, by its core alone (the first 300 events, as the law itself says); no condition but that the listed table is as the program's text lays it, which the card ties. -/
import Derived.Test.YtdlhlfpigcgapaaGreatDoorRows
import Derived.Test.YtdlhlfpigcgapaaGreatDoorTie
import Derived.Test.YtdlhlfpigcgapaaGreatDoorCards
import Derived.Test.YtdlhlfpigcgapaaGreatDoorHZke
import Derived.Test.YtdlhlfpigcgapaaGreatDoorHZki
import Derived.WalkKit
import Derived.ProofKit
import Derived.OpenShut
import Derived.Stop.Joined
import Derived.ShutString
import Derived.ChangeOld
import Derived.Below
import Derived.Carry
import Derived.LaidMore
import Derived.SevenTiedAt
import Derived.Test.YtdlhlfpigcgapaaGreatDoorLhb
import Derived.Test.YtdlhlfpigcgapaaGreatDoorLhe

namespace Go.Proofs.YtdlhlfpigcgapaaGreatDoor
open Go
theorem kernelHot_card : Rows.KernelHotCardSaid :=
  Claim7.holds_tied_plain_at .later [] [.data] true (true, "f6e9977f7bba549c8414f4f1bc2cd538d47e03bc58c88a616f8717993b4835d7") false
    kernelHot.over (fun _ h => by cases h) kernelHot.f1 (fun _ h => by cases h) kernelHot_row_tie rfl ⟨rfl, rfl⟩ kernelHot.f2 rfl
    (fun f fn hf hfn => by
      obtain rfl : f = 5 := Option.some.inj (kernelHot.f3.symm.trans hf) |>.symm
      obtain rfl : fn = Tryz.f5 := (Option.some.inj (Tryz.func5.symm.trans hfn)).symm
      exact ⟨kernelHot.f4, fun j t ht => by
        rw [Tryz.params5] at ht
        have hm : t ∈ [3, 22] := by simpa using Array.mem_of_getElem? ht
        have hall := kernelHot.f5
        exact (show Tryz.prog.wantsStandIn t = false by simpa using List.all_eq_true.1 hall t hm)⟩)
    kernelHot.f6
#print axioms kernelHot_card
end Go.Proofs.YtdlhlfpigcgapaaGreatDoor
