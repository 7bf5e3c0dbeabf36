/- Proved: for every picture p and every number n, davitlaw35.AuditRules(p, n) returns true: what audit.Rule tells of p and of each number from 0 to 8 and n, and what audit.Check tells of p, is what the document's own rules tell (of pictures with few things, as the law itself says; of the others its fixed calls alone), the fixed calls hold, and nothing that was there is changed. -/
import Derived.Test.YtfdmcbcomknebaaGreatDoorRows
import Derived.Test.YtfdmcbcomknebaaGreatDoorTie
import Derived.Test.YtfdmcbcomknebaaGreatDoorCards
import Derived.Test.YtfdmcbcomknebaaGreatDoorZke
import Derived.Test.YtfdmcbcomknebaaGreatDoorAuD
import Derived.Test.YtfdmcbcomknebaaGreatDoorAuF
import Derived.WalkKit
import Derived.ProofKit
import Derived.OpenShut
import Derived.Stop.Joined
import Derived.ShutString
import Derived.ChangeOld
import Derived.Below
import Derived.Carry
import Derived.LaidMore
import Derived.SevenTiedAt
import Derived.Test.YtfdmcbcomknebaaGreatDoorArb
import Derived.Test.YtfdmcbcomknebaaGreatDoorAre

namespace Go.Proofs.YtfdmcbcomknebaaGreatDoor
open Go
theorem auditRules_card : Rows.AuditRulesCardSaid :=
  Claim7.holds_tied_plain_at .later [] [.data] true (true, "b7284fd4daf6b0c68f6ae9f30c01e804b63afe23866a21ec54dcbfa7eae8a595") false
    auditRules.over (fun _ h => by cases h) auditRules.f1 (fun _ h => by cases h) auditRules_row_tie rfl ⟨rfl, rfl⟩ auditRules.f2 rfl
    (fun f fn hf hfn => by
      obtain rfl : f = 3 := Option.some.inj (auditRules.f3.symm.trans hf) |>.symm
      obtain rfl : fn = Tryz.f3 := (Option.some.inj (Tryz.func3.symm.trans hfn)).symm
      exact ⟨auditRules.f4, fun j t ht => by
        rw [Tryz.params3] at ht
        have hm : t ∈ [26, 3] := by simpa using Array.mem_of_getElem? ht
        have hall := auditRules.f5
        exact (show Tryz.prog.wantsStandIn t = false by simpa using List.all_eq_true.1 hall t hm)⟩)
    auditRules.f6
#print axioms auditRules_card
end Go.Proofs.YtfdmcbcomknebaaGreatDoor
