/- Proved: for all scripts s and t, davitlaw31.ScriptPuts(s, t) returns true: the bytes of s, or why there are none, are what the document says, and so is whether s and t are alike (700 events at most in each, as the law itself says); both are left alone; no condition but that the listed table is as the program's text lays it, which the card ties. -/
import Derived.Test.YtmlilgbochbbiaaGreatDoorRows
import Derived.Test.YtmlilgbochbbiaaGreatDoorTie
import Derived.Test.YtmlilgbochbbiaaGreatDoorCards
import Derived.Test.YtmlilgbochbbiaaGreatDoorZke
import Derived.Test.YtmlilgbochbbiaaGreatDoorScp
import Derived.WalkKit
import Derived.ProofKit
import Derived.OpenShut
import Derived.Stop.Joined
import Derived.ShutString
import Derived.ChangeOld
import Derived.Below
import Derived.Carry
import Derived.LaidMore
import Derived.SevenTiedAt
import Derived.Test.YtmlilgbochbbiaaGreatDoorSpsb
import Derived.Test.YtmlilgbochbbiaaGreatDoorSpse

namespace Go.Proofs.YtmlilgbochbbiaaGreatDoor
open Go
theorem scriptPuts_card : Rows.ScriptPutsCardSaid :=
  Claim7.holds_tied_plain_at .later [] [.data] true (true, "773663e3b60af148ff0ff953bfb04ea4f8d257089fe8977050621210807f9519") false
    scriptPuts.over (fun _ h => by cases h) scriptPuts.f1 (fun _ h => by cases h) scriptPuts_row_tie rfl ⟨rfl, rfl⟩ scriptPuts.f2 rfl
    (fun f fn hf hfn => by
      obtain rfl : f = 3 := Option.some.inj (scriptPuts.f3.symm.trans hf) |>.symm
      obtain rfl : fn = Tryz.f3 := (Option.some.inj (Tryz.func3.symm.trans hfn)).symm
      exact ⟨scriptPuts.f4, fun j t ht => by
        rw [Tryz.params3] at ht
        have hm : t ∈ [24, 24] := by simpa using Array.mem_of_getElem? ht
        have hall := scriptPuts.f5
        exact (show Tryz.prog.wantsStandIn t = false by simpa using List.all_eq_true.1 hall t hm)⟩)
    scriptPuts.f6
#print axioms scriptPuts_card
end Go.Proofs.YtmlilgbochbbiaaGreatDoor
