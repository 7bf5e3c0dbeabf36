/- Proved: for all bytes b, davitlaw31.ScriptGets(b) returns true: the script that b is, or why it is none, is what the document says (9000 bytes at most, as the law itself says), and b is left alone; no condition but that the listed table is as the program's text lays it, which the card ties. -/
import Derived.Test.YtmlilgbochbbiaaGreatDoorRows
import Derived.Test.YtmlilgbochbbiaaGreatDoorTie
import Derived.Test.YtmlilgbochbbiaaGreatDoorCards
import Derived.Test.YtmlilgbochbbiaaGreatDoorZke
import Derived.Test.YtmlilgbochbbiaaGreatDoorSc8
import Derived.WalkKit
import Derived.ProofKit
import Derived.OpenShut
import Derived.Stop.Joined
import Derived.ShutString
import Derived.ChangeOld
import Derived.Below
import Derived.Carry
import Derived.LaidMore
import Derived.SevenTiedAt
import Derived.Test.YtmlilgbochbbiaaGreatDoorYo
import Derived.Test.YtmlilgbochbbiaaGreatDoorScb
import Derived.Test.YtmlilgbochbbiaaGreatDoorSgsb
import Derived.Test.YtmlilgbochbbiaaGreatDoorSgse

namespace Go.Proofs.YtmlilgbochbbiaaGreatDoor
open Go
theorem scriptGets_card : Rows.ScriptGetsCardSaid :=
  Claim7.holds_tied_plain_at .later [] [.data] true (true, "773663e3b60af148ff0ff953bfb04ea4f8d257089fe8977050621210807f9519") false
    scriptGets.over (fun _ h => by cases h) scriptGets.f1 (fun _ h => by cases h) scriptGets_row_tie rfl ⟨rfl, rfl⟩ scriptGets.f2 rfl
    (fun f fn hf hfn => by
      obtain rfl : f = 4 := Option.some.inj (scriptGets.f3.symm.trans hf) |>.symm
      obtain rfl : fn = Tryz.f4 := (Option.some.inj (Tryz.func4.symm.trans hfn)).symm
      exact ⟨scriptGets.f4, fun j t ht => by
        rw [Tryz.params4] at ht
        have hm : t ∈ [26] := by simpa using Array.mem_of_getElem? ht
        have hall := scriptGets.f5
        exact (show Tryz.prog.wantsStandIn t = false by simpa using List.all_eq_true.1 hall t hm)⟩)
    scriptGets.f6
#print axioms scriptGets_card
end Go.Proofs.YtmlilgbochbbiaaGreatDoor
