/- Of the law's proof: the closed facts of its row, each a lemma of its own. -/
import Derived.Test.YtdlhlfpigcgapaaGreatDoorRows
import Derived.ProofKit
import Derived.JoinedOf
namespace Go.Proofs.YtdlhlfpigcgapaaGreatDoor.kernelActive
open Go
theorem band {a b : Bool} (h : a = true) (g : b = true) : (a && b) = true := by rw [h, g]; rfl
set_option maxRecDepth 100000 in
set_option maxHeartbeats 16000000 in
theorem closed : joinedFacts Tryz.prog 3 Tryz.f3 Rows.kernelActiveSpec Rows.kernelActiveRow = true := by
  unfold joinedFacts
  with_reducible repeat' (refine band ?_ ?_)
  all_goals (as_aux_lemma => kernel_rfl)
end Go.Proofs.YtdlhlfpigcgapaaGreatDoor.kernelActive
