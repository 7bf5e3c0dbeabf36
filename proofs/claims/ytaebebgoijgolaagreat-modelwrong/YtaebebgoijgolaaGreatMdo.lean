/- Where law 29's ModelWrong stands when it asks for a next state. -/
import Derived.Test.YtaebebgoijgolaaGreatRows
import Derived.Test.YtaebebgoijgolaaGreatMdn
namespace Go.Proofs.YtaebebgoijgolaaGreat
open Go.ChangeShapes Go.WideShapes Go.ChangeAt Go.RowKit
set_option linter.unusedVariables false
set_option linter.unusedSimpArgs false

def mw (w : World) (n : Nat) (c e0 e1 e2 e3 e4 : Int) : World := ((w.alloc (.cells (ev e0 e1 e2 e3 e4).toArray 24)).alloc (.cells ((List.replicate n (0 : Int)).map iv).toArray 3)).alloc (.cells (sc c 1 (.slice none 0 0) (.slice (some ⟨w.heap.size + 1, 0, none⟩) n n)).toArray 32)
structure MW (w u : World) (n : Nat) (c e0 e1 e2 e3 e4 : Int) : Prop where
  be : Below w.heap.size w u
  sl : SL u (.slice (some ⟨w.heap.size + 1, 0, none⟩) n n) (List.replicate n 0)
theorem mw_start (w : World) (n : Nat) (c e0 e1 e2 e3 e4 : Int) : MW w (mw w n c e0 e1 e2 e3 e4) n c e0 e1 e2 e3 e4 := by
  have e1' : (w.alloc (.cells (ev e0 e1 e2 e3 e4).toArray 24)).heap.size = w.heap.size + 1 := World.size_alloc _ _
  have hs := sl_made (w.alloc (.cells (ev e0 e1 e2 e3 e4).toArray 24)) n
  rw [e1'] at hs
  refine ⟨(((Below.refl _ _).alloc (Nat.le_refl _) _).alloc (by rw [e1']; omega) _).alloc (by rw [World.size_alloc, e1']; omega) _, hs.below ((Below.refl _ _).alloc (Nat.le_refl _) _)⟩
end Go.Proofs.YtaebebgoijgolaaGreat
