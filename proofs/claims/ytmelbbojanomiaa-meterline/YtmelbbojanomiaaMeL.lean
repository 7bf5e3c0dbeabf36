/- How floats lie in memory. -/
import Derived.Test.YtmelbbojanomiaaRows
import Derived.OpenShut
namespace Go.Proofs.Ytmelbbojanomiaa
open Go
theorem Try.infoFl : (Try.prog.info? 38).map (fun i => (i.zero, i.size, i.bytes)) = some (some (.float .f64 0), 1, 8) := by kernel_rfl
end Go.Proofs.Ytmelbbojanomiaa
