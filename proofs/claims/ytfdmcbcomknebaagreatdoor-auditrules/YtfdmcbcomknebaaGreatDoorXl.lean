/- The texts Len of one layer, laid together. -/
import Derived.Lib.Strings
import Derived.Lib.Slices
import Derived.Lib.Small
import Derived.Lib.Walk
import Derived.Lib.BitFns
import Derived.Test.YtfdmcbcomknebaaGreatDoorProg
namespace Go.Proofs.YtfdmcbcomknebaaGreatDoor
end Go.Proofs.YtfdmcbcomknebaaGreatDoor
