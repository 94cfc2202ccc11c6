/- Puts among the arguments. -/
import Derived.Test.YtchadekpiegfgaaDoorOpen
namespace Go.Proofs.YtchadekpiegfgaaDoor
open Go.ChangeShapes Go.WideShapes Go.ChangeAt Go.RowKit
end Go.Proofs.YtchadekpiegfgaaDoor
