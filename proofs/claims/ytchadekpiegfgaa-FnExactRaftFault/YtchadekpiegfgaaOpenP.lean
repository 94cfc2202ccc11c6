/- Puts among the arguments. -/
import Derived.Test.YtchadekpiegfgaaOpen
namespace Go.Proofs.Ytchadekpiegfgaa
open Go.ChangeShapes Go.WideShapes Go.ChangeAt Go.RowKit
end Go.Proofs.Ytchadekpiegfgaa
