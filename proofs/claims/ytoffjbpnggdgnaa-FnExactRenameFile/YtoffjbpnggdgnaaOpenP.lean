/- Puts among the arguments. -/
import Derived.Test.YtoffjbpnggdgnaaOpen
namespace Go.Proofs.Ytoffjbpnggdgnaa
open Go.ChangeShapes Go.WideShapes Go.ChangeAt Go.RowKit
end Go.Proofs.Ytoffjbpnggdgnaa
