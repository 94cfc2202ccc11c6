/- Puts among the arguments. -/
import Derived.Test.YtbgbenfabepgkabOpen
namespace Go.Proofs.Ytbgbenfabepgkab
open Go.ChangeShapes Go.WideShapes Go.ChangeAt Go.RowKit
end Go.Proofs.Ytbgbenfabepgkab
