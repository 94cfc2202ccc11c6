/- Puts among the arguments. -/
import Derived.Test.YtbgbenfabepgkaaOpen
namespace Go.Proofs.Ytbgbenfabepgkaa
open Go.ChangeShapes Go.WideShapes Go.ChangeAt Go.RowKit
end Go.Proofs.Ytbgbenfabepgkaa
