/- Puts among the arguments. -/
import Derived.Test.YtefcfhccbeaieaaOpen
namespace Go.Proofs.Ytefcfhccbeaieaa
open Go.ChangeShapes Go.WideShapes Go.ChangeAt Go.RowKit
end Go.Proofs.Ytefcfhccbeaieaa
