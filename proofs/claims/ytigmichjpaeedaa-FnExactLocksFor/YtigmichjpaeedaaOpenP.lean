/- Puts among the arguments. -/
import Derived.Test.YtigmichjpaeedaaOpen
namespace Go.Proofs.Ytigmichjpaeedaa
open Go.ChangeShapes Go.WideShapes Go.ChangeAt Go.RowKit
end Go.Proofs.Ytigmichjpaeedaa
