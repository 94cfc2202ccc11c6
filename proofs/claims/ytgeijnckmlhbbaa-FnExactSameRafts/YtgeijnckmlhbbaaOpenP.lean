/- Puts among the arguments. -/
import Derived.Test.YtgeijnckmlhbbaaOpen
namespace Go.Proofs.Ytgeijnckmlhbbaa
open Go.ChangeShapes Go.WideShapes Go.ChangeAt Go.RowKit
end Go.Proofs.Ytgeijnckmlhbbaa
