/- Puts among the arguments. -/
import Derived.Test.YtebgonaiodblhaaOpen
namespace Go.Proofs.Ytebgonaiodblhaa
open Go.ChangeShapes Go.WideShapes Go.ChangeAt Go.RowKit
end Go.Proofs.Ytebgonaiodblhaa
