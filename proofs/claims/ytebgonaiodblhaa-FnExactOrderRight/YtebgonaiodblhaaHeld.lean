/- The walks of the laws' functions that ask whether marks still stand. -/
import Derived.Test.YtebgonaiodblhaaBase
namespace Go.Proofs.Ytebgonaiodblhaa
open Go.RowKit
end Go.Proofs.Ytebgonaiodblhaa
