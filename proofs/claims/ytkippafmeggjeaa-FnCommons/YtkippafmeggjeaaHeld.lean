/- The walks of the laws' functions that ask whether marks still stand. -/
import Derived.Test.YtkippafmeggjeaaBase
namespace Go.Proofs.Ytkippafmeggjeaa
open Go.RowKit
end Go.Proofs.Ytkippafmeggjeaa
