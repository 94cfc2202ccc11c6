/- The walks of the laws' comparing functions: two readings of one datum are equal. -/
import Derived.Test.YtkippafmeggjeaaBase
namespace Go.Proofs.Ytkippafmeggjeaa
open Go.RowKit
end Go.Proofs.Ytkippafmeggjeaa
