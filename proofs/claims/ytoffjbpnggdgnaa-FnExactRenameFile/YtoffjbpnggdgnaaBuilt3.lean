/- 'spec.l1Puts' and 'spec.l1Copy', walked. -/
import Derived.Test.YtoffjbpnggdgnaaRet
namespace Go.Proofs.Ytoffjbpnggdgnaa
open Go.RowKit
end Go.Proofs.Ytoffjbpnggdgnaa
