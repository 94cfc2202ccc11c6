/- 'spec.l1Puts' and 'spec.l1Copy', walked. -/
import Derived.Test.YtolhpjeoagjnjaaRet
namespace Go.Proofs.Ytolhpjeoagjnjaa
open Go.RowKit
end Go.Proofs.Ytolhpjeoagjnjaa
