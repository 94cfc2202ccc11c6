/- The walks of the laws' functions that ask whether marks still stand. -/
import Derived.Test.YtkpkoapcmnapoabBase
namespace Go.Proofs.Ytkpkoapcmnapoab
open Go.RowKit
end Go.Proofs.Ytkpkoapcmnapoab
