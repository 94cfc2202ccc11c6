/- The walks of the laws' comparing functions: two readings of one datum are equal. -/
import Derived.Test.YtkpkoapcmnapoabBase
namespace Go.Proofs.Ytkpkoapcmnapoab
open Go.RowKit
end Go.Proofs.Ytkpkoapcmnapoab
