/- The walks of the laws' comparing functions: two readings of one datum are equal. -/
import Derived.Test.YtojcjipelgjglaaBase
namespace Go.Proofs.Ytojcjipelgjglaa
open Go.RowKit
end Go.Proofs.Ytojcjipelgjglaa
