/- The walks of the laws' functions that ask whether marks still stand. -/
import Derived.Test.YtojcjipelgjglaaBase
namespace Go.Proofs.Ytojcjipelgjglaa
open Go.RowKit
end Go.Proofs.Ytojcjipelgjglaa
