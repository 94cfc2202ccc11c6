/- The walks of the laws' functions that ask whether marks still stand. -/
import Derived.Test.YtcbapclpopbjbaaDoorBase
namespace Go.Proofs.YtcbapclpopbjbaaDoor
open Go.RowKit
end Go.Proofs.YtcbapclpopbjbaaDoor
