/- The walks of the laws' functions that ask whether marks still stand. -/
import Derived.Test.YtolhpjeoagjnjabBase
namespace Go.Proofs.Ytolhpjeoagjnjab
open Go.RowKit
end Go.Proofs.Ytolhpjeoagjnjab
