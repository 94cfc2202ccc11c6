/- The walks of the laws' functions that ask whether marks still stand. -/
import Derived.Test.YtbgbenfabepgkabBase
namespace Go.Proofs.Ytbgbenfabepgkab
open Go.RowKit
end Go.Proofs.Ytbgbenfabepgkab
