/- The walks of the laws' functions that ask whether marks still stand. -/
import Derived.Test.YtchadekpiegfgaaBase
namespace Go.Proofs.Ytchadekpiegfgaa
open Go.RowKit
end Go.Proofs.Ytchadekpiegfgaa
