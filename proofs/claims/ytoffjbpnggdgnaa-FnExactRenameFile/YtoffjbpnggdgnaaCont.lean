/- slices.Index, slices.Contains over numbers, walked. -/
import Derived.Test.YtoffjbpnggdgnaaIv
import Derived.Test.YtoffjbpnggdgnaaTear
namespace Go.Proofs.Ytoffjbpnggdgnaa
open Go.RowKit
end Go.Proofs.Ytoffjbpnggdgnaa
