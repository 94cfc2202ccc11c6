/- The laws' helpers over Object. Made by program (genobj.py). -/
import Derived.Test.YtoffjbpnggdgnaaHd
namespace Go.Proofs.Ytoffjbpnggdgnaa
open Go.RowKit
end Go.Proofs.Ytoffjbpnggdgnaa
