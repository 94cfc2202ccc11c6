/- The laws' helpers over Object. Made by program (genobj.py). -/
import Derived.Test.YtchadekpiegfgaaHd
namespace Go.Proofs.Ytchadekpiegfgaa
open Go.RowKit
end Go.Proofs.Ytchadekpiegfgaa
