/- The laws' helpers over Object. Made by program (genobj.py). -/
import Derived.Test.YtchadekpiegfgaaDoorHd
namespace Go.Proofs.YtchadekpiegfgaaDoor
open Go.RowKit
end Go.Proofs.YtchadekpiegfgaaDoor
