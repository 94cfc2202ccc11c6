/- The laws' helpers over Header and HeaderResult. Made by program (genflat.py). -/
import Derived.Test.YtchadekpiegfgaaIv
import Derived.Test.YtchadekpiegfgaaSz
import Derived.Test.YtchadekpiegfgaaHeld
import Derived.Test.YtchadekpiegfgaaMark
namespace Go.Proofs.Ytchadekpiegfgaa
open Go.RowKit
end Go.Proofs.Ytchadekpiegfgaa
