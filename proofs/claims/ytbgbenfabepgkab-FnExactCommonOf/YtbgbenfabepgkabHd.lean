/- The laws' helpers over Header and HeaderResult. Made by program (genflat.py). -/
import Derived.Test.YtbgbenfabepgkabIv
import Derived.Test.YtbgbenfabepgkabSz
import Derived.Test.YtbgbenfabepgkabHeld
import Derived.Test.YtbgbenfabepgkabMark
namespace Go.Proofs.Ytbgbenfabepgkab
open Go.RowKit
end Go.Proofs.Ytbgbenfabepgkab
