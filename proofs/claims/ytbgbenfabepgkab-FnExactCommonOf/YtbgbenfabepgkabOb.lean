/- The laws' helpers over Object. Made by program (genobj.py). -/
import Derived.Test.YtbgbenfabepgkabHd
namespace Go.Proofs.Ytbgbenfabepgkab
open Go.RowKit
end Go.Proofs.Ytbgbenfabepgkab
