/- The laws' helpers over Object. Made by program (genobj.py). -/
import Derived.Test.YtbgbenfabepgkaaHd
namespace Go.Proofs.Ytbgbenfabepgkaa
open Go.RowKit
end Go.Proofs.Ytbgbenfabepgkaa
