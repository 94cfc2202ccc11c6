/- The laws' helpers over Object. Made by program (genobj.py). -/
import Derived.Test.YtefcfhccbeaieaaHd
namespace Go.Proofs.Ytefcfhccbeaieaa
open Go.RowKit
end Go.Proofs.Ytefcfhccbeaieaa
