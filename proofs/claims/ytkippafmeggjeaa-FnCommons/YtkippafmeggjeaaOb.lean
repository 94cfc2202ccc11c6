/- The laws' helpers over Object. Made by program (genobj.py). -/
import Derived.Test.YtkippafmeggjeaaHd
namespace Go.Proofs.Ytkippafmeggjeaa
open Go.RowKit
end Go.Proofs.Ytkippafmeggjeaa
