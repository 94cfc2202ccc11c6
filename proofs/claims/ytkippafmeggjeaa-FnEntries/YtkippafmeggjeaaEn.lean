/- The laws' helpers over Entry. Made by program (genen.py). -/
import Derived.Test.YtkippafmeggjeaaHd
namespace Go.Proofs.Ytkippafmeggjeaa
open Go.RowKit
end Go.Proofs.Ytkippafmeggjeaa
