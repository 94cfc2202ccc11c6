/- The laws' helpers over Header and HeaderResult. Made by program (genflat.py). -/
import Derived.Test.YtkippafmeggjeaaIv
import Derived.Test.YtkippafmeggjeaaSz
import Derived.Test.YtkippafmeggjeaaHeld
import Derived.Test.YtkippafmeggjeaaMark
namespace Go.Proofs.Ytkippafmeggjeaa
open Go.RowKit
end Go.Proofs.Ytkippafmeggjeaa
