/- Chapter 9: lists of entries: the laws' helpers over them. Made by program (genen.py). -/
import Derived.Test.YtkippafmeggjeaaObS
import Derived.Test.YtkippafmeggjeaaEn
namespace Go.Proofs.Ytkippafmeggjeaa
open Go.RowKit
end Go.Proofs.Ytkippafmeggjeaa
