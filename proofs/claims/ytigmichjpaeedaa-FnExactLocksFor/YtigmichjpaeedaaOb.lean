/- The laws' helpers over Object. Made by program (genobj.py). -/
import Derived.Test.YtigmichjpaeedaaHd
namespace Go.Proofs.Ytigmichjpaeedaa
open Go.RowKit
end Go.Proofs.Ytigmichjpaeedaa
