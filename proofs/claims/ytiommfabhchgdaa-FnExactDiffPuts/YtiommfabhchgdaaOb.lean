/- The laws' helpers over Object. Made by program (genobj.py). -/
import Derived.Test.YtiommfabhchgdaaHd
namespace Go.Proofs.Ytiommfabhchgdaa
open Go.RowKit
end Go.Proofs.Ytiommfabhchgdaa
