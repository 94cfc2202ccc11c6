/- The laws' helpers over Object. Made by program (genobj.py). -/
import Derived.Test.YtgeijnckmlhbbaaHd
namespace Go.Proofs.Ytgeijnckmlhbbaa
open Go.RowKit
end Go.Proofs.Ytgeijnckmlhbbaa
