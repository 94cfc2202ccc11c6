/- The laws' helpers over Object. Made by program (genobj.py). -/
import Derived.Test.YtebgonaiodblhaaHd
namespace Go.Proofs.Ytebgonaiodblhaa
open Go.RowKit
end Go.Proofs.Ytebgonaiodblhaa
