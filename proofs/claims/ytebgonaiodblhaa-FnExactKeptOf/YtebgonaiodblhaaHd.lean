/- The laws' helpers over Header and HeaderResult. Made by program (genflat.py). -/
import Derived.Test.YtebgonaiodblhaaIv
import Derived.Test.YtebgonaiodblhaaSz
import Derived.Test.YtebgonaiodblhaaHeld
import Derived.Test.YtebgonaiodblhaaMark
namespace Go.Proofs.Ytebgonaiodblhaa
open Go.RowKit
end Go.Proofs.Ytebgonaiodblhaa
