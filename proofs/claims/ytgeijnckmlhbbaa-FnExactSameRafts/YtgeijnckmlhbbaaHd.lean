/- The laws' helpers over Header and HeaderResult. Made by program (genflat.py). -/
import Derived.Test.YtgeijnckmlhbbaaIv
import Derived.Test.YtgeijnckmlhbbaaSz
import Derived.Test.YtgeijnckmlhbbaaHeld
import Derived.Test.YtgeijnckmlhbbaaMark
namespace Go.Proofs.Ytgeijnckmlhbbaa
open Go.RowKit
end Go.Proofs.Ytgeijnckmlhbbaa
