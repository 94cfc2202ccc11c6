/- The walks of the laws' functions that ask whether marks still stand. -/
import Derived.Test.YtgeijnckmlhbbaaBase
namespace Go.Proofs.Ytgeijnckmlhbbaa
open Go.RowKit
end Go.Proofs.Ytgeijnckmlhbbaa
