/- slices.Index, slices.Contains over numbers, walked. -/
import Derived.Test.YtefcfhccbeaieaaIv
import Derived.Test.YtefcfhccbeaieaaTear
namespace Go.Proofs.Ytefcfhccbeaieaa
open Go.RowKit
end Go.Proofs.Ytefcfhccbeaieaa
