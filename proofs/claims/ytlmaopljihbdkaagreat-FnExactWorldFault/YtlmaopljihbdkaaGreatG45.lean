/- Shelf2 in one text: what each says stands at its head below. -/
import Derived.Shelf.SlSortCmp.WholeK
import Derived.Test.YtlmaopljihbdkaaGreatProg
namespace Go.Proofs.YtlmaopljihbdkaaGreat
open Go.Shelf
end Go.Proofs.YtlmaopljihbdkaaGreat
