/- The laws' helpers over Object. Made by program (genobj.py). -/
import Derived.Test.YtkdbkkhmaiomkaaHd
namespace Go.Proofs.Ytkdbkkhmaiomkaa
open Go.RowKit
end Go.Proofs.Ytkdbkkhmaiomkaa
