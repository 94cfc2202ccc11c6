/- 'spec.l1Puts' and 'spec.l1Copy', walked. -/
import Derived.Test.YtkdbkkhmaiomkaaRet
namespace Go.Proofs.Ytkdbkkhmaiomkaa
open Go.RowKit

theorem BuiltP.empty (w : World) (P : Nat → Prop) (hP : P w.heap.size) (ps : List (Int × List Int)) : BuiltP P (w.alloc (.cells #[] 74)) (.slice (some ⟨w.heap.size, 0, none⟩) 0 0) 0 ps :=
  ⟨fun _ => .bool false, fun _ => 0, World.ownsRow_made w #[] 0 (Nat.zero_le _) (by unfold maxLen; omega) (by simp), fun r h => by injection h with h; subst h; exact hP, Inner.zero _ _ _ _ _ _⟩

end Go.Proofs.Ytkdbkkhmaiomkaa
