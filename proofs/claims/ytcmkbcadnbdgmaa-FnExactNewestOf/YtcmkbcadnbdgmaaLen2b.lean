/- How long what 'HeaderIn' answers can be. -/
import Derived.Test.YtcmkbcadnbdgmaaSpec2g
namespace Go.Proofs.Ytcmkbcadnbdgmaa
open Go.RowKit

theorem nwA_bound (k : Nat) {xa xb : List Int} (ha : xa.length ≤ 1048576) (hb : xb.length ≤ 1048576) : (nwA k xa xb).length ≤ 1048576 := by
  unfold nwA
  split
  · exact ha
  · split
    · exact hb
    · simp
theorem inA_bound {xss : List (List Int)} {ps : List (Int × List Int)} (hs : Small xss ps) : (inA xss ps).length ≤ 1048576 := by
  unfold inA
  split
  · rename_i h
    exact nwA_bound _ (sideA_len _ _ (blkTo_len hs ps.length (Nat.le_refl _) (by omega) (by omega))) (sideA_len _ _ (blkTo_len hs ps.length (Nat.le_refl _) (by omega) (by omega)))
  · simp
end Go.Proofs.Ytcmkbcadnbdgmaa
