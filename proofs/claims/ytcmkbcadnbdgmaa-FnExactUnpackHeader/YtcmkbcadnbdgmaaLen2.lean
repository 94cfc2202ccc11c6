/- How long what chapter 2 answers can be. -/
import Derived.Test.YtcmkbcadnbdgmaaSpec2d
namespace Go.Proofs.Ytcmkbcadnbdgmaa
open Go.RowKit

theorem packL_bound (s t : Int) (xs : List Int) : (if headF s t xs = 0 then packL s t xs else []).length ≤ 1048576 := by
  split
  · rename_i h
    rw [packL_len (by have := (headF_zero h).2.1; omega)]
    omega
  · simp
theorem unpA_bound (ws : List Int) (hw : ws.length ≤ 1048576) : (unpA ws).length ≤ 1048576 := by
  unfold unpA addrsOf
  split
  · simp; omega
  · simp
end Go.Proofs.Ytcmkbcadnbdgmaa
