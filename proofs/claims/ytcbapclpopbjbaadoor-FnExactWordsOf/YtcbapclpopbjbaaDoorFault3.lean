/- 'l1Fault' and 'DiskFault' of the model, walked. -/
import Derived.Test.YtcbapclpopbjbaaDoorFault2
namespace Go.Proofs.YtcbapclpopbjbaaDoor
open Go.RowKit

theorem drewN_cell {w wr : World} (h : ∃ q, wr = w.drewN q) (a : Addr) : wr.cell? a = w.cell? a := by obtain ⟨q, rfl⟩ := h; rfl
theorem drewN_on {w wr w' : World} (h : ∃ q, wr = w.drewN q) (h' : ∃ q, w' = wr.drewN q) : ∃ q, w' = w.drewN q := by
  obtain ⟨q, rfl⟩ := h; obtain ⟨q', rfl⟩ := h'; exact ⟨_, World.drewN_drewN ..⟩

end Go.Proofs.YtcbapclpopbjbaaDoor
