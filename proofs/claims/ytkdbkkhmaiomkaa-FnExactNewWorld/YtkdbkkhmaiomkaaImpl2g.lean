/- Chapter 2, the program's side: 'impl.hasHeader', 'impl.copyHeader', 'impl.NewestOf', walked. Made by program (gen2g.py). -/
import Derived.Test.YtkdbkkhmaiomkaaImpl2
import Derived.Test.YtkdbkkhmaiomkaaSpec2e
namespace Go.Proofs.Ytkdbkkhmaiomkaa
open Go.RowKit
/-- What 'NewestOf' keeps while it asks. -/
structure NwAt (w : World) (ca sa ta : Int) (ya : Value) (cb sb tb : Int) (yb : Value) (W : World) : Prop where
  below : Below w.heap.size w W
  size : w.heap.size + 3 ≤ W.heap.size
  a0 : W.cell? ⟨w.heap.size, 0, none⟩ = some (.int .i64 ca)
  ah : HdAt W w.heap.size 1 sa ta ya
  b0 : W.cell? ⟨w.heap.size + 1, 0, none⟩ = some (.int .i64 cb)
  bh : HdAt W (w.heap.size + 1) 1 sb tb yb
  r0 : W.cell? ⟨w.heap.size + 1 + 1, 0, none⟩ = some (.int .i64 0)
  rh : HdAt W (w.heap.size + 1 + 1) 1 0 0 (.slice none 0 0)
  rf : ∀ o, W.frozen? ⟨w.heap.size + 1 + 1, o, none⟩ = false
theorem NwAt.later {w W W' : World} {ca sa ta cb sb tb : Int} {ya yb : Value} (h : NwAt w ca sa ta ya cb sb tb yb W) (hb : Below W.heap.size W W') : NwAt w ca sa ta ya cb sb tb yb W' :=
  ⟨below_on h.below hb, Nat.le_trans h.size hb.size, cell_later hb h.a0, h.ah.later hb, cell_later hb h.b0, h.bh.later hb, cell_later hb h.r0, h.rh.later hb, fun o => ((bcell hb).2 _ _ (by have := h.size; omega)).trans (h.rf o)⟩

end Go.Proofs.Ytkdbkkhmaiomkaa
