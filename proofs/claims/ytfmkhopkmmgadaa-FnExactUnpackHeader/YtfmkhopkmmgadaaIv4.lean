/- Four cells of a variable. -/
import Derived.Test.YtfmkhopkmmgadaaIv
namespace Go.Proofs.Ytfmkhopkmmgadaa
open Go.RowKit

def Var4 (w : World) (b : Nat) (x y z u : Value) : Prop := w.cell? ⟨b, 0, none⟩ = some x ∧ w.cell? ⟨b, 1, none⟩ = some y ∧ w.cell? ⟨b, 2, none⟩ = some z ∧ w.cell? ⟨b, 3, none⟩ = some u
theorem Var4.later {w w' : World} {b : Nat} {x y z u : Value} (h : Var4 w b x y z u) (hb : Below w.heap.size w w') : Var4 w' b x y z u :=
  ⟨cell_later hb h.1, cell_later hb h.2.1, cell_later hb h.2.2.1, cell_later hb h.2.2.2⟩
theorem Var4.wr {S : Nat → Prop} {w w' : World} {b : Nat} {x y z u : Value} (h : Var4 w b x y z u) (hb : Wr S w w') (hd : ¬ S b) : Var4 w' b x y z u :=
  ⟨cell_wr hb h.1 hd, cell_wr hb h.2.1 hd, cell_wr hb h.2.2.1 hd, cell_wr hb h.2.2.2 hd⟩
theorem Var4.lt {w : World} {b : Nat} {x y z u : Value} (h : Var4 w b x y z u) : b < w.heap.size := World.block_lt_of_cell? _ _ h.1
theorem Var4_new (w : World) (x y z u : Value) (t : TypeId) : Var4 (w.alloc (.cells #[x, y, z, u] t)) w.heap.size x y z u := by
  refine ⟨?_, ?_, ?_, ?_⟩ <;> simp [go_sem]
end Go.Proofs.Ytfmkhopkmmgadaa
