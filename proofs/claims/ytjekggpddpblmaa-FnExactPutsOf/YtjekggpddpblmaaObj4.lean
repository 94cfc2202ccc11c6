/- Chapter 5: ReadObject of the model, walked: a list in a struct that is appended to. -/
import Derived.Test.YtjekggpddpblmaaObj3
import Derived.Test.YtjekggpddpblmaaBuilt4
import Derived.Deep.AppendLies
namespace Go.Proofs.Ytjekggpddpblmaa
open Go.RowKit

/-- A code with a list that is being built, in the block behind the result's variable. -/
structure OutAt (w : World) (L : List Int) (n : Nat) (ao : Option Addr) (c : Nat) (wr : World) : Prop where
  own : wr.ownsRow (w.heap.size + 2) 2 1 (.slice ao n c) n (L.map (Value.int .i64))
  below : Below w.heap.size w wr
  lt : w.heap.size + 1 < wr.heap.size
  h0 : wr.cell? ⟨w.heap.size + 1, 0, none⟩ = some (.int .i64 0)
  h1 : wr.cell? ⟨w.heap.size + 1, 1, none⟩ = some (.slice ao n c)
  hf : ∀ o, wr.frozen? ⟨w.heap.size + 1, o, none⟩ = false
  r0 : wr.cell? ⟨w.heap.size, 0, none⟩ = some (.int .i64 0)
  r1 : wr.cell? ⟨w.heap.size, 1, none⟩ = some (.slice none 0 0)
  rf : ∀ o, wr.frozen? ⟨w.heap.size, o, none⟩ = false
theorem OutAt.step {w wr w3 : World} {n c g cap : Nat} {x : Int} {L : List Int} {ao : Option Addr} {o : Obj} (h : OutAt w L n ao c wr)
    (hown : w3.ownsRow (w.heap.size + 2) 2 1 (.slice (some ⟨g, 0, none⟩) (n + 1) cap) (n + 1) ((L.map (Value.int .i64)) ++ [.int .i64 x])) (hg : (wr.alloc o).grownBy w3 (Value.slice ao n c).ownBlock) :
    OutAt w (L ++ [x]) (n + 1) (some ⟨g, 0, none⟩) cap (w3.setCell ⟨w.heap.size + 1, 1, none⟩ (.slice (some ⟨g, 0, none⟩) (n + 1) cap)) := by
  have hl := h.lt
  have hB : Below (w.heap.size + 2) wr w3 := ((below_alloc wr o).mono (by omega)).grown hg (by simp; omega) (fun r hr => (h.own.lt r hr).1)
  have hs := hB.size
  have hc : ∀ b o, b < w.heap.size + 2 → w3.cell? ⟨b, o, none⟩ = wr.cell? ⟨b, o, none⟩ := fun b o hb => hB.cell (p := ⟨b, o, none⟩) hb
  have hz : ∀ b o, b < w.heap.size + 2 → w3.frozen? ⟨b, o, none⟩ = wr.frozen? ⟨b, o, none⟩ := fun b o hb => hB.frozen (p := ⟨b, o, none⟩) hb
  refine ⟨?_, ?_, by simp; omega, ?_, ?_, fun o => ?_, ?_, ?_, fun o => ?_⟩
  · exact ownsRow_set (by simpa using hown) (fun e => by have := (hown.lt _ e).1; omega)
  · exact (h.below.trans (hB.mono (by omega))).setCell (by simp) _
  · rw [World.cell?_setCell_other _ _ _ _ (by intro e; injection e with _ e; omega), hc _ _ (by omega)]; exact h.h0
  · exact World.cell?_setCell_same _ _ _ ((hc _ _ (by omega)).trans h.h1)
  · rw [World.frozen?_setCell, hz _ _ (by omega)]; exact h.hf o
  · rw [World.cell?_setCell_other _ _ _ _ (by intro e; injection e with e _; omega), hc _ _ (by omega)]; exact h.r0
  · rw [World.cell?_setCell_other _ _ _ _ (by intro e; injection e with e _; omega), hc _ _ (by omega)]; exact h.r1
  · rw [World.frozen?_setCell, hz _ _ (by omega)]; exact h.rf o

theorem readL_succ (xs : List Int) (f k : Nat) : readL xs f (k + 1) = readL xs f k ++ [xs.getD (f + k) 0] := by simp [readL, List.range_succ]

end Go.Proofs.Ytjekggpddpblmaa
