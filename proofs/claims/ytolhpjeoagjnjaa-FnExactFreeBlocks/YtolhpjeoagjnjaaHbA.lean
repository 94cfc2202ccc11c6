/- A result that grows in a variable: a code and a list that is appended to (the result's variable beside it). -/
import Derived.Test.YtolhpjeoagjnjaaBuilt
import Derived.Deep.AppendLies
namespace Go.Proofs.Ytolhpjeoagjnjaa
open Go.RowKit

/-- What the loop knows of the two variables. -/
structure HbAt (w : World) (O : Nat) (xs : List Int) (ao : Option Addr) (j c : Nat) (wr : World) : Prop where
  below : Below w.heap.size w wr
  o : w.heap.size < O ∧ O < wr.heap.size
  r0 : wr.cell? ⟨w.heap.size, 0, none⟩ = some (.int .i64 0)
  r1 : wr.cell? ⟨w.heap.size, 1, none⟩ = some (.slice none 0 0)
  rf : ∀ o, wr.frozen? ⟨w.heap.size, o, none⟩ = false
  o0 : wr.cell? ⟨O, 0, none⟩ = some (.int .i64 0)
  o1 : wr.cell? ⟨O, 1, none⟩ = some (.slice ao j c)
  of : ∀ o, wr.frozen? ⟨O, o, none⟩ = false
  row : wr.ownsRow (O + 1) 2 1 (.slice ao j c) j (xs.map (Value.int .i64))
theorem HbAt.step {w : World} {O : Nat} {xs : List Int} {ao : Option Addr} {j c g cap : Nat} {x : Int} {wr w6 : World} (h : HbAt w O xs ao j c wr)
    (hown : w6.ownsRow (O + 1) 2 1 (.slice (some ⟨g, 0, none⟩) (j + 1) cap) (j + 1) (xs.map (Value.int .i64) ++ [.int .i64 x])) (hgrow : (wr.drew.alloc (.cells #[.int .i64 x] 2)).grownBy w6 (Value.slice ao j c).ownBlock) :
    HbAt w O (xs ++ [x]) (some ⟨g, 0, none⟩) (j + 1) cap (w6.setCell ⟨O, 1, none⟩ (.slice (some ⟨g, 0, none⟩) (j + 1) cap)) := by
  have hb := below_on (below_drewN wr 1) (below_alloc (wr.drewN 1) (.cells #[.int .i64 x] 2))
  have hlo : ∀ b, (Value.slice ao j c).ownBlock = some b → O + 1 ≤ b := fun b e => (h.row.lt b e).1
  have hz : wr.heap.size ≤ w6.heap.size := Nat.le_trans (by simp) hgrow.size
  have far : ∀ b o v, b ≤ O → wr.cell? ⟨b, o, none⟩ = some v → w6.cell? ⟨b, o, none⟩ = some v := fun b o v hb' hv => by
    have h1 := cell_later hb hv
    exact (World.cell?_of_block (hgrow.block b (World.block_lt_of_cell? _ _ h1) (fun e => by have := hlo b e.symm; omega))).trans h1
  have ffar : ∀ b o, b ≤ O → wr.frozen? ⟨b, o, none⟩ = false → w6.frozen? ⟨b, o, none⟩ = false := fun b o hb' hv =>
    (hgrow.frozen_far ⟨b, o, none⟩ (by have := h.o; simp; omega) (fun e => by have := hlo b e.symm; omega)).trans (((bcell hb).2 _ _ (by have := h.o; omega)).trans hv)
  have ho := h.o
  refine ⟨(((below_on h.below hb).grown hgrow (by have := h.below.size; simp; omega) (fun r hr => by have := hlo r hr; omega)).setCell (by simp; omega) _), ⟨ho.1, by simp; omega⟩, ?_, ?_, fun o => ?_, ?_, ?_, fun o => ?_, ?_⟩
  · rw [World.cell?_setCell_other _ _ _ _ (by intro e; injection e with e1 _; omega)]; exact far _ _ _ (by omega) h.r0
  · rw [World.cell?_setCell_other _ _ _ _ (by intro e; injection e with e1 _; omega)]; exact far _ _ _ (by omega) h.r1
  · rw [World.frozen?_setCell]; exact ffar _ _ (by omega) (h.rf o)
  · rw [World.cell?_setCell_other _ _ _ _ (by simp)]; exact far _ _ _ (by omega) h.o0
  · exact World.cell?_setCell_same _ _ _ (far _ _ _ (by omega) h.o1)
  · rw [World.frozen?_setCell]; exact ffar _ _ (by omega) (h.of o)
  · have e : (xs ++ [x]).map (Value.int .i64) = xs.map (Value.int .i64) ++ [.int .i64 x] := by simp
    rw [e]
    refine hown.kept (row := some O) ⟨rfl, rfl, rfl, by simp, fun b hb' hne => ?_⟩ (Or.inr (fun e => ?_))
    · exact Below.heap_setCell _ _ _ _ (fun e => hne (congrArg some e))
    · have := (hown.lt O e).1; omega

end Go.Proofs.Ytolhpjeoagjnjaa
