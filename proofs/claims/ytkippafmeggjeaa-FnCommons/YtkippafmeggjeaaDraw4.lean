/- The model's draws of a header: 'spec.l2Draw', walked. -/
import Derived.Test.YtkippafmeggjeaaDraw2
import Derived.Test.YtkippafmeggjeaaBuilt4
namespace Go.Proofs.Ytkippafmeggjeaa
open Go.RowKit

/-- A header that is being drawn: in block h, the result's variable in block r. -/
structure DrAt (w : World) (s : Nat) (v : Value) (bs : List Nat) (t : Nat) (r h : Nat) (a b : Int) (xs : List Int) (ao : Option Addr) (n c N t5 : Nat) (wr : World) : Prop where
  dr : Drawn N s v bs t t5 w wr
  rw : w.heap.size ≤ r
  rh : r < h
  hl : h < wr.heap.size
  r0 : wr.cell? ⟨r, 0, none⟩ = some (.int .i64 0)
  r1 : wr.cell? ⟨r, 1, none⟩ = some (.int .i64 0)
  r2 : wr.cell? ⟨r, 2, none⟩ = some (.slice none 0 0)
  rf : ∀ o, wr.frozen? ⟨r, o, none⟩ = false
  h0 : wr.cell? ⟨h, 0, none⟩ = some (.int .i64 a)
  h1 : wr.cell? ⟨h, 1, none⟩ = some (.int .i64 b)
  h2 : wr.cell? ⟨h, 2, none⟩ = some (.slice ao n c)
  hf : ∀ o, wr.frozen? ⟨h, o, none⟩ = false
  own : wr.ownsRow (h + 1) 2 1 (.slice ao n c) n (xs.map (Value.int .i64))
  len : xs.length = n

/-- A number has been drawn on the way. -/
theorem DrAt.on {w : World} {s : Nat} {v : Value} {bs : List Nat} {t r h : Nat} {a b : Int} {xs : List Int} {ao : Option Addr} {n c N t5 t6 M : Nat} {wr w6 : World} (H : DrAt w s v bs t r h a b xs ao n c N t5 wr) (hs : s < w.heap.size) (hd : Drawn M s v bs t5 t6 wr w6) :
    DrAt w s v bs t r h a b xs ao n c (N + M) t6 w6 := by
  have hw := hd.2.1
  have h1 := H.rw
  have h2 := H.rh
  have h3 := H.hl
  exact ⟨H.dr.on hd, H.rw, H.rh, Nat.lt_of_lt_of_le H.hl hw.size, cell_wr hw H.r0 (by omega), cell_wr hw H.r1 (by omega), cell_wr hw H.r2 (by omega), fun o => (hw.frz _ _ (by omega)).trans (H.rf o),
    cell_wr hw H.h0 (by omega), cell_wr hw H.h1 (by omega), cell_wr hw H.h2 (by omega), fun o => (hw.frz _ _ (by omega)).trans (H.hf o), ownsRow_wr H.own hw (ownBlock_ne H.own (by omega)), H.len⟩
theorem DrAt.later {w : World} {s : Nat} {v : Value} {bs : List Nat} {t r h : Nat} {a b : Int} {xs : List Int} {ao : Option Addr} {n c N t5 : Nat} {wr w6 : World} (H : DrAt w s v bs t r h a b xs ao n c N t5 wr) (hb : Below wr.heap.size wr w6) :
    DrAt w s v bs t r h a b xs ao n c N t5 w6 := by
  have h2 := H.rh
  have h3 := H.hl
  exact ⟨H.dr.later hb, H.rw, H.rh, Nat.lt_of_lt_of_le H.hl hb.size, cell_later hb H.r0, cell_later hb H.r1, cell_later hb H.r2, fun o => ((bcell hb).2 _ _ (by omega)).trans (H.rf o),
    cell_later hb H.h0, cell_later hb H.h1, cell_later hb H.h2, fun o => ((bcell hb).2 _ _ (by omega)).trans (H.hf o), ownsRow_later H.own hb, H.len⟩

/-- One address more. -/
theorem DrAt.step {w : World} {s : Nat} {v : Value} {bs : List Nat} {t r h : Nat} {a b x : Int} {xs : List Int} {ao : Option Addr} {n c N t5 g cap : Nat} {wr w3 : World} (hS : Src s v bs w t) (H : DrAt w s v bs t r h a b xs ao n c N t5 wr)
    (hown : w3.ownsRow (h + 1) 2 1 (.slice (some ⟨g, 0, none⟩) (n + 1) cap) (n + 1) ((xs ++ [x]).map (Value.int .i64)))
    (hgrow : (wr.alloc (.cells #[.int .i64 x] 2)).grownBy w3 (Value.slice ao n c).ownBlock) :
    DrAt w s v bs t r h a b (xs ++ [x]) (some ⟨g, 0, none⟩) (n + 1) cap N t5 (w3.setCell ⟨h, 2, none⟩ (.slice (some ⟨g, 0, none⟩) (n + 1) cap)) := by
  have k1 := H.rw
  have k2 := H.rh
  have k3 := H.hl
  have hB : Below (h + 1) wr w3 := ((below_alloc wr (.cells #[.int .i64 x] 2)).mono (by omega)).grown hgrow (by simp; omega) (fun r hr => (H.own.lt r hr).1)
  have hc : ∀ b o, b < h + 1 → w3.cell? ⟨b, o, none⟩ = wr.cell? ⟨b, o, none⟩ := fun b o hb => hB.cell (p := ⟨b, o, none⟩) hb
  have hz : ∀ b o, b < h + 1 → w3.frozen? ⟨b, o, none⟩ = wr.frozen? ⟨b, o, none⟩ := fun b o hb => hB.frozen (p := ⟨b, o, none⟩) hb
  have hs := hB.size
  have hB2 : Below w.heap.size wr (w3.setCell ⟨h, 2, none⟩ (.slice (some ⟨g, 0, none⟩) (n + 1) cap)) := (hB.mono (by omega)).setCell (by simp; omega) _
  refine ⟨H.dr.onBelow hS hB2, H.rw, H.rh, by simp; omega, ?_, ?_, ?_, fun o => ?_, ?_, ?_, ?_, fun o => ?_, ?_, by simp [H.len]⟩
  · rw [World.cell?_setCell_other _ _ _ _ (by intro e; injection e with e _; omega), hc _ _ (by omega)]; exact H.r0
  · rw [World.cell?_setCell_other _ _ _ _ (by intro e; injection e with e _; omega), hc _ _ (by omega)]; exact H.r1
  · rw [World.cell?_setCell_other _ _ _ _ (by intro e; injection e with e _; omega), hc _ _ (by omega)]; exact H.r2
  · rw [World.frozen?_setCell, hz _ _ (by omega)]; exact H.rf o
  · rw [World.cell?_setCell_other _ _ _ _ (by intro e; injection e with _ e; omega), hc _ _ (by omega)]; exact H.h0
  · rw [World.cell?_setCell_other _ _ _ _ (by intro e; injection e with _ e; omega), hc _ _ (by omega)]; exact H.h1
  · exact World.cell?_setCell_same _ _ _ ((hc _ _ (by omega)).trans H.h2)
  · rw [World.frozen?_setCell, hz _ _ (by omega)]; exact H.hf o
  · exact ownsRow_set hown (fun e => by have := (hown.lt _ e).1; omega)

theorem ownsRow_mono {w : World} {B B' e z : Nat} {v : Value} {n : Nat} {xs : List Value} (h : w.ownsRow B e z v n xs) (hB : B' ≤ B) : w.ownsRow B' e z v n xs := by
  obtain ⟨h1, h2⟩ := h
  refine ⟨h1, ?_⟩
  rcases h2 with h2 | ⟨g, cap, cur, hv, hg, r⟩
  · exact Or.inl h2
  · exact Or.inr ⟨g, cap, cur, hv, Nat.le_trans hB hg, r⟩

end Go.Proofs.Ytkippafmeggjeaa
