/- Chapter 2, the model's side: 'spec.UnpackHeader', walked. -/
import Derived.Test.YtkdbkkhmaiomkaaSpec2c
namespace Go.Proofs.Ytkdbkkhmaiomkaa
open Go.RowKit

/-- What a call that ends in a code and a header is to leave. -/
def EndsH (x s t : Int) (xs : List Int) (w : World) (e : Ending) (w' : World) : Prop :=
  ∃ z, e = .returned (.agg #[.int .i64 x, .int .i64 s, .int .i64 t, z]) ∧ Below w.heap.size w w' ∧ OwI w.heap.size w' z xs

def okUb (ws : List Int) : Bool := decide (ws.length = 64) && (decide (ws.getD 2 0 ≤ 24) && (decide (headF (ws.getD 0 0) (ws.getD 1 0) (addrsOf ws) = 0) && decide (packL (ws.getD 0 0) (ws.getD 1 0) (addrsOf ws) = ws)))
theorem okUb_iff (ws : List Int) : okUb ws = true ↔ okU ws := by
  unfold okUb okU
  simp only [Bool.and_eq_true, decide_eq_true_iff]

/-- What comes of words: the code, and what the header tells. -/
def unpF (ws : List Int) : Int := if wordsF ws = 0 then (if okUb ws = true then 0 else 5) else wordsF ws
def unpS (ws : List Int) : Int := if unpF ws = 0 then ws.getD 0 0 else 0
def unpT (ws : List Int) : Int := if unpF ws = 0 then ws.getD 1 0 else 0
def unpA (ws : List Int) : List Int := if unpF ws = 0 then addrsOf ws else []

/-- The end of a function that stores a code and a header into its result's variable. -/
theorem ret_head {w w3 : World} {B r : Nat} {z x s t : Value} {xs : List Int} (hb : Below w.heap.size w w3) (hr : w.heap.size ≤ r) (ho : OwI B w3 z xs) (hB : r < B) (hB2 : w.heap.size ≤ B) :
    Below w.heap.size w ((((w3.setCell ⟨r, 0, none⟩ x).setCell ⟨r, 1, none⟩ s).setCell ⟨r, 2, none⟩ t).setCell ⟨r, 3, none⟩ z) ∧ OwI w.heap.size ((((w3.setCell ⟨r, 0, none⟩ x).setCell ⟨r, 1, none⟩ s).setCell ⟨r, 2, none⟩ t).setCell ⟨r, 3, none⟩ z) z xs := by
  have hw : Wr (fun y => y = r) w3 ((((w3.setCell ⟨r, 0, none⟩ x).setCell ⟨r, 1, none⟩ s).setCell ⟨r, 2, none⟩ t).setCell ⟨r, 3, none⟩ z) := ((((Wr.refl (fun y => y = r) _).setCell (p := ⟨r, 0, none⟩) rfl _).setCell (p := ⟨r, 1, none⟩) rfl _).setCell (p := ⟨r, 2, none⟩) rfl _).setCell (p := ⟨r, 3, none⟩) rfl _
  exact ⟨(((hb.setCell (p := ⟨r, 0, none⟩) hr _).setCell (p := ⟨r, 1, none⟩) hr _).setCell (p := ⟨r, 2, none⟩) hr _).setCell (p := ⟨r, 3, none⟩) hr _, (ho.wr hw (fun b h1 _ e => by omega)).mono hB2⟩

end Go.Proofs.Ytkdbkkhmaiomkaa
