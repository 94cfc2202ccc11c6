/- Lists of numbers that may be appended to. -/
import Derived.Test.YtkippafmeggjeaaDraw2
import Derived.Test.YtkippafmeggjeaaBuilt
namespace Go.Proofs.Ytkippafmeggjeaa
open Go.RowKit

/-- Lists of numbers, each in a block of its own that may be appended to. -/
def RowsI (P : Nat → Prop) (w : World) (row : Option Nat) (k : Nat) (V : Nat → Value) (X : Nat → List Int) : Prop :=
  (∀ i, i < k → w.ownsRow 0 2 1 (V i) (X i).length ((X i).map (Value.int .i64)) ∧ ∀ r, (V i).ownBlock = some r → P r ∧ row ≠ some r) ∧
    ∀ i j, i < k → j < k → i ≠ j → ∀ r, (V i).ownBlock = some r → (V j).ownBlock ≠ some r
theorem ownsRow_zero {w : World} {B e s : Nat} {v : Value} {n : Nat} {xs : List Value} (h : w.ownsRow B e s v n xs) : w.ownsRow 0 e s v n xs := by
  refine ⟨h.1, ?_⟩
  rcases h.2 with h | ⟨g, cap, cur, h1, _, h3⟩
  · exact Or.inl h
  · exact Or.inr ⟨g, cap, cur, h1, Nat.zero_le _, h3⟩
theorem RowsI.keep {P : Nat → Prop} {w w' : World} {row : Option Nat} {k : Nat} {V : Nat → Value} {X : Nat → List Int} (h : RowsI P w row k V X) (hk : ∀ i, i < k → w'.ownsRow 0 2 1 (V i) (X i).length ((X i).map (Value.int .i64))) : RowsI P w' row k V X :=
  ⟨fun i hi => ⟨hk i hi, (h.1 i hi).2⟩, h.2⟩
/-- A row whose block lies below M stays, whatever goes on from M on. -/
theorem ownsRow_under {w w' : World} {M B e s : Nat} {v : Value} {n : Nat} {xs : List Value} (h : w.ownsRow B e s v n xs) (hb : Below M w w') (hv : ∀ r, v.ownBlock = some r → r < M) : w'.ownsRow B e s v n xs := by
  refine ⟨h.1, ?_⟩
  rcases h.2 with h | ⟨g, cap, cur, h1, h2, h3, h4⟩
  · exact Or.inl h
  · subst h1
    exact Or.inr ⟨g, cap, cur, rfl, h2, (hb.block g (hv g rfl)).trans h3, h4⟩
end Go.Proofs.Ytkippafmeggjeaa
