/- Chapter 6: copies of owners; the laws' helpers over a code with owners. -/
import Derived.Test.YtkpkoapcmnapoabLk
namespace Go.Proofs.Ytkpkoapcmnapoab
open Go.RowKit

/-- Cell t of the row of owners, j of which are copied. -/
def ownCell (os : List Wn) (j t : Nat) : Value :=
  if t / 2 < j then (if t % 2 = 0 then .int .i64 (os.getD (t / 2) wn0).1 else .int .i64 (os.getD (t / 2) wn0).2) else .int .i64 0
theorem ownCell_at (os : List Wn) (j i : Nat) (h : i < j) : ownCell os j (i * 2) = .int .i64 (os.getD i wn0).1 := by
  unfold ownCell
  rw [show i * 2 / 2 = i by omega, if_pos h, if_pos (by omega)]
theorem ownCell_txn (os : List Wn) (j i : Nat) (h : i < j) : ownCell os j (i * 2 + 1) = .int .i64 (os.getD i wn0).2 := by
  unfold ownCell
  rw [show (i * 2 + 1) / 2 = i by omega, if_pos h, if_neg (by omega)]

/-- What the loop that copies owners knows behind j of them. -/
structure ToAtO (os : List Wn) (w : World) (j : Nat) (wr : World) : Prop where
  below : Below w.heap.size w wr
  lt : w.heap.size < wr.heap.size
  row : wr.rowIs w.heap.size 40 (os.length * 2) (ownCell os j)
theorem ToAtO.step {os : List Wn} {w : World} {j : Nat} {wr w1 : World} (h : ToAtO os w j wr) (hb : Below wr.heap.size wr w1) :
    ToAtO os w (j + 1) ((w1.setCell ⟨w.heap.size, j * 2, none⟩ (.int .i64 (os.getD j wn0).1)).setCell ⟨w.heap.size, j * 2 + 1, none⟩ (.int .i64 (os.getD j wn0).2)) := by
  have hl := h.lt
  have hz := hb.size
  refine ⟨((below_on h.below hb).setCell (Nat.le_refl _) _).setCell (Nat.le_refl _) _, by simp; omega, ?_⟩
  refine (((h.row.of_block (hb.block _ hl)).set (j * 2) _).set (j * 2 + 1) _).congr fun i hi => ?_
  by_cases e : i = j * 2 + 1
  · subst e
    rw [if_pos rfl, ownCell_txn _ _ _ (by omega)]
  · rw [if_neg e]
    by_cases e1 : i = j * 2
    · subst e1
      rw [if_pos rfl, ownCell_at _ _ _ (by omega)]
    · rw [if_neg e1]
      unfold ownCell
      by_cases e2 : i / 2 < j
      · rw [if_pos e2, if_pos (show i / 2 < j + 1 by omega)]
      · rw [if_neg e2, if_neg (show ¬ i / 2 < j + 1 by omega)]
theorem made_owns (w : World) (os : List Wn) (n : Nat) (hn : os.length = n) (t : TypeId) : (w.alloc (.cells (madeCells #[.int .i64 0, .int .i64 0] (n * 2)) t)).rowIs w.heap.size t (os.length * 2) (ownCell os 0) := by
  subst hn
  refine ⟨_, Deep.blk_alloc_new _ _, size_madeCells _ _, fun i hi => ?_⟩
  unfold ownCell
  rw [if_neg (Nat.not_lt_zero _)]
  rcases Nat.mod_two_eq_zero_or_one i with e | e <;> simp [madeCells, hi, e]

/-- What a call that ends in a code and owners is to leave. -/
def EndsO (x : Int) (os : List Wn) (w : World) (e : Ending) (w' : World) : Prop :=
  ∃ z, e = .returned (.agg #[.int .i64 x, z]) ∧ Below w.heap.size w w' ∧ OwO w.heap.size w' z os

end Go.Proofs.Ytkpkoapcmnapoab
