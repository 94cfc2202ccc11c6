/- The ends of functions that store a code and what goes with it into their result's variable. -/
import Derived.Test.YtiommfabhchgdaaBuilt2
namespace Go.Proofs.Ytiommfabhchgdaa
open Go.RowKit

/-- The end of a function that stores a code and a list into its result's variable. -/
theorem ret_ints {w w3 : World} {B r : Nat} {z : Value} {xs : List Int} {x : Value} (hb : Below w.heap.size w w3) (hr : w.heap.size ≤ r) (ho : OwI B w3 z xs) (hB : r < B) :
    Below w.heap.size w ((w3.setCell ⟨r, 0, none⟩ x).setCell ⟨r, 1, none⟩ z) ∧ OwI w.heap.size ((w3.setCell ⟨r, 0, none⟩ x).setCell ⟨r, 1, none⟩ z) z xs := by
  have hw : Wr (fun y => y = r) w3 ((w3.setCell ⟨r, 0, none⟩ x).setCell ⟨r, 1, none⟩ z) := ((Wr.refl (fun y => y = r) _).setCell (p := ⟨r, 0, none⟩) rfl _).setCell (p := ⟨r, 1, none⟩) rfl _
  exact ⟨(hb.setCell (p := ⟨r, 0, none⟩) hr _).setCell (p := ⟨r, 1, none⟩) hr _, (ho.wr hw (fun b h1 _ e => by omega)).mono (by omega)⟩

theorem OwD_nil (B : Nat) (w : World) : OwD B w (.slice none 0 0) (.slice none 0 0) [] [] :=
  ⟨fun _ => False, fun _ => False, fun _ h => absurd h id, fun _ h => absurd h id, fun _ h => absurd h id, OwII_nil _ _, OwP_nil _ _⟩

theorem BuiltP.snoc {P : Nat → Prop} {w : World} {v : Value} {ps : List (Int × List Int)} (h : BuiltP P w v ps.length ps) (p : Int × List Int) : BuiltP P w v ps.length (ps ++ [p]) := by
  obtain ⟨V, Bk, h1, hpr, h2, h3⟩ := h
  have e : ∀ i, i < ps.length → (ps ++ [p]).getD i (0, []) = ps.getD i (0, []) := fun i hi => by simp [List.getD, List.getElem?_append_left hi]
  refine ⟨V, Bk, ?_, hpr, fun i hi => by rw [e i hi]; exact h2 i hi, fun i hi hn => ?_⟩
  · have : cellsP (ps ++ [p]) ps.length V = cellsP ps ps.length V := by
      unfold cellsP
      refine List.map_congr_left fun t ht => ?_
      have := List.mem_range.1 ht
      rw [e (t / 2) (by omega)]
    rw [this]; exact h1
  · rw [e i hi] at hn
    obtain ⟨k1, k2, k3, k4, k5⟩ := h3 i hi hn
    exact ⟨k1, k2, k3, k4, fun j hj hj' ej => k5 j hj (by rw [e j hj] at hj'; exact hj') ej⟩

/-- The end of a function that stores a code and a disk into its result's variable. -/
theorem ret_disk {w w3 : World} {B r : Nat} {u v x : Value} {xss : List (List Int)} {ps : List (Int × List Int)} (hb : Below w.heap.size w w3) (hr : w.heap.size ≤ r) (ho : OwD B w3 u v xss ps) (hB : r < B) :
    Below w.heap.size w (((w3.setCell ⟨r, 0, none⟩ x).setCell ⟨r, 1, none⟩ u).setCell ⟨r, 2, none⟩ v) ∧ OwD w.heap.size (((w3.setCell ⟨r, 0, none⟩ x).setCell ⟨r, 1, none⟩ u).setCell ⟨r, 2, none⟩ v) u v xss ps := by
  have hw : Wr (fun y => y = r) w3 (((w3.setCell ⟨r, 0, none⟩ x).setCell ⟨r, 1, none⟩ u).setCell ⟨r, 2, none⟩ v) := (((Wr.refl (fun y => y = r) _).setCell (p := ⟨r, 0, none⟩) rfl _).setCell (p := ⟨r, 1, none⟩) rfl _).setCell (p := ⟨r, 2, none⟩) rfl _
  refine ⟨((hb.setCell (p := ⟨r, 0, none⟩) hr _).setCell (p := ⟨r, 1, none⟩) hr _).setCell (p := ⟨r, 2, none⟩) hr _, ?_⟩
  obtain ⟨S, T, h1, h2, h3, h4, h5⟩ := ho
  exact ⟨S, T, fun b hb => by have := h1 b hb; simp; omega, fun b hb => by have := h2 b hb; simp; omega, h3, h4.wr hw fun b hb e => by have := h1 b hb; omega, h5.wr hw fun b hb e => by have := h2 b hb; omega⟩
end Go.Proofs.Ytiommfabhchgdaa
