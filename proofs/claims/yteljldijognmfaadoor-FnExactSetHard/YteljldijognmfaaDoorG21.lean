/- Built2 Ret Built3 in one text: what each says stands at its head below. -/
import Derived.Test.YteljldijognmfaaDoorG13
/- Puts that are built by append, one a round. -/
namespace Go.Proofs.YteljldijognmfaaDoor
open Go.RowKit

/-- The cells of k puts. -/
def cellsP (ps : List (Int × List Int)) (k : Nat) (V : Nat → Value) : List Value :=
  (List.range (k * 2)).map fun t => if t % 2 = 0 then .int .i64 (ps.getD (t / 2) (0, [])).1 else V (t / 2)
theorem cellsP_len (ps : List (Int × List Int)) (k : Nat) (V : Nat → Value) : (cellsP ps k V).length = k * 2 := by simp [cellsP]
theorem cellsP_num (ps : List (Int × List Int)) (k : Nat) (V : Nat → Value) (i : Nat) (h : i < k) : (cellsP ps k V)[i * 2]? = some (.int .i64 (ps.getD i (0, [])).1) := by
  unfold cellsP
  rw [List.getElem?_map, List.getElem?_range (by omega)]
  simp only [Option.map_some]
  rw [if_pos (by omega), show i * 2 / 2 = i by omega]
theorem cellsP_words (ps : List (Int × List Int)) (k : Nat) (V : Nat → Value) (i : Nat) (h : i < k) : (cellsP ps k V)[i * 2 + 1]? = some (V i) := by
  unfold cellsP
  rw [List.getElem?_map, List.getElem?_range (by omega)]
  simp only [Option.map_some]
  rw [if_neg (by omega), show (i * 2 + 1) / 2 = i by omega]
theorem cellsP_succ (ps : List (Int × List Int)) (k : Nat) (V : Nat → Value) (z : Value) : cellsP ps (k + 1) (fun i => if i = k then z else V i) = cellsP ps k V ++ [.int .i64 (ps.getD k (0, [])).1, z] := by
  unfold cellsP
  rw [show (k + 1) * 2 = k * 2 + 1 + 1 by omega, List.range_succ, List.range_succ]
  simp only [List.map_append, List.append_assoc, List.map_cons, List.map_nil, List.singleton_append]
  congr 1
  · refine List.map_congr_left fun i hi => ?_
    have := List.mem_range.1 hi
    by_cases e : i % 2 = 0
    · rw [if_pos e, if_pos e]
    · rw [if_neg e, if_neg e, if_neg (by omega)]
  · rw [if_pos (by omega), if_neg (by omega), show k * 2 / 2 = k by omega, show (k * 2 + 1) / 2 = k by omega, if_pos rfl]

theorem cells2_one {x : Int} {ao : Option Addr} {n c : Nat} : ∀ u ∈ ([.int .i64 x, .slice ao n c] : List Value), u.oneCell' = true := by
  intro u hu
  simp at hu
  rcases hu with rfl | rfl <;> rfl
end Go.Proofs.YteljldijognmfaaDoor
/- The ends of functions that store a code and what goes with it into their result's variable. -/
namespace Go.Proofs.YteljldijognmfaaDoor
open Go.RowKit

/-- The end of a function that stores a code and a list into its result's variable. -/
theorem ret_ints {w w3 : World} {B r : Nat} {z : Value} {xs : List Int} {x : Value} (hb : Below w.heap.size w w3) (hr : w.heap.size ≤ r) (ho : OwI B w3 z xs) (hB : r < B) :
    Below w.heap.size w ((w3.setCell ⟨r, 0, none⟩ x).setCell ⟨r, 1, none⟩ z) ∧ OwI w.heap.size ((w3.setCell ⟨r, 0, none⟩ x).setCell ⟨r, 1, none⟩ z) z xs := by
  have hw : Wr (fun y => y = r) w3 ((w3.setCell ⟨r, 0, none⟩ x).setCell ⟨r, 1, none⟩ z) := ((Wr.refl (fun y => y = r) _).setCell (p := ⟨r, 0, none⟩) rfl _).setCell (p := ⟨r, 1, none⟩) rfl _
  exact ⟨(hb.setCell (p := ⟨r, 0, none⟩) hr _).setCell (p := ⟨r, 1, none⟩) hr _, (ho.wr hw (fun b h1 _ e => by omega)).mono (by omega)⟩

theorem OwD_nil (B : Nat) (w : World) : OwD B w (.slice none 0 0) (.slice none 0 0) [] [] :=
  ⟨fun _ => False, fun _ => False, fun _ h => absurd h id, fun _ h => absurd h id, fun _ h => absurd h id, OwII_nil _ _, OwP_nil _ _⟩

/-- The end of a function that stores a code and a disk into its result's variable. -/
theorem ret_disk {w w3 : World} {B r : Nat} {u v x : Value} {xss : List (List Int)} {ps : List (Int × List Int)} (hb : Below w.heap.size w w3) (hr : w.heap.size ≤ r) (ho : OwD B w3 u v xss ps) (hB : r < B) :
    Below w.heap.size w (((w3.setCell ⟨r, 0, none⟩ x).setCell ⟨r, 1, none⟩ u).setCell ⟨r, 2, none⟩ v) ∧ OwD w.heap.size (((w3.setCell ⟨r, 0, none⟩ x).setCell ⟨r, 1, none⟩ u).setCell ⟨r, 2, none⟩ v) u v xss ps := by
  have hw : Wr (fun y => y = r) w3 (((w3.setCell ⟨r, 0, none⟩ x).setCell ⟨r, 1, none⟩ u).setCell ⟨r, 2, none⟩ v) := (((Wr.refl (fun y => y = r) _).setCell (p := ⟨r, 0, none⟩) rfl _).setCell (p := ⟨r, 1, none⟩) rfl _).setCell (p := ⟨r, 2, none⟩) rfl _
  refine ⟨((hb.setCell (p := ⟨r, 0, none⟩) hr _).setCell (p := ⟨r, 1, none⟩) hr _).setCell (p := ⟨r, 2, none⟩) hr _, ?_⟩
  obtain ⟨S, T, h1, h2, h3, h4, h5⟩ := ho
  exact ⟨S, T, fun b hb => by have := h1 b hb; simp; omega, fun b hb => by have := h2 b hb; simp; omega, h3, h4.wr hw fun b hb e => by have := h1 b hb; omega, h5.wr hw fun b hb e => by have := h2 b hb; omega⟩
end Go.Proofs.YteljldijognmfaaDoor
/- 'spec.l1Puts' and 'spec.l1Copy', walked. -/
namespace Go.Proofs.YteljldijognmfaaDoor
open Go.RowKit
end Go.Proofs.YteljldijognmfaaDoor
