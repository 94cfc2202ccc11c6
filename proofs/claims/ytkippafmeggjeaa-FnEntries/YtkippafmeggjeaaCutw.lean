/- Parts of a reading. -/
import Derived.Test.YtkippafmeggjeaaBase
namespace Go.Proofs.Ytkippafmeggjeaa
open Go.RowKit

/-- A part of a reading, from the i-th on. -/
def slA (ao : Option Addr) (c i : Nat) : Option Addr := if c = i then ao else ao.map (fun x => x.add i)
theorem RdI.from {S : Nat → Prop} {w : World} {ao : Option Addr} {n c : Nat} {xs : List Int} (h : RdI S w (.slice ao n c) xs) (i : Nat) (hi : i ≤ n) : RdI S w (.slice (slA ao c i) (n - i) (c - i)) (xs.drop i) := by
  obtain ⟨ao', c', e1, e2, e3⟩ := h
  injection e1 with e1 e4 e5
  subst e1 e4
  have hl : (xs.drop i).length = xs.length - i := by simp
  refine ⟨slA ao c i, c', by rw [hl]; congr 1; omega, by rw [hl]; omega, fun hne => ?_⟩
  have hlt : i < xs.length := by
    have := List.length_pos_iff.2 hne
    rw [hl] at this; omega
  obtain ⟨b, off, f1, f2, f3⟩ := e3 (by rintro rfl; simp at hlt)
  refine ⟨b, off + i, ?_, f2, fun j hj => ?_⟩
  · unfold slA
    rw [if_neg (by omega), f1]
    simp [Addr.add_lit]
  · rw [hl] at hj
    rw [Nat.add_assoc, f3 (i + j) (by omega)]
    congr 2
    simp [List.getD, List.getElem?_drop]
theorem RdI.upto {S : Nat → Prop} {w : World} {ao : Option Addr} {n c : Nat} {xs : List Int} (h : RdI S w (.slice ao n c) xs) (m : Nat) (hm : m ≤ n) : RdI S w (.slice ao m c) (xs.take m) := by
  obtain ⟨ao', c', e1, e2, e3⟩ := h
  injection e1 with e1 e4 e5
  subst e1 e4
  have hl : (xs.take m).length = m := by simp; omega
  refine ⟨ao, c' + (xs.length - m), by rw [hl]; congr 1; omega, by rw [hl]; omega, fun hne => ?_⟩
  obtain ⟨b, off, f1, f2, f3⟩ := e3 (by rintro rfl; simp at hne)
  refine ⟨b, off, f1, f2, fun j hj => ?_⟩
  rw [hl] at hj
  rw [f3 j (by omega)]
  congr 2
  simp [List.getD, hj]
end Go.Proofs.Ytkippafmeggjeaa
