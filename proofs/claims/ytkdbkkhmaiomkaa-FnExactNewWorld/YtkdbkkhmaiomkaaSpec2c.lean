/- Chapter 2, the model's side: 'spec.l2Same', 'spec.l2Unpack', 'spec.UnpackHeader', walked. -/
import Derived.Test.YtkdbkkhmaiomkaaSpec2b
import Derived.Test.YtkdbkkhmaiomkaaZero
import Derived.Deep.CutRange
namespace Go.Proofs.Ytkdbkkhmaiomkaa
open Go.RowKit

theorem list_ne_of_at {xs ys : List Int} {i : Nat} (h : xs.getD i 0 ≠ ys.getD i 0) : xs ≠ ys := fun e => h (by rw [e])
theorem list_eq_of_at {xs ys : List Int} (hl : xs.length = ys.length) (h : ∀ i, i < xs.length → xs.getD i 0 = ys.getD i 0) : xs = ys := by
  refine List.ext_getElem hl fun i h1 h2 => ?_
  have := h i h1
  simpa [List.getD, h1, h2] using this

theorem RdI.sub {S : Nat → Prop} {w : World} {b off n cap : Nat} {xs : List Int} (h : RdI S w (.slice (some ⟨b, off, none⟩) n cap) xs) (i k cap' : Nat) (hik : i + k ≤ xs.length) (hc : k ≤ cap') : RdI S w (.slice (some ⟨b, off + i, none⟩) k cap') ((xs.drop i).take k) := by
  obtain ⟨ao, c, e1, e2, e3⟩ := h
  have hl : ((xs.drop i).take k).length = k := by simp; omega
  refine ⟨some ⟨b, off + i, none⟩, cap' - k, by rw [hl, Nat.add_sub_cancel' hc], by rw [hl]; omega, fun hne => ?_⟩
  obtain ⟨b', off', f1, f2, f3⟩ := e3 (by rintro rfl; simp at hne)
  injection e1 with e1 _ _
  rw [f1] at e1
  injection e1 with e1
  injection e1 with e1 e4
  subst e1
  subst e4
  refine ⟨b, off + i, rfl, f2, fun j hj => ?_⟩
  rw [hl] at hj
  rw [Nat.add_assoc, f3 (i + j) (by omega)]
  simp [List.getD, List.getElem?_drop, hj]

theorem set3_far {w : World} {b h o : Nat} {x y z : Value} (hb : b ≠ h) : (((w.setCell ⟨h, 0, none⟩ x).setCell ⟨h, 1, none⟩ y).setCell ⟨h, 2, none⟩ z).cell? ⟨b, o, none⟩ = w.cell? ⟨b, o, none⟩ := by
  rw [World.cell?_setCell_other _ _ _ _ (by intro e; injection e with e1 _; exact hb e1.symm), World.cell?_setCell_other _ _ _ _ (by intro e; injection e with e1 _; exact hb e1.symm), World.cell?_setCell_other _ _ _ _ (by intro e; injection e with e1 _; exact hb e1.symm)]

/-- The addresses that words tell of. -/
def addrsOf (ws : List Int) : List Int := (ws.drop 3).take (ws.getD 2 0).toNat
/-- Are these the words of a header? -/
def okU (ws : List Int) : Prop := ws.length = 64 ∧ ws.getD 2 0 ≤ 24 ∧ headF (ws.getD 0 0) (ws.getD 1 0) (addrsOf ws) = 0 ∧ packL (ws.getD 0 0) (ws.getD 1 0) (addrsOf ws) = ws

end Go.Proofs.Ytkdbkkhmaiomkaa
