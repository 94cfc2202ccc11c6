/- Cfr in one text: what each says stands at its head below. -/
import Derived.Test.YtcbapclpopbjbaaDoorG01
/- The first code among questions that are asked one behind the other. -/
namespace Go.Proofs.YtcbapclpopbjbaaDoor

/-- The first code of n questions, from the k-th on. -/
def cfr (g : Nat → Int) : Nat → Nat → Int
  | 0, _ => 0
  | n + 1, k => if g k = 0 then cfr g n (k + 1) else g k
theorem cfr_ok {g : Nat → Int} {m j : Nat} (hj : j < m) (h : g j = 0) : cfr g (m - j) j = cfr g (m - (j + 1)) (j + 1) := by
  rw [show m - j = (m - (j + 1)) + 1 by omega, cfr, if_pos h]
theorem cfr_no {g : Nat → Int} {m j : Nat} (hj : j < m) (h : g j ≠ 0) : cfr g (m - j) j = g j := by
  rw [show m - j = (m - (j + 1)) + 1 by omega, cfr, if_neg h]
theorem cfr_end {g : Nat → Int} {m j : Nat} (hj : ¬ j < m) : cfr g (m - j) j = 0 := by
  rw [show m - j = 0 by omega, cfr]
theorem cfr_all {g : Nat → Int} : ∀ (n k : Nat), cfr g n k = 0 ↔ ∀ i, k ≤ i → i < k + n → g i = 0
  | 0, k => ⟨fun _ i h1 h2 => by omega, fun _ => rfl⟩
  | n + 1, k => by
    rw [cfr]
    by_cases hs : g k = 0
    · rw [if_pos hs, cfr_all n (k + 1)]
      constructor
      · intro h i h1 h2
        by_cases e : i = k
        · rw [e]; exact hs
        · exact h i (by omega) (by omega)
      · intro h i h1 h2
        exact h i (by omega) (by omega)
    · rw [if_neg hs]
      exact ⟨fun h => absurd h hs, fun h => h k (Nat.le_refl _) (by omega)⟩
end Go.Proofs.YtcbapclpopbjbaaDoor
