/- Chapter 5: the fault of an object, of the program and of the model, walked. -/
import Derived.Test.YtiommfabhchgdaaImpl2
import Derived.Test.YtiommfabhchgdaaFault
import Derived.Test.YtiommfabhchgdaaIv
namespace Go.Proofs.Ytiommfabhchgdaa
open Go.RowKit

/-- The fault of an object. -/
def objF (a f : Int) (xs : List Int) : Int :=
  if 0 ≤ a ∧ a ≤ 39 ∧ 0 ≤ f ∧ f ≤ 63 then (if xs.length < 1 ∨ 16 < xs.length ∨ 64 < f + (xs.length : Int) then 2 else wordsF xs) else 3
theorem objF_range {a f : Int} {xs : List Int} (h : ¬ (0 ≤ a ∧ a ≤ 39 ∧ 0 ≤ f ∧ f ≤ 63)) : objF a f xs = 3 := by unfold objF; rw [if_neg h]
theorem objF_many {a f : Int} {xs : List Int} (h : 0 ≤ a ∧ a ≤ 39 ∧ 0 ≤ f ∧ f ≤ 63) (h2 : xs.length < 1 ∨ 16 < xs.length ∨ 64 < f + (xs.length : Int)) : objF a f xs = 2 := by unfold objF; rw [if_pos h, if_pos h2]
theorem objF_words {a f : Int} {xs : List Int} (h : 0 ≤ a ∧ a ≤ 39 ∧ 0 ≤ f ∧ f ≤ 63) (h2 : ¬ (xs.length < 1 ∨ 16 < xs.length ∨ 64 < f + (xs.length : Int))) : objF a f xs = wordsF xs := by unfold objF; rw [if_pos h, if_neg h2]
theorem objF_zero {a f : Int} {xs : List Int} (h : objF a f xs = 0) : (0 ≤ a ∧ a ≤ 39 ∧ 0 ≤ f ∧ f ≤ 63) ∧ ¬ (xs.length < 1 ∨ 16 < xs.length ∨ 64 < f + (xs.length : Int)) ∧ wordsF xs = 0 := by
  unfold objF at h
  split at h
  · rename_i h1
    split at h
    · exact absurd h (by decide)
    · rename_i h2
      exact ⟨h1, h2, h⟩
  · exact absurd h (by decide)

end Go.Proofs.Ytiommfabhchgdaa
