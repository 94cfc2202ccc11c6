/- 'BlockAt' of the model, walked; and the laws' functions over a code with a list. -/
import Derived.Test.YtkdbkkhmaiomkaaBlockAt
import Derived.Test.YtkdbkkhmaiomkaaIv
namespace Go.Proofs.Ytkdbkkhmaiomkaa
open Go.RowKit
/-- What both functions answer: the list. -/
def blkOf (xss : List (List Int)) (ps : List (Int × List Int)) (at_ : Int) : List Int := if placeF xss ps at_ = 0 then blkTo xss ps at_ ps.length else []

theorem placeF_zero {xss : List (List Int)} {ps : List (Int × List Int)} {at_ : Int} (h : placeF xss ps at_ = 0) : diskF xss ps = 0 ∧ 0 ≤ at_ ∧ at_ < (xss.length : Int) := by
  unfold placeF at h
  split at h
  · rename_i h0
    split at h
    · rename_i h1; exact ⟨h0, h1⟩
    · cases h
  · rename_i h0; exact absurd h h0

theorem blkOf_len {xss : List (List Int)} {ps : List (Int × List Int)} {at_ : Int} (hs : Small xss ps) : (blkOf xss ps at_).length ≤ 1048576 := by
  unfold blkOf
  split
  · rename_i h
    obtain ⟨_, h1, h2⟩ := placeF_zero h
    exact blkTo_len hs _ (Nat.le_refl _) h1 h2
  · simp

end Go.Proofs.Ytkdbkkhmaiomkaa
