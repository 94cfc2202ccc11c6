/- 'BlockAt' of the program and of the model, walked. -/
import Derived.Test.YtkdbkkhmaiomkaaSmall
import Derived.Test.YtkdbkkhmaiomkaaFault3
import Derived.Test.YtkdbkkhmaiomkaaCopy
import Derived.Test.YtkdbkkhmaiomkaaRet
namespace Go.Proofs.Ytkdbkkhmaiomkaa
open Go.RowKit

/-- The fault of a place on a disk. -/
def placeF (xss : List (List Int)) (ps : List (Int × List Int)) (at_ : Int) : Int :=
  if diskF xss ps = 0 then (if 0 ≤ at_ ∧ at_ < (xss.length : Int) then 0 else 3) else diskF xss ps
theorem placeF_disk {xss : List (List Int)} {ps : List (Int × List Int)} {at_ : Int} (h : diskF xss ps ≠ 0) : placeF xss ps at_ = diskF xss ps := by unfold placeF; rw [if_neg h]
theorem placeF_ok {xss : List (List Int)} {ps : List (Int × List Int)} {at_ : Int} (h : diskF xss ps = 0) (h' : 0 ≤ at_ ∧ at_ < (xss.length : Int)) : placeF xss ps at_ = 0 := by unfold placeF; rw [if_pos h, if_pos h']
theorem placeF_no {xss : List (List Int)} {ps : List (Int × List Int)} {at_ : Int} (h : diskF xss ps = 0) (h' : ¬ (0 ≤ at_ ∧ at_ < (xss.length : Int))) : placeF xss ps at_ = 3 := by unfold placeF; rw [if_pos h, if_neg h']

/-- What was put last at a place, of the first k puts. -/
def blkTo (xss : List (List Int)) (ps : List (Int × List Int)) (at_ : Int) : Nat → List Int
  | 0 => xss.getD at_.toNat []
  | k + 1 => if (ps.getD k (0, [])).1 = at_ then (ps.getD k (0, [])).2 else blkTo xss ps at_ k

theorem blkTo_len {xss : List (List Int)} {ps : List (Int × List Int)} (hs : Small xss ps) {at_ : Int} : ∀ k, k ≤ ps.length → 0 ≤ at_ → at_ < (xss.length : Int) → (blkTo xss ps at_ k).length ≤ 1048576 := by
  intro k
  induction k with
  | zero => intro _ h1 h2; exact hs.row _ (by omega)
  | succ k ih =>
    intro hk h1 h2
    unfold blkTo
    split
    · exact hs.put k (by omega)
    · exact ih (by omega) h1 h2

end Go.Proofs.Ytkdbkkhmaiomkaa
