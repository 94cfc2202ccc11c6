/- Chapter 2, the model's side: 'spec.HeaderIn', walked. -/
import Derived.Test.YtkdbkkhmaiomkaaSpec2f
namespace Go.Proofs.Ytkdbkkhmaiomkaa
open Go.RowKit

/-- The words of the k-th block. -/
def wsAt (xss : List (List Int)) (ps : List (Int × List Int)) (k : Int) : List Int := blkTo xss ps k ps.length
/-- Which of the two headers counts. -/
def inP (xss : List (List Int)) (ps : List (Int × List Int)) : Nat :=
  nwP (sideF (wsAt xss ps 0) 0) (sideS (wsAt xss ps 0) 0) (sideT (wsAt xss ps 0) 0) (sideA (wsAt xss ps 0) 0) (sideF (wsAt xss ps 1) 1) (sideS (wsAt xss ps 1) 1) (sideT (wsAt xss ps 1) 1) (sideA (wsAt xss ps 1) 1)
def inF (xss : List (List Int)) (ps : List (Int × List Int)) : Int := if diskF xss ps = 0 then (if xss.length = 66 then nwF (inP xss ps) else 1) else diskF xss ps
def inS (xss : List (List Int)) (ps : List (Int × List Int)) : Int := if diskF xss ps = 0 ∧ xss.length = 66 then nwI (inP xss ps) (sideS (wsAt xss ps 0) 0) (sideS (wsAt xss ps 1) 1) else 0
def inT (xss : List (List Int)) (ps : List (Int × List Int)) : Int := if diskF xss ps = 0 ∧ xss.length = 66 then nwI (inP xss ps) (sideT (wsAt xss ps 0) 0) (sideT (wsAt xss ps 1) 1) else 0
def inA (xss : List (List Int)) (ps : List (Int × List Int)) : List Int := if diskF xss ps = 0 ∧ xss.length = 66 then nwA (inP xss ps) (sideA (wsAt xss ps 0) 0) (sideA (wsAt xss ps 1) 1) else []

end Go.Proofs.Ytkdbkkhmaiomkaa
