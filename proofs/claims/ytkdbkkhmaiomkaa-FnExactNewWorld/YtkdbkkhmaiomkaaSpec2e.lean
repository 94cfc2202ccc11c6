/- Chapter 2, the model's side: 'spec.l2Right', 'spec.l2Copy', 'spec.NewestOf', walked. Made by program in part. -/
import Derived.Test.YtkdbkkhmaiomkaaSpec2d
namespace Go.Proofs.Ytkdbkkhmaiomkaa
open Go.RowKit

/-- Is a header there, without a fault? -/
def rightB (c s t : Int) (xs : List Int) : Bool := decide (c = 0) && decide (headF s t xs = 0)

/-- Which of two results is taken: the first, the second, none. -/
def nwP (ca sa ta : Int) (xa : List Int) (cb sb tb : Int) (xb : List Int) : Nat :=
  if rightB ca sa ta xa = true ∧ (rightB cb sb tb xb = false ∨ sb ≤ sa) then 1 else if rightB cb sb tb xb = true then 2 else 0
def nwF (k : Nat) : Int := if k = 0 then 4 else 0
def nwI (k : Nat) (a b : Int) : Int := if k = 1 then a else if k = 2 then b else 0
def nwA (k : Nat) (xa xb : List Int) : List Int := if k = 1 then xa else if k = 2 then xb else []

end Go.Proofs.Ytkdbkkhmaiomkaa
