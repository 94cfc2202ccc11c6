/- Chapter 6, the model's side: 'l6Free', 'FreeLocks', walked. -/
import Derived.Test.YtkpkoapcmnapoabLkFree
namespace Go.Proofs.Ytkpkoapcmnapoab
open Go.RowKit Go.Maps

theorem frL_snoc (os : List Wn) (t : Int) (k : Nat) (h : k < os.length) : frL (os.take (k + 1)) t = frL (os.take k) t ++ if (os.getD k wn0).2 = t then [] else [os.getD k wn0] := by
  rw [take_snoc os k h]
  unfold frL
  rw [List.filter_append]
  generalize os.getD k wn0 = o
  by_cases e : o.2 = t
  · simp [e]
  · simp [e]

end Go.Proofs.Ytkpkoapcmnapoab
