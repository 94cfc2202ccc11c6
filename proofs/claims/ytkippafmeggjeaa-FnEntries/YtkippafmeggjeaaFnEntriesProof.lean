/- For every list of bytes that can be handed in (shared memory allowed): 'FnEntries' returns true, and its argument reads as it did; no condition. Made by program (genfn.py). -/
import Derived.Test.YtkippafmeggjeaaLawEntries
import Derived.Test.YtkippafmeggjeaaOpenB
namespace Go.Proofs.Ytkippafmeggjeaa
open Go.ChangeShapes Go.WideShapes Go.ChangeAt Go.RowKit

set_option maxRecDepth 4000 in
theorem fnEntries_big (ao : Option Addr) (n c : Nat) (w : World) (hb : 1048576 < n) (hn : n ≤ 9223372036854775807) :
    Calls Try.prog 3 #[.slice ao n c] w fun e w' => e = .returned (.bool true) ∧ Below w.heap.size w w' := by
  go_enter Try.func3, Try.ntmps3
  go_wp2_with fail
  refine (lwBig ao n c w hn).mono ?_
  rintro e wx ⟨he, hwx⟩
  rw [decide_eq_true hb] at he
  rw [he, hwx]
  clear he hwx
  go_wp2
  go_ret
  exact ⟨rfl, Below.refl _ _⟩

end Go.Proofs.Ytkippafmeggjeaa
