/- For every list of bytes that can be handed in (shared memory allowed): 'FnGrows' returns true, and its argument reads as it did; the condition: the two package variables hold what the program's text lays (the card ties them to it). Made by program (genfnd.py). -/
import Derived.Test.YtncgpfapepminaaDoorG43
import Derived.Test.YtncgpfapepminaaDoorCards
import Derived.Test.YtncgpfapepminaaDoorTie
import Derived.SevenTiedAt
namespace Go.Proofs.YtncgpfapepminaaDoor
open Go

theorem fnGrows_holds : Rows.FnGrowsCardSaid :=
  Claim7.holds_tied_plain_at .later [] [.handle, .sentinel] true _ true
    fnGrows_row (fun _ h => by cases h) (by kernel_rfl) (fun _ h => by cases h) fnGrows_row_tie rfl ⟨rfl, rfl⟩ (by kernel_rfl) rfl
    (fun f fn hf hfn => by
      obtain rfl : f = 4 := Option.some.inj ((show Tryd.prog.funcNamed "loop.example/g00311/laws.FnGrows" = some 4 by kernel_rfl).symm.trans hf) |>.symm
      obtain rfl : fn = Tryd.f4 := (Option.some.inj (Tryd.func4.symm.trans hfn)).symm
      exact ⟨by kernel_rfl, fun j t ht => by
        rw [Tryd.params4] at ht
        rcases j with _ | j
        · obtain rfl : t = 22 := by simpa using ht.symm
          exact (show Tryd.prog.wantsStandIn 22 = false by kernel_rfl)
        · simp at ht⟩)
    (by kernel_rfl)
#print axioms fnGrows_holds
end Go.Proofs.YtncgpfapepminaaDoor
