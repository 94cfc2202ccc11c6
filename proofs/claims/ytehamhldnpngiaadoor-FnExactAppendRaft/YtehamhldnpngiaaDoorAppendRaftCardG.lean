/- For every input (a store, a number, a number, a list of entries) that can be handed in (shared memory allowed): 'FnExactAppendRaft' returns true, and its arguments read as they did; the condition: the two package variables hold what the program's text lays (the card ties them to it). -/
import Derived.Test.YtehamhldnpngiaaDoorG47
import Derived.Test.YtehamhldnpngiaaDoorCards
import Derived.Test.YtehamhldnpngiaaDoorTie
import Derived.SevenTiedAt
namespace Go.Proofs.YtehamhldnpngiaaDoor
open Go

theorem fnExactAppendRaft_holds : Rows.FnExactAppendRaftCardSaid :=
  Claim7.holds_tied_plain_at .later [] [.handle, .sentinel] true _ true
    fnExactAppendRaft_row (fun _ h => by cases h) (by kernel_rfl) (fun _ h => by cases h) fnExactAppendRaft_row_tie rfl ⟨rfl, rfl⟩ (by kernel_rfl) rfl
    (fun f fn hf hfn => by
      obtain rfl : f = 3 := Option.some.inj ((show Tryd.prog.funcNamed "loop.example/g00311/laws.FnExactAppendRaft" = some 3 by kernel_rfl).symm.trans hf) |>.symm
      obtain rfl : fn = Tryd.f3 := (Option.some.inj (Tryd.func3.symm.trans hfn)).symm
      exact ⟨by kernel_rfl, fun j t ht => by
        rw [Tryd.params3] at ht
        rcases j with _ | _ | _ | _ | j
        · obtain rfl : t = 25 := by simpa using ht.symm
          exact (show Tryd.prog.wantsStandIn 25 = false by kernel_rfl)
        · obtain rfl : t = 2 := by simpa using ht.symm
          exact (show Tryd.prog.wantsStandIn 2 = false by kernel_rfl)
        · obtain rfl : t = 2 := by simpa using ht.symm
          exact (show Tryd.prog.wantsStandIn 2 = false by kernel_rfl)
        · obtain rfl : t = 23 := by simpa using ht.symm
          exact (show Tryd.prog.wantsStandIn 23 = false by kernel_rfl)
        · simp at ht⟩)
    (by kernel_rfl)
#print axioms fnExactAppendRaft_holds
end Go.Proofs.YtehamhldnpngiaaDoor
