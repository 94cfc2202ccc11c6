/- For every input (a store, a number, a number, a list of numbers) that can be handed in (shared memory allowed): 'FnExactInstallRaft' returns true, and its arguments read as they did; the condition: the two package variables hold what the program's text lays (the card ties them to it). -/
import Derived.Test.YthemdmefdelmoaaDoorG46
import Derived.Test.YthemdmefdelmoaaDoorCards
import Derived.Test.YthemdmefdelmoaaDoorTie
import Derived.SevenTiedAt
namespace Go.Proofs.YthemdmefdelmoaaDoor
open Go

theorem fnExactInstallRaft_holds : Rows.FnExactInstallRaftCardSaid :=
  Claim7.holds_tied_plain_at .later [] [.handle, .sentinel] true _ true
    fnExactInstallRaft_row (fun _ h => by cases h) (by kernel_rfl) (fun _ h => by cases h) fnExactInstallRaft_row_tie rfl ⟨rfl, rfl⟩ (by kernel_rfl) rfl
    (fun f fn hf hfn => by
      obtain rfl : f = 4 := Option.some.inj ((show Tryd.prog.funcNamed "loop.example/g00311/laws.FnExactInstallRaft" = some 4 by kernel_rfl).symm.trans hf) |>.symm
      obtain rfl : fn = Tryd.f4 := (Option.some.inj (Tryd.func4.symm.trans hfn)).symm
      exact ⟨by kernel_rfl, fun j t ht => by
        rw [Tryd.params4] at ht
        rcases j with _ | _ | _ | _ | j
        · obtain rfl : t = 25 := by simpa using ht.symm
          exact (show Tryd.prog.wantsStandIn 25 = false by kernel_rfl)
        · obtain rfl : t = 2 := by simpa using ht.symm
          exact (show Tryd.prog.wantsStandIn 2 = false by kernel_rfl)
        · obtain rfl : t = 2 := by simpa using ht.symm
          exact (show Tryd.prog.wantsStandIn 2 = false by kernel_rfl)
        · obtain rfl : t = 22 := by simpa using ht.symm
          exact (show Tryd.prog.wantsStandIn 22 = false by kernel_rfl)
        · simp at ht⟩)
    (by kernel_rfl)
#print axioms fnExactInstallRaft_holds
end Go.Proofs.YthemdmefdelmoaaDoor
