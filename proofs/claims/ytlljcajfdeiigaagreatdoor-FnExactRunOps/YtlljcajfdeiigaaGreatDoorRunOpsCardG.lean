/- For every input (a store, a list of operations) that can be handed in (shared memory allowed): 'FnExactRunOps' returns true, and its arguments read as they did; the condition: the two package variables hold what the program's text lays (the card ties them to it). -/
import Derived.Test.YtlljcajfdeiigaaGreatDoorG36
import Derived.Test.YtlljcajfdeiigaaGreatDoorCards
import Derived.Test.YtlljcajfdeiigaaGreatDoorTie
import Derived.SevenTiedAt
namespace Go.Proofs.YtlljcajfdeiigaaGreatDoor
open Go

theorem fnExactRunOps_holds : Rows.FnExactRunOpsCardSaid :=
  Claim7.holds_tied_plain_at .later [] [.handle, .sentinel] true _ true
    fnExactRunOps_row (fun _ h => by cases h) (by kernel_rfl) (fun _ h => by cases h) fnExactRunOps_row_tie rfl ⟨rfl, rfl⟩ (by kernel_rfl) rfl
    (fun f fn hf hfn => by
      obtain rfl : f = 4 := Option.some.inj ((show Tryz.prog.funcNamed "loop.example/g00311/laws.FnExactRunOps" = some 4 by kernel_rfl).symm.trans hf) |>.symm
      obtain rfl : fn = Tryz.f4 := (Option.some.inj (Tryz.func4.symm.trans hfn)).symm
      exact ⟨by kernel_rfl, fun j t ht => by
        rw [Tryz.params4] at ht
        rcases j with _ | _ | j
        · obtain rfl : t = 25 := by simpa using ht.symm
          exact (show Tryz.prog.wantsStandIn 25 = false by kernel_rfl)
        · obtain rfl : t = 47 := by simpa using ht.symm
          exact (show Tryz.prog.wantsStandIn 47 = false by kernel_rfl)
        · simp at ht⟩)
    (by kernel_rfl)
#print axioms fnExactRunOps_holds
end Go.Proofs.YtlljcajfdeiigaaGreatDoor
