/- For every list of bytes that can be handed in (shared memory allowed): 'FnOps' returns true, and its argument reads as it did; the condition: the two package variables hold what the program's text lays (the card ties them to it). Made by program (genfnd.py). -/
import Derived.Test.YtlliggfggadidaaGreatDoorG40
import Derived.Test.YtlliggfggadidaaGreatDoorCards
import Derived.Test.YtlliggfggadidaaGreatDoorTie
import Derived.SevenTiedAt
namespace Go.Proofs.YtlliggfggadidaaGreatDoor
open Go

theorem fnOps_holds : Rows.FnOpsCardSaid :=
  Claim7.holds_tied_plain_at .later [] [.handle, .sentinel] true _ true
    fnOps_row (fun _ h => by cases h) (by kernel_rfl) (fun _ h => by cases h) fnOps_row_tie rfl ⟨rfl, rfl⟩ (by kernel_rfl) rfl
    (fun f fn hf hfn => by
      obtain rfl : f = 3 := Option.some.inj ((show Tryz.prog.funcNamed "loop.example/g00311/laws.FnOps" = some 3 by kernel_rfl).symm.trans hf) |>.symm
      obtain rfl : fn = Tryz.f3 := (Option.some.inj (Tryz.func3.symm.trans hfn)).symm
      exact ⟨by kernel_rfl, fun j t ht => by
        rw [Tryz.params3] at ht
        rcases j with _ | j
        · obtain rfl : t = 22 := by simpa using ht.symm
          exact (show Tryz.prog.wantsStandIn 22 = false by kernel_rfl)
        · simp at ht⟩)
    (by kernel_rfl)
#print axioms fnOps_holds
end Go.Proofs.YtlliggfggadidaaGreatDoor
