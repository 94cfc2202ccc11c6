/- For every input (a store, a list of threads, a list of what was done) that can be handed in (shared memory allowed): 'FnExactReplayHistory' returns true, and its arguments read as they did; the condition: the two package variables hold what the program's text lays (the card ties them to it). -/
import Derived.Test.YtcmdgnemkjfckaaGreatDoorG41
import Derived.Test.YtcmdgnemkjfckaaGreatDoorCards
import Derived.Test.YtcmdgnemkjfckaaGreatDoorTie
import Derived.SevenTiedAt
namespace Go.Proofs.YtcmdgnemkjfckaaGreatDoor
open Go

theorem fnExactReplayHistory_holds : Rows.FnExactReplayHistoryCardSaid :=
  Claim7.holds_tied_plain_at .later [] [.handle, .sentinel] true _ true
    fnExactReplayHistory_row (fun _ h => by cases h) (by kernel_rfl) (fun _ h => by cases h) fnExactReplayHistory_row_tie rfl ⟨rfl, rfl⟩ (by kernel_rfl) rfl
    (fun f fn hf hfn => by
      obtain rfl : f = 3 := Option.some.inj ((show Tryz.prog.funcNamed "loop.example/g00311/laws.FnExactReplayHistory" = some 3 by kernel_rfl).symm.trans hf) |>.symm
      obtain rfl : fn = Tryz.f3 := (Option.some.inj (Tryz.func3.symm.trans hfn)).symm
      exact ⟨by kernel_rfl, fun j t ht => by
        rw [Tryz.params3] at ht
        rcases j with _ | _ | _ | j
        · obtain rfl : t = 25 := by simpa using ht.symm
          exact (show Tryz.prog.wantsStandIn 25 = false by kernel_rfl)
        · obtain rfl : t = 26 := by simpa using ht.symm
          exact (show Tryz.prog.wantsStandIn 26 = false by kernel_rfl)
        · obtain rfl : t = 27 := by simpa using ht.symm
          exact (show Tryz.prog.wantsStandIn 27 = false by kernel_rfl)
        · simp at ht⟩)
    (by kernel_rfl)
#print axioms fnExactReplayHistory_holds
end Go.Proofs.YtcmdgnemkjfckaaGreatDoor
