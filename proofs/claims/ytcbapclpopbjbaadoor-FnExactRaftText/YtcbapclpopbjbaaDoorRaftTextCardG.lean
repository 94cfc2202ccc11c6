/- For every store that can be handed in (shared memory allowed): 'FnExactRaftText' returns true, and its argument reads as it did; the condition: the three listed tables hold what the program's text lays (the card ties them to it). -/
import Derived.Test.YtcbapclpopbjbaaDoorG41
import Derived.Test.YtcbapclpopbjbaaDoorCards
import Derived.Test.YtcbapclpopbjbaaDoorTie
import Derived.SevenTiedAt
namespace Go.Proofs.YtcbapclpopbjbaaDoor
open Go

theorem fnExactRaftText_holds : Rows.FnExactRaftTextCardSaid :=
  Claim7.holds_tied_plain_at .later [] [.data, .data, .data] true _ false
    fnExactRaftText_row (fun _ h => by cases h) (by kernel_rfl) (fun _ h => by cases h) fnExactRaftText_row_tie rfl ⟨rfl, rfl⟩ (by kernel_rfl) rfl
    (fun f fn hf hfn => by
      obtain rfl : f = 5 := Option.some.inj ((show Tryd.prog.funcNamed "loop.example/g00311/laws.FnExactRaftText" = some 5 by kernel_rfl).symm.trans hf) |>.symm
      obtain rfl : fn = Tryd.f5 := (Option.some.inj (Tryd.func5.symm.trans hfn)).symm
      exact ⟨by kernel_rfl, fun j t ht => by
        rw [Tryd.params5] at ht
        rcases j with _ | j
        · obtain rfl : t = 45 := by simpa using ht.symm
          exact (show Tryd.prog.wantsStandIn 45 = false by kernel_rfl)
        · simp at ht⟩)
    (by kernel_rfl)
#print axioms fnExactRaftText_holds
end Go.Proofs.YtcbapclpopbjbaaDoor
