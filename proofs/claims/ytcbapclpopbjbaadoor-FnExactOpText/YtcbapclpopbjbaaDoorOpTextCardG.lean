/- For every operation that can be handed in (shared memory allowed): 'FnExactOpText' returns true, and its argument reads as it did; the condition: the three listed tables hold what the program's text lays (the card ties them to it). -/
import Derived.Test.YtcbapclpopbjbaaDoorG42
import Derived.Test.YtcbapclpopbjbaaDoorCards
import Derived.Test.YtcbapclpopbjbaaDoorTie
import Derived.SevenTiedAt
namespace Go.Proofs.YtcbapclpopbjbaaDoor
open Go

theorem fnExactOpText_holds : Rows.FnExactOpTextCardSaid :=
  Claim7.holds_tied_plain_at .later [] [.data, .data, .data] true _ false
    fnExactOpText_row (fun _ h => by cases h) (by kernel_rfl) (fun _ h => by cases h) fnExactOpText_row_tie rfl ⟨rfl, rfl⟩ (by kernel_rfl) rfl
    (fun f fn hf hfn => by
      obtain rfl : f = 4 := Option.some.inj ((show Tryd.prog.funcNamed "loop.example/g00311/laws.FnExactOpText" = some 4 by kernel_rfl).symm.trans hf) |>.symm
      obtain rfl : fn = Tryd.f4 := (Option.some.inj (Tryd.func4.symm.trans hfn)).symm
      exact ⟨by kernel_rfl, fun j t ht => by
        rw [Tryd.params4] at ht
        rcases j with _ | j
        · obtain rfl : t = 32 := by simpa using ht.symm
          exact (show Tryd.prog.wantsStandIn 32 = false by kernel_rfl)
        · simp at ht⟩)
    (by kernel_rfl)
#print axioms fnExactOpText_holds
end Go.Proofs.YtcbapclpopbjbaaDoor
