/- For every text that can be handed in: 'FnExactWordsOf' returns true, and its argument reads as it did; the condition: the two listed package variables hold what the program's text lays (the card ties them to it); 'internal/bytealg.MaxLen' holds whatever number. -/
import Derived.Test.YtcbapclpopbjbaaDoorWordsOfProof
import Derived.Test.YtcbapclpopbjbaaDoorCards
import Derived.Test.YtcbapclpopbjbaaDoorTie
import Derived.SevenTiedAt
namespace Go.Proofs.YtcbapclpopbjbaaDoor
open Go

theorem fnExactWordsOf_holds : Rows.FnExactWordsOfCardSaid :=
  Claim7.holds_tied_plain_at .later [] [.data, .pinned] true _ false
    fnExactWordsOf_row (fun _ h => by cases h) (by kernel_rfl) (fun _ h => by cases h) fnExactWordsOf_row_tie rfl ⟨rfl, rfl⟩ (by kernel_rfl) rfl
    (fun f fn hf hfn => by
      obtain rfl : f = 3 := Option.some.inj ((show Tryd.prog.funcNamed "loop.example/g00311/laws.FnExactWordsOf" = some 3 by kernel_rfl).symm.trans hf) |>.symm
      obtain rfl : fn = Tryd.f3 := (Option.some.inj (Tryd.func3.symm.trans hfn)).symm
      exact ⟨by kernel_rfl, fun j t ht => by
        rw [Tryd.params3] at ht
        rcases j with _ | j
        · obtain rfl : t = 9 := by simpa using ht.symm
          exact (show Tryd.prog.wantsStandIn 9 = false by kernel_rfl)
        · simp at ht⟩)
    (by kernel_rfl)
#print axioms fnExactWordsOf_holds
end Go.Proofs.YtcbapclpopbjbaaDoor
