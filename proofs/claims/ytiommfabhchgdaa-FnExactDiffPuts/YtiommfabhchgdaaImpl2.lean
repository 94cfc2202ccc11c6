/- Chapter 2, the program's side: 'impl.HeaderFault', walked. -/
import Derived.Test.YtiommfabhchgdaaSpec2
namespace Go.Proofs.Ytiommfabhchgdaa
open Go.RowKit

theorem isHome_yes (v : Int) (h1 : 0 ≤ v) (h2 : v < 40) (w : World) : Calls Try.prog 84 #[.int .i64 v] w fun e w' => e = .returned (.bool true) ∧ w' = w := by
  have h3 : ¬ v < 0 := by omega
  go_enter Try.func84, Try.ntmps84
  go_wp2
  go_ret
  exact ⟨rfl, rfl⟩
theorem isHome_no (v : Int) (h : ¬ (0 ≤ v ∧ v < 40)) (w : World) : Calls Try.prog 84 #[.int .i64 v] w fun e w' => e = .returned (.bool false) ∧ w' = w := by
  by_cases h1 : v < 0
  · have h2 : ¬ 0 ≤ v := by omega
    clear h
    go_enter Try.func84, Try.ntmps84
    go_wp2
    go_ret
    exact ⟨rfl, rfl⟩
  · have h2 : 0 ≤ v := by omega
    have h3 : 40 ≤ v := by omega
    have h4 : ¬ v < 40 := by omega
    clear h
    go_enter Try.func84, Try.ntmps84
    go_wp2
    go_ret
    exact ⟨rfl, rfl⟩

end Go.Proofs.Ytiommfabhchgdaa
