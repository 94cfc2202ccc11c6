/- The law 'FnExactDiskFault' walked. -/
import Derived.Test.YtaccllclihbpfaaEq
import Derived.Test.YtaccllclihbpfaaSmall
import Derived.Test.YtaccllclihbpfaaFault3
namespace Go.Proofs.Ytaccllclihbpfaa
open Go.RowKit

/-- 'spec.DiskFault' of a reading. -/
theorem specFault {S T : Nat → Prop} {w : World} {u v : Value} {xss : List (List Int)} {ps : List (Int × List Int)} (hu : RdII S w u xss) (hv : RdP T w v ps) :
    Calls Try.prog 14 #[.agg #[u, v]] w fun e w' => e = .returned (.int .i64 (diskF xss ps)) ∧ Below w.heap.size w w' := by
  have HU := hide hu
  have HV := hide hv
  clear hu hv
  go_enter Try.func14, Try.ntmps14
  go_wp2_with fail
  refine (l1Fault (u := u) (v := v) (by simp [go_sem]) (by simp [go_sem]) (HU.out.later (below_alloc _ _)) (HV.out.later (below_alloc _ _))).mono ?_
  rintro e w' ⟨rfl, q, rfl⟩
  go_wp2
  go_ret
  exact ⟨rfl, below_on (below_alloc _ _) (below_drewN _ _)⟩
end Go.Proofs.Ytaccllclihbpfaa
