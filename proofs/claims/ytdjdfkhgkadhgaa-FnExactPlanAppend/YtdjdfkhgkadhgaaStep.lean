/- Chapter 3: a step; the laws' helpers over it, and 'StepFault' of the model and of the program, walked. -/
import Derived.Test.YtdjdfkhgkadhgaaIv
import Derived.Test.YtdjdfkhgkadhgaaSz
import Derived.Test.YtdjdfkhgkadhgaaFault
import Derived.Test.YtdjdfkhgkadhgaaIv4
namespace Go.Proofs.Ytdjdfkhgkadhgaa
open Go.RowKit
set_option maxRecDepth 4000 in
theorem eqStep {S T : Nat → Prop} {w : World} {y z : Value} {xs : List Int} (a0 : Bool) (a1 : Int) (hy : RdI S w y xs) (hz : RdI T w z xs) :
    Calls Try.prog 80 #[.agg #[.bool a0, .int .i64 a1, y], .agg #[.bool a0, .int .i64 a1, z]] w fun e w' => e = .returned (.bool true) ∧ Below w.heap.size w w' := by
  have HY := hide hy
  have HZ := hide hz
  obtain ⟨ay, cy, rfl⟩ := hy.shape
  obtain ⟨az, cz, rfl⟩ := hz.shape
  clear hy hz
  go_enter Try.func80, Try.ntmps80
  go_wp2_with fail
  refine (eqI' ((HY.out.later (below_alloc _ _)).later (below_alloc _ _)) ((HZ.out.later (below_alloc _ _)).later (below_alloc _ _))).mono ?_
  rintro e w1 ⟨rfl, hb⟩
  have HB := hide (below_on (below_on (below_alloc _ _) (below_alloc _ _)) hb)
  clear hb
  go_wp2
  go_ret
  exact ⟨rfl, HB.out⟩

/-- The fault of a step. -/
def stepF (f : Bool) (a : Int) (xs : List Int) : Int := if f = true ∧ (a ≠ 0 ∨ xs.length ≠ 0) then 1 else if 0 ≤ a ∧ a < 66 then wordsF xs else 3

end Go.Proofs.Ytdjdfkhgkadhgaa
