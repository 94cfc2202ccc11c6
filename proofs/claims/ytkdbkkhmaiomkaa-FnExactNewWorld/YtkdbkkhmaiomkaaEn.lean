/- The laws' helpers over Entry. Made by program (genen.py). -/
import Derived.Test.YtkdbkkhmaiomkaaHd
namespace Go.Proofs.Ytkdbkkhmaiomkaa
open Go.RowKit
set_option maxRecDepth 4000 in
theorem eqEntry {S T : Nat → Prop} {w : World} {y z : Value} {xs : List Int} (a0 a1 : Int) (hy : RdI S w y xs) (hz : RdI T w z xs) :
    Calls Try.prog 45 #[.agg #[.int .i64 a0, .int .i64 a1, y], .agg #[.int .i64 a0, .int .i64 a1, z]] w fun e w' => e = .returned (.bool true) ∧ Below w.heap.size w w' := by
  have HY := hide hy
  have HZ := hide hz
  obtain ⟨ay, cy, rfl⟩ := hy.shape
  obtain ⟨az, cz, rfl⟩ := hz.shape
  clear hy hz
  go_enter Try.func45, Try.ntmps45
  go_wp2_with fail
  refine (eqI' ((HY.out.later (below_alloc _ _)).later (below_alloc _ _)) ((HZ.out.later (below_alloc _ _)).later (below_alloc _ _))).mono ?_
  rintro e w1 ⟨rfl, hb⟩
  have HB := hide (below_on (below_on (below_alloc _ _) (below_alloc _ _)) hb)
  clear hb
  go_wp2
  go_ret
  exact ⟨rfl, HB.out⟩

end Go.Proofs.Ytkdbkkhmaiomkaa
