/- Fields of a call's answer. -/
import Derived.Test.YtknjfaebiljiiaaBase
namespace Go.Proofs.Ytknjfaebiljiiaa
open Go.RowKit

theorem Try.fieldI0 (x y : Value) (w : World) : (Instr.field 30 (.agg #[x, y]) 0).run Try.prog w = .ok x w := by
  simp [Instr.field, run_underlying Try.underlying30, asAgg, part, isAgg, run_underlying Try.underlying2]
theorem Try.fieldI1 (x y : Value) (w : World) : (Instr.field 30 (.agg #[x, y]) 1).run Try.prog w = .ok y w := by
  simp [Instr.field, run_underlying Try.underlying30, asAgg, part, isAgg, run_underlying Try.underlying24]
end Go.Proofs.Ytknjfaebiljiiaa
