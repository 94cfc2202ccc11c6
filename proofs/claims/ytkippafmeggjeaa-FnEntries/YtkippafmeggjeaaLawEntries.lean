/- The law 'FnEntries' walked. Made by program (genlawent.py). -/
import Derived.Test.YtkippafmeggjeaaDrawE4
import Derived.Test.YtkippafmeggjeaaEn5c
import Derived.Test.YtkippafmeggjeaaEn4
import Derived.Test.YtkippafmeggjeaaMathE
import Derived.Test.YtkippafmeggjeaaLw
import Derived.Test.YtkippafmeggjeaaIv4
import Derived.Deep.CutRange
namespace Go.Proofs.Ytkippafmeggjeaa
open Go.RowKit

theorem RdB.freshE {s : Nat} {w : World} {v : Value} {bs : List Nat} (h : RdB s w v bs) : RdB w.heap.size w v bs := by
  obtain ⟨ao, c, e1, e2, e3⟩ := h
  refine ⟨ao, c, e1, e2, fun hne => ?_⟩
  obtain ⟨b, off, f1, f2, f3⟩ := e3 hne
  have := World.block_lt_of_cell? _ _ (f3 0 (List.length_pos_iff.2 hne)).1
  exact ⟨b, off, f1, by simp at this; omega, f3⟩
theorem RdB.freshE1 {s : Nat} {w : World} {v : Value} {bs : List Nat} (h : RdB s w v bs) : RdB (w.heap.size + 1) w v bs := by
  obtain ⟨ao, c, e1, e2, e3⟩ := h
  refine ⟨ao, c, e1, e2, fun hne => ?_⟩
  obtain ⟨b, off, f1, f2, f3⟩ := e3 hne
  have := World.block_lt_of_cell? _ _ (f3 0 (List.length_pos_iff.2 hne)).1
  exact ⟨b, off, f1, by simp at this; omega, f3⟩
theorem Try.fldE1 (x y : Value) (w : World) : (Instr.field 28 (.agg #[x, y]) 1).run Try.prog w = .ok y w := by
  simp [Instr.field, run_underlying Try.underlying28, asAgg, part, isAgg, run_underlying Try.underlying26]
theorem Try.fldE0 (x y : Value) (w : World) : (Instr.field 28 (.agg #[x, y]) 0).run Try.prog w = .ok x w := by
  simp [Instr.field, run_underlying Try.underlying28, asAgg, part, isAgg, run_underlying Try.underlying2]
theorem Try.fldN1 (x y : Value) (w : World) : (Instr.field 32 (.agg #[x, y]) 1).run Try.prog w = .ok y w := by
  simp [Instr.field, run_underlying Try.underlying32, asAgg, part, isAgg, run_underlying Try.underlying24]
end Go.Proofs.Ytkippafmeggjeaa
