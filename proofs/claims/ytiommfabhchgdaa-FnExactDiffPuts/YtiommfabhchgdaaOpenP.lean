/- Puts among the arguments. -/
import Derived.Test.YtiommfabhchgdaaOpen
namespace Go.Proofs.Ytiommfabhchgdaa
open Go.ChangeShapes Go.WideShapes Go.ChangeAt Go.RowKit

set_option maxRecDepth 100000 in
/-- A list of puts among the arguments. -/
theorem rdParg_of {H : Type} {enc : TypeId × Value → H} {w : World} {r : Reach} {b0 : Nat} {v : Value} {d : DataW H} {p : List MemPlace} (hv : Value.okWide Try.prog w r b0 40 v) (h : DataW.Trod enc Try.prog w 0 (fun _ => true) true 40 v d p) : ∃ ps, RdP (fun _ => True) w v ps := by
  obtain ⟨a0, len, cap, rfl⟩ := okWide_slice Try.underlying40 hv
  obtain ⟨fuel, hf⟩ := h
  exact rdP_of (by simpa [Value.cells] using hf)
end Go.Proofs.Ytiommfabhchgdaa
