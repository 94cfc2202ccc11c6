/- From the form's readings of an object to the readings that the walks take. -/
import Derived.Test.YtknjfaebiljiiaaOpen
namespace Go.Proofs.Ytknjfaebiljiiaa
open Go.ChangeShapes Go.WideShapes Go.ChangeAt Go.RowKit Go.Deep

section
variable {H : Type} {enc : TypeId × Value → H} {w : World}

set_option maxRecDepth 100000 in
/-- An object among the arguments. -/
theorem rdObject_of {r : Reach} {b0 : Nat} {v : Value} {d : DataW H} {p : List MemPlace} (hv : Value.okWide Try.prog w r b0 35 v) (h : DataW.Trod enc Try.prog w 0 (fun _ => true) true 35 v d p) :
    ∃ s t y xs, v = .agg #[.int .i64 s, .int .i64 t, y] ∧ RdI (fun _ => True) w y xs := by
  obtain ⟨v0, v1, v2, y0, y1, y2, m, rfl, _, _, h0, h1, h2⟩ := Joins.open_agg3 Try.underlying35 (by kernel_rfl) (by kernel_rfl) hv h
  obtain ⟨s, hs, _⟩ := DataW.trod_int Try.underlying2 h0
  obtain ⟨t, ht, _⟩ := DataW.trod_int Try.underlying2 h1
  obtain ⟨xs, hx⟩ := rdI_of h2
  simp at hs ht
  subst hs ht
  exact ⟨s, t, v2, xs, rfl, hx⟩

end
end Go.Proofs.Ytknjfaebiljiiaa
