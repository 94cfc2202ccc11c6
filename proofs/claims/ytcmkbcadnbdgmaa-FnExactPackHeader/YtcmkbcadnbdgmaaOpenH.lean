/- From the form's readings of a header, of a header with a code, to the readings that the walks take. -/
import Derived.Test.YtcmkbcadnbdgmaaOpen
namespace Go.Proofs.Ytcmkbcadnbdgmaa
open Go.ChangeShapes Go.WideShapes Go.ChangeAt Go.RowKit Go.Deep

section
variable {H : Type} {enc : TypeId × Value → H} {w : World}

set_option maxRecDepth 100000 in
/-- A header among the arguments. -/
theorem rdH_of {r : Reach} {b0 : Nat} {v : Value} {d : DataW H} {p : List MemPlace} (hv : Value.okWide Try.prog w r b0 24 v) (h : DataW.Trod enc Try.prog w 0 (fun _ => true) true 24 v d p) :
    ∃ s t y xs, v = .agg #[.int .i64 s, .int .i64 t, y] ∧ RdI (fun _ => True) w y xs := by
  obtain ⟨v0, v1, v2, y0, y1, y2, m, rfl, _, _, h0, h1, h2⟩ := Joins.open_agg3 Try.underlying24 (by kernel_rfl) (by kernel_rfl) hv h
  obtain ⟨s, hs, _⟩ := DataW.trod_int Try.underlying2 h0
  obtain ⟨t, ht, _⟩ := DataW.trod_int Try.underlying2 h1
  obtain ⟨xs, hx⟩ := rdI_of h2
  simp at hs ht
  subst hs ht
  exact ⟨s, t, v2, xs, rfl, hx⟩

set_option maxRecDepth 100000 in
/-- A header with a code among the arguments. -/
theorem rdR_of {r : Reach} {b0 : Nat} {v : Value} {d : DataW H} {p : List MemPlace} (hv : Value.okWide Try.prog w r b0 47 v) (h : DataW.Trod enc Try.prog w 0 (fun _ => true) true 47 v d p) :
    ∃ c s t y xs, v = .agg #[.int .i64 c, .int .i64 s, .int .i64 t, y] ∧ RdI (fun _ => True) w y xs := by
  obtain ⟨cs, rfl, hsz⟩ := okWide_struct Try.underlying47 hv
  obtain ⟨c0, c1, c2, c3, rfl⟩ := Joins.array4 (hsz.trans (show Try.prog.cellsOf 47 = 4 by kernel_rfl))
  obtain ⟨fuel, hf⟩ := h
  obtain ⟨y0, y1, n, _, _, h0, h1⟩ := trod_struct2 Try.underlying47 hf
  have k0 : Try.prog.cellsOf 2 = 1 := by kernel_rfl
  have k1 : Try.prog.cellsOf 24 = 3 := by kernel_rfl
  have k2 : Try.prog.cellsOf 22 = 1 := by kernel_rfl
  simp [Value.cells, k0] at h0
  simp [Value.cells, k1] at h1
  obtain ⟨q0, q1, q2, n2, _, _, g0, g1, g2⟩ := trod_struct3 Try.underlying24 h1
  simp [k0] at g0 g1
  simp [k2] at g2
  obtain ⟨c, hc, _⟩ := DataW.trod_int Try.underlying2 h0
  obtain ⟨s, hs, _⟩ := DataW.trod_int Try.underlying2 g0
  obtain ⟨t, ht, _⟩ := DataW.trod_int Try.underlying2 g1
  obtain ⟨xs, hx⟩ := rdI_of g2
  simp at hc hs ht
  subst hc hs ht
  exact ⟨c, s, t, c3, xs, rfl, hx⟩
end
end Go.Proofs.Ytcmkbcadnbdgmaa
