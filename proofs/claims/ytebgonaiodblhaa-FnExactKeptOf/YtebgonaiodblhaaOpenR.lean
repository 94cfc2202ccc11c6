/- A store among the arguments. -/
import Derived.Test.YtebgonaiodblhaaOpenE
import Derived.Test.YtebgonaiodblhaaRa
namespace Go.Proofs.Ytebgonaiodblhaa
open Go.ChangeShapes Go.WideShapes Go.ChangeAt Go.RowKit Go.Deep

set_option maxRecDepth 100000 in
theorem rdRaft_of {H : Type} {enc : TypeId × Value → H} {w : World} {r : Reach} {b0 : Nat} {v : Value} {d : DataW H} {p : List MemPlace} (hv : Value.okWide Try.prog w r b0 32 v) (h : DataW.Trod enc Try.prog w 0 (fun _ => true) true 32 v d p) :
    ∃ (s : Rf) (y z : Value), v = .agg #[.int .i64 s.tm, .int .i64 s.vt, .int .i64 s.si, .int .i64 s.st, y, z] ∧ RdI (fun _ => True) w y s.sn ∧ RdJ (fun _ => True) w z s.lg := by
  obtain ⟨cs, rfl, hsz⟩ := okWide_struct Try.underlying32 hv
  have ce : Try.prog.cellsOf 32 = 6 := by kernel_rfl
  rw [ce] at hsz
  obtain ⟨fuel, hf0⟩ := h
  obtain ⟨ys, k, hk, hxy, _, hxl, hf⟩ := DataW.trod_struct Try.underlying32 hf0
  obtain ⟨l⟩ := cs
  have hsz' : l.length = 6 := hsz
  match ys, hxl, l, hsz' with
  | [y0, y1, y2, y3, y4, y5], _, [v0, v1, v2, v3, v4, v5], _ =>
    have g0 := hf 0 _ rfl
    have g1 := hf 1 _ rfl
    have g2 := hf 2 _ rfl
    have g3 := hf 3 _ rfl
    have g4 := hf 4 _ rfl
    have g5 := hf 5 _ rfl
    have c1 : Try.prog.cellsOf 2 = 1 := by kernel_rfl
    have c2 : Try.prog.cellsOf 29 = 1 := by kernel_rfl
    have c3 : Try.prog.cellsOf 30 = 1 := by kernel_rfl
    simp [c1, c2, c3, Value.cells] at g0 g1 g2 g3 g4 g5
    obtain ⟨k0, hk0, _⟩ := DataW.trod_int Try.underlying2 g0
    obtain ⟨k1, hk1, _⟩ := DataW.trod_int Try.underlying2 g1
    obtain ⟨k2, hk2, _⟩ := DataW.trod_int Try.underlying2 g2
    obtain ⟨k3, hk3, _⟩ := DataW.trod_int Try.underlying2 g3
    obtain ⟨xs, hxs⟩ := rdI_of g4
    obtain ⟨os, hos⟩ := rdEn_of g5
    simp at hk0 hk1 hk2 hk3
    subst hk0 hk1 hk2 hk3
    exact ⟨⟨k0, k1, k2, k3, xs, os⟩, v4, v5, rfl, hxs, hos⟩
end Go.Proofs.Ytebgonaiodblhaa
