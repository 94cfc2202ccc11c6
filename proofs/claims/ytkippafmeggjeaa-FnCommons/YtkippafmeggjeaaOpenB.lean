/- Bytes among the arguments. -/
import Derived.Test.YtkippafmeggjeaaOpen
import Derived.Test.YtkippafmeggjeaaDraw
namespace Go.Proofs.Ytkippafmeggjeaa
open Go.ChangeShapes Go.WideShapes Go.ChangeAt Go.RowKit Go.Deep

theorem Try.cellsByte : Try.prog.cellsOf 5 = 1 := by kernel_rfl

theorem u8_wf {n : Int} (h : (Lit.int .u8 n).wf = true) : 0 ≤ n ∧ n ≤ 255 := by
  have e1 : IntKind.u8.min = 0 := by decide
  have e2 : IntKind.u8.max = 255 := by decide
  simp only [Lit.wf, e1, e2, Bool.and_eq_true, decide_eq_true_eq] at h
  exact h

section
variable {H : Type} {enc : TypeId × Value → H} {w : World}

set_option maxRecDepth 100000 in
/-- A list of bytes among the arguments: it is read, or it is too long. -/
theorem rdB_of {r : Reach} {b0 : Nat} {v : Value} {d : DataW H} {p : List MemPlace} (hv : Value.okWide Try.prog w r b0 22 v) (h : DataW.Trod enc Try.prog w 0 (fun _ => true) true 22 v d p) :
    (∃ bs, bs.length ≤ 1048576 ∧ RdB w.heap.size w v bs) ∨ ∃ ao n c, v = .slice ao n c ∧ 1048576 < n ∧ n ≤ 9223372036854775807 := by
  obtain ⟨a0, len0, cap0, rfl⟩ := okWide_slice Try.underlying22 hv
  obtain ⟨fuel, hf⟩ := h
  have hf' : DataW.trod enc Try.prog w 0 (fun _ => true) true fuel 22 [.slice a0 len0 cap0] = some (d, p) := by simpa [Value.cells] using hf
  rcases open_ints Try.underlying22 Try.underlying5 Try.cellsByte hf' with ⟨hcs, _⟩ | ⟨a, len, cap, zs, hcs, _, hl, hm, hz, _, hcell, hwf⟩
  · simp at hcs
    obtain ⟨rfl, rfl, rfl⟩ := hcs
    exact Or.inl ⟨[], by simp, none, 0, by simp, by simp, fun h => absurd rfl h⟩
  · simp at hcs
    obtain ⟨rfl, rfl, rfl⟩ := hcs
    simp only [if_true] at hz
    unfold maxLen at hm
    by_cases hbig : 1048576 < len0
    · exact Or.inr ⟨some a, len0, cap0, rfl, hbig, by omega⟩
    · left
      have hlen : ((zs.take len0).map Int.toNat).length = len0 := by simp; omega
      refine ⟨(zs.take len0).map Int.toNat, by rw [hlen]; omega, some a, cap0, by rw [hlen], by rw [hlen]; omega, fun hne => ?_⟩
      have hpos : 0 < len0 := by rw [← hlen]; exact List.length_pos_iff.2 hne
      have e := addr_plain (hcell 0 (by omega))
      have e0 : a.add 0 = a := by simp [Addr.add]
      rw [e0] at e
      have hb := World.block_lt_of_cell? _ _ (hcell 0 (by omega))
      rw [e0] at hb
      refine ⟨a.block, a.off, by rw [← e], by omega, fun i hi => ?_⟩
      rw [hlen] at hi
      have hmem : zs.getD i 0 ∈ zs := by
        have : i < zs.length := by omega
        simp [List.getD, this]
      have hw8 := u8_wf (hwf _ hmem)
      have e2 : ((zs.take len0).map Int.toNat).getD i 0 = (zs.getD i 0).toNat := by
        have : i < zs.length := by omega
        simp [List.getD, hi, this]
      rw [e2]
      refine ⟨?_, by omega⟩
      rw [← addr_add, ← e, hcell i (by omega), Int.toNat_of_nonneg hw8.1]
end
end Go.Proofs.Ytkippafmeggjeaa
