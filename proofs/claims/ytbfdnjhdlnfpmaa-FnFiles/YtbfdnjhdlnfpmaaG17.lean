/- Open OpenB in one text: what each says stands at its head below. -/
import Derived.Test.YtbfdnjhdlnfpmaaG01
import Derived.ProofKit
import Derived.Lib.SmallJoins
import Derived.Deep.SlicePairs
import Derived.Test.YtbfdnjhdlnfpmaaG11
/- From the form's readings of arguments to the readings that the walks take. -/
namespace Go.Proofs.Ytbfdnjhdlnfpmaa
open Go.ChangeShapes Go.WideShapes Go.ChangeAt Go.RowKit Go.Deep

theorem Try.own : ownKnob Try.prog.godebug = none := by kernel_rfl
theorem Try.laidOut : laidOutB Try.prog = true := by kernel_rfl
theorem Try.cellsInt : Try.prog.cellsOf 2 = 1 := by kernel_rfl
theorem Try.cellsInts : Try.prog.cellsOf 24 = 1 := by kernel_rfl

theorem addr_plain {w : World} {a : Addr} {v : Value} (h : w.cell? a = some v) : a = ⟨a.block, a.off, none⟩ := by
  obtain ⟨b, o, s⟩ := a
  cases s with
  | none => rfl
  | some k =>
    unfold World.cell? at h
    revert h
    cases w.heap[(⟨b, o, some k⟩ : Addr).block]? with
    | none => intro h; cases h
    | some ob => cases ob <;> intro h <;> simp at h

theorem addr_add (b o i : Nat) : (⟨b, o, none⟩ : Addr).add i = ⟨b, o + i, none⟩ := Addr.add_lit ..

section
variable {H : Type} {enc : TypeId × Value → H} {w : World}

theorem rdI_of {fuel : Nat} {held : Bool} {v : Value} {x : DataW H × List MemPlace} (h : DataW.trod enc Try.prog w 0 (fun _ => true) held fuel 24 [v] = some x) : ∃ xs, RdI (fun _ => True) w v xs := by
  rcases open_ints Try.underlying24 Try.underlying2 Try.cellsInt h with ⟨hcs, _⟩ | ⟨a, len, cap, zs, hcs, _, hl, hm, hz, _, hcell, _⟩
  · simp at hcs
    exact ⟨[], none, 0, by simp [hcs], by simp, fun h => absurd rfl h⟩
  · simp at hcs
    simp only [if_true] at hz
    unfold maxLen at hm
    have hlen : (zs.take len).length = len := by simp; omega
    refine ⟨zs.take len, some a, cap - len, by rw [hcs, hlen, Nat.add_sub_cancel' hl], by rw [hlen]; omega, fun hne => ?_⟩
    have hpos : 0 < len := by rw [← hlen]; exact List.length_pos_iff.2 hne
    have e := addr_plain (hcell 0 (by omega))
    have e0 : a.add 0 = a := by simp [Addr.add]
    rw [e0] at e
    refine ⟨a.block, a.off, by rw [← e], trivial, fun i hi => ?_⟩
    rw [hlen] at hi
    rw [← addr_add, ← e, hcell i (by omega)]
    simp [List.getD, hi]

set_option maxRecDepth 100000 in
/-- A list of numbers among the arguments. -/
theorem rdIarg_of {r : Reach} {b0 : Nat} {v : Value} {d : DataW H} {p : List MemPlace} (hv : Value.okWide Try.prog w r b0 24 v) (h : DataW.Trod enc Try.prog w 0 (fun _ => true) true 24 v d p) : ∃ xs, RdI (fun _ => True) w v xs := by
  obtain ⟨a0, len, cap, rfl⟩ := okWide_slice Try.underlying24 hv
  obtain ⟨fuel, hf⟩ := h
  exact rdI_of (by simpa [Value.cells] using hf)

end
end Go.Proofs.Ytbfdnjhdlnfpmaa
/- Bytes among the arguments. -/
namespace Go.Proofs.Ytbfdnjhdlnfpmaa
open Go.ChangeShapes Go.WideShapes Go.ChangeAt Go.RowKit Go.Deep

theorem Try.cellsByte : Try.prog.cellsOf 5 = 1 := by kernel_rfl

theorem u8_wf {n : Int} (h : (Lit.int .u8 n).wf = true) : 0 ≤ n ∧ n ≤ 255 := by
  have e1 : IntKind.u8.min = 0 := by decide
  have e2 : IntKind.u8.max = 255 := by decide
  simp only [Lit.wf, e1, e2, Bool.and_eq_true, decide_eq_true_eq] at h
  exact h

section
variable {H : Type} {enc : TypeId × Value → H} {w : World}

set_option maxRecDepth 100000 in
/-- A list of bytes among the arguments: it is read, or it is too long. -/
theorem rdB_of {r : Reach} {b0 : Nat} {v : Value} {d : DataW H} {p : List MemPlace} (hv : Value.okWide Try.prog w r b0 22 v) (h : DataW.Trod enc Try.prog w 0 (fun _ => true) true 22 v d p) :
    (∃ bs, bs.length ≤ 1048576 ∧ RdB w.heap.size w v bs) ∨ ∃ ao n c, v = .slice ao n c ∧ 1048576 < n ∧ n ≤ 9223372036854775807 := by
  obtain ⟨a0, len0, cap0, rfl⟩ := okWide_slice Try.underlying22 hv
  obtain ⟨fuel, hf⟩ := h
  have hf' : DataW.trod enc Try.prog w 0 (fun _ => true) true fuel 22 [.slice a0 len0 cap0] = some (d, p) := by simpa [Value.cells] using hf
  rcases open_ints Try.underlying22 Try.underlying5 Try.cellsByte hf' with ⟨hcs, _⟩ | ⟨a, len, cap, zs, hcs, _, hl, hm, hz, _, hcell, hwf⟩
  · simp at hcs
    obtain ⟨rfl, rfl, rfl⟩ := hcs
    exact Or.inl ⟨[], by simp, none, 0, by simp, by simp, fun h => absurd rfl h⟩
  · simp at hcs
    obtain ⟨rfl, rfl, rfl⟩ := hcs
    simp only [if_true] at hz
    unfold maxLen at hm
    by_cases hbig : 1048576 < len0
    · exact Or.inr ⟨some a, len0, cap0, rfl, hbig, by omega⟩
    · left
      have hlen : ((zs.take len0).map Int.toNat).length = len0 := by simp; omega
      refine ⟨(zs.take len0).map Int.toNat, by rw [hlen]; omega, some a, cap0, by rw [hlen], by rw [hlen]; omega, fun hne => ?_⟩
      have hpos : 0 < len0 := by rw [← hlen]; exact List.length_pos_iff.2 hne
      have e := addr_plain (hcell 0 (by omega))
      have e0 : a.add 0 = a := by simp [Addr.add]
      rw [e0] at e
      have hb := World.block_lt_of_cell? _ _ (hcell 0 (by omega))
      rw [e0] at hb
      refine ⟨a.block, a.off, by rw [← e], by omega, fun i hi => ?_⟩
      rw [hlen] at hi
      have hmem : zs.getD i 0 ∈ zs := by
        have : i < zs.length := by omega
        simp [List.getD, this]
      have hw8 := u8_wf (hwf _ hmem)
      have e2 : ((zs.take len0).map Int.toNat).getD i 0 = (zs.getD i 0).toNat := by
        have : i < zs.length := by omega
        simp [List.getD, hi, this]
      rw [e2]
      refine ⟨?_, by omega⟩
      rw [← addr_add, ← e, hcell i (by omega), Int.toNat_of_nonneg hw8.1]
end
end Go.Proofs.Ytbfdnjhdlnfpmaa
