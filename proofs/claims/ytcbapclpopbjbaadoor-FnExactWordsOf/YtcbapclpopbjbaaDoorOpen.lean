/- From the form's readings of arguments to the readings that the walks take. -/
import Derived.Test.YtcbapclpopbjbaaDoorBase
import Derived.ProofKit
import Derived.Lib.SmallJoins
import Derived.Deep.SlicePairs
namespace Go.Proofs.YtcbapclpopbjbaaDoor
open Go.ChangeShapes Go.WideShapes Go.ChangeAt Go.RowKit Go.Deep

theorem Tryd.own : ownKnob Tryd.prog.godebug = none := by kernel_rfl
theorem Tryd.laidOut : laidOutB Tryd.prog = true := by kernel_rfl
theorem Tryd.cellsInt : Tryd.prog.cellsOf 2 = 1 := by kernel_rfl
theorem Tryd.cellsInts : Tryd.prog.cellsOf 29 = 1 := by kernel_rfl

theorem addr_plain {w : World} {a : Addr} {v : Value} (h : w.cell? a = some v) : a = ⟨a.block, a.off, none⟩ := by
  obtain ⟨b, o, s⟩ := a
  cases s with
  | none => rfl
  | some k =>
    unfold World.cell? at h
    revert h
    cases w.heap[(⟨b, o, some k⟩ : Addr).block]? with
    | none => intro h; cases h
    | some ob => cases ob <;> intro h <;> simp at h

theorem addr_add (b o i : Nat) : (⟨b, o, none⟩ : Addr).add i = ⟨b, o + i, none⟩ := Addr.add_lit ..

section
variable {H : Type} {enc : TypeId × Value → H} {w : World}

theorem rdI_of {fuel : Nat} {held : Bool} {v : Value} {x : DataW H × List MemPlace} (h : DataW.trod enc Tryd.prog w 0 (fun _ => true) held fuel 29 [v] = some x) : ∃ xs, RdI (fun _ => True) w v xs := by
  rcases open_ints Tryd.underlying29 Tryd.underlying2 Tryd.cellsInt h with ⟨hcs, _⟩ | ⟨a, len, cap, zs, hcs, _, hl, hm, hz, _, hcell, _⟩
  · simp at hcs
    exact ⟨[], none, 0, by simp [hcs], by simp, fun h => absurd rfl h⟩
  · simp at hcs
    simp only [if_true] at hz
    unfold maxLen at hm
    have hlen : (zs.take len).length = len := by simp; omega
    refine ⟨zs.take len, some a, cap - len, by rw [hcs, hlen, Nat.add_sub_cancel' hl], by rw [hlen]; omega, fun hne => ?_⟩
    have hpos : 0 < len := by rw [← hlen]; exact List.length_pos_iff.2 hne
    have e := addr_plain (hcell 0 (by omega))
    have e0 : a.add 0 = a := by simp [Addr.add]
    rw [e0] at e
    refine ⟨a.block, a.off, by rw [← e], trivial, fun i hi => ?_⟩
    rw [hlen] at hi
    rw [← addr_add, ← e, hcell i (by omega)]
    simp [List.getD, hi]

set_option maxRecDepth 100000 in
/-- A list of numbers among the arguments. -/
theorem rdIarg_of {r : Reach} {b0 : Nat} {v : Value} {d : DataW H} {p : List MemPlace} (hv : Value.okWide Tryd.prog w r b0 29 v) (h : DataW.Trod enc Tryd.prog w 0 (fun _ => true) true 29 v d p) : ∃ xs, RdI (fun _ => True) w v xs := by
  obtain ⟨a0, len, cap, rfl⟩ := okWide_slice Tryd.underlying29 hv
  obtain ⟨fuel, hf⟩ := h
  exact rdI_of (by simpa [Value.cells] using hf)

end
end Go.Proofs.YtcbapclpopbjbaaDoor
