/- Lists of what was done among the arguments. -/
import Derived.Test.YtebgonaiodblhaaOpen
import Derived.Test.YtebgonaiodblhaaDn
namespace Go.Proofs.Ytebgonaiodblhaa
open Go.ChangeShapes Go.WideShapes Go.ChangeAt Go.RowKit Go.Deep

set_option maxRecDepth 100000 in
theorem rdDn_of {H : Type} {enc : TypeId × Value → H} {w : World} {fuel : Nat} {held : Bool} {v : Value} {x : DataW H × List MemPlace} (h : DataW.trod enc Try.prog w 0 (fun _ => true) held fuel 22 [v] = some x) : ∃ os, RdDn (fun _ => True) w v os ∧ ∀ i, i < os.length → (Lit.int .i64 (os.getD i dn0).1).wf = true := by
  rcases open_slice Try.underlying22 h with ⟨hcs, _⟩ | ⟨a, len, cap, m, n, D, Pl, hcs, _, hl, hm, hmm, _, hx⟩
  · simp at hcs
    exact ⟨[], ⟨none, 0, by simp [hcs], by simp, fun h => absurd rfl h⟩, fun _ h => absurd h (Nat.not_lt_zero _)⟩
  · simp at hcs
    simp only [if_true] at hmm
    unfold maxLen at hm
    have ce : Try.prog.cellsOf 43 = 4 := by kernel_rfl
    have each : ∀ i, i < len → ∃ q : Dn, (w.cell? (a.add (i * 4)) = some (.int .i64 q.1) ∧ w.cell? (a.add (i * 4 + 1)) = some (.int .i64 q.2.1) ∧ w.cell? (a.add (i * 4 + 2)) = some (.int .i64 q.2.2.1) ∧ w.cell? (a.add (i * 4 + 3)) = some (.int .i64 q.2.2.2)) ∧ (Lit.int .i64 q.1).wf = true := by
      intro i hi
      obtain ⟨cs', h1, h2⟩ := hx i (by omega)
      rw [ce] at h1
      obtain ⟨_, hlen, hcell⟩ := World.cells?_some h1
      obtain ⟨ys, k, hk, hxy, _, hxl, hf⟩ := DataW.trod_struct Try.underlying43 h2
      match ys, hxl, cs', hlen with
      | [y0, y1, y2, y3], _, [v0, v1, v2, v3], _ =>
        have g0 := hf 0 _ rfl
        have g1 := hf 1 _ rfl
        have g2 := hf 2 _ rfl
        have g3 := hf 3 _ rfl
        have e0 := hcell 0 (by omega)
        have e1 := hcell 1 (by omega)
        have e2 := hcell 2 (by omega)
        have e3 := hcell 3 (by omega)
        rw [add_add] at e0 e1 e2 e3
        have c1 : Try.prog.cellsOf 2 = 1 := by kernel_rfl
        simp [c1] at g0 g1 g2 g3
        obtain ⟨k0, hk0, _, hw0⟩ := DataW.trod_int Try.underlying2 g0
        obtain ⟨k1, hk1, _⟩ := DataW.trod_int Try.underlying2 g1
        obtain ⟨k2, hk2, _⟩ := DataW.trod_int Try.underlying2 g2
        obtain ⟨k3, hk3, _⟩ := DataW.trod_int Try.underlying2 g3
        simp at hk0 hk1 hk2 hk3
        subst hk0 hk1 hk2 hk3
        exact ⟨(k0, k1, k2, k3), ⟨by simpa using e0, by simpa using e1, by simpa using e2, by simpa using e3⟩, hw0⟩
    obtain ⟨q, hq⟩ := choose_lt each
    have hlen : ((List.range len).map fun i => q i).length = len := by simp
    have e2 : ∀ i, i < len → ((List.range len).map fun i => q i).getD i dn0 = q i := fun i hi => by simp [List.getD, hi]
    refine ⟨(List.range len).map fun i => q i, ⟨some a, cap - len, by rw [hcs, hlen, Nat.add_sub_cancel' hl], by rw [hlen]; omega, fun hne => ?_⟩, fun i hi => ?_⟩
    · have hpos : 0 < len := by rw [← hlen]; exact List.length_pos_iff.2 hne
      have e := addr_plain (hq 0 (by omega)).1.1
      have e0 : a.add (0 * 4) = a := by simp [Addr.add]
      rw [e0] at e
      refine ⟨a.block, a.off, by rw [← e], trivial, fun i hi => ?_⟩
      rw [hlen] at hi
      rw [e2 i hi]
      obtain ⟨⟨k0, k1, k2, k3⟩, _⟩ := hq i hi
      unfold DnAt
      refine ⟨?_, ?_, ?_, ?_⟩
      · rw [← addr_add, ← e]; exact k0
      · rw [Nat.add_assoc, ← addr_add, ← e]; exact k1
      · rw [Nat.add_assoc, ← addr_add, ← e]; exact k2
      · rw [Nat.add_assoc, ← addr_add, ← e]; exact k3
    · rw [hlen] at hi
      rw [e2 i hi]
      exact (hq i hi).2

set_option maxRecDepth 100000 in
/-- A list of what was done among the arguments. -/
theorem rdDnarg_of {H : Type} {enc : TypeId × Value → H} {w : World} {r : Reach} {b0 : Nat} {v : Value} {d : DataW H} {p : List MemPlace} (hv : Value.okWide Try.prog w r b0 22 v) (h : DataW.Trod enc Try.prog w 0 (fun _ => true) true 22 v d p) : ∃ os, RdDn (fun _ => True) w v os ∧ ∀ i, i < os.length → (Lit.int .i64 (os.getD i dn0).1).wf = true := by
  obtain ⟨a0, len, cap, rfl⟩ := okWide_slice Try.underlying22 hv
  obtain ⟨fuel, hf⟩ := h
  exact rdDn_of (by simpa [Value.cells] using hf)
end Go.Proofs.Ytebgonaiodblhaa
