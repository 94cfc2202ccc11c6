/- Open OpenP OpenE OpenOp in one text: what each says stands at its head below. -/
import Derived.Test.YtcbapclpopbjbaaDoorG01
import Derived.ProofKit
import Derived.Lib.SmallJoins
import Derived.Deep.SlicePairs
import Derived.Test.YtcbapclpopbjbaaDoorG08
import Derived.Test.YtcbapclpopbjbaaDoorG14
/- From the form's readings of arguments to the readings that the walks take. -/
namespace Go.Proofs.YtcbapclpopbjbaaDoor
open Go.ChangeShapes Go.WideShapes Go.ChangeAt Go.RowKit Go.Deep

theorem Tryd.own : ownKnob Tryd.prog.godebug = none := by kernel_rfl
theorem Tryd.laidOut : laidOutB Tryd.prog = true := by kernel_rfl
theorem Tryd.cellsInt : Tryd.prog.cellsOf 2 = 1 := by kernel_rfl
theorem Tryd.cellsInts : Tryd.prog.cellsOf 29 = 1 := by kernel_rfl

theorem addr_plain {w : World} {a : Addr} {v : Value} (h : w.cell? a = some v) : a = ⟨a.block, a.off, none⟩ := by
  obtain ⟨b, o, s⟩ := a
  cases s with
  | none => rfl
  | some k =>
    unfold World.cell? at h
    revert h
    cases w.heap[(⟨b, o, some k⟩ : Addr).block]? with
    | none => intro h; cases h
    | some ob => cases ob <;> intro h <;> simp at h

theorem addr_add (b o i : Nat) : (⟨b, o, none⟩ : Addr).add i = ⟨b, o + i, none⟩ := Addr.add_lit ..

section
variable {H : Type} {enc : TypeId × Value → H} {w : World}

theorem rdI_of {fuel : Nat} {held : Bool} {v : Value} {x : DataW H × List MemPlace} (h : DataW.trod enc Tryd.prog w 0 (fun _ => true) held fuel 29 [v] = some x) : ∃ xs, RdI (fun _ => True) w v xs := by
  rcases open_ints Tryd.underlying29 Tryd.underlying2 Tryd.cellsInt h with ⟨hcs, _⟩ | ⟨a, len, cap, zs, hcs, _, hl, hm, hz, _, hcell, _⟩
  · simp at hcs
    exact ⟨[], none, 0, by simp [hcs], by simp, fun h => absurd rfl h⟩
  · simp at hcs
    simp only [if_true] at hz
    unfold maxLen at hm
    have hlen : (zs.take len).length = len := by simp; omega
    refine ⟨zs.take len, some a, cap - len, by rw [hcs, hlen, Nat.add_sub_cancel' hl], by rw [hlen]; omega, fun hne => ?_⟩
    have hpos : 0 < len := by rw [← hlen]; exact List.length_pos_iff.2 hne
    have e := addr_plain (hcell 0 (by omega))
    have e0 : a.add 0 = a := by simp [Addr.add]
    rw [e0] at e
    refine ⟨a.block, a.off, by rw [← e], trivial, fun i hi => ?_⟩
    rw [hlen] at hi
    rw [← addr_add, ← e, hcell i (by omega)]
    simp [List.getD, hi]

set_option maxRecDepth 100000 in
/-- A list of numbers among the arguments. -/
theorem rdIarg_of {r : Reach} {b0 : Nat} {v : Value} {d : DataW H} {p : List MemPlace} (hv : Value.okWide Tryd.prog w r b0 29 v) (h : DataW.Trod enc Tryd.prog w 0 (fun _ => true) true 29 v d p) : ∃ xs, RdI (fun _ => True) w v xs := by
  obtain ⟨a0, len, cap, rfl⟩ := okWide_slice Tryd.underlying29 hv
  obtain ⟨fuel, hf⟩ := h
  exact rdI_of (by simpa [Value.cells] using hf)

end
end Go.Proofs.YtcbapclpopbjbaaDoor
/- Puts among the arguments. -/
namespace Go.Proofs.YtcbapclpopbjbaaDoor
open Go.ChangeShapes Go.WideShapes Go.ChangeAt Go.RowKit
end Go.Proofs.YtcbapclpopbjbaaDoor
/- Entries among the arguments. -/
namespace Go.Proofs.YtcbapclpopbjbaaDoor
open Go.ChangeShapes Go.WideShapes Go.ChangeAt Go.RowKit Go.Deep

set_option maxRecDepth 100000 in
theorem rdEn_of {H : Type} {enc : TypeId × Value → H} {w : World} {fuel : Nat} {held : Bool} {v : Value} {x : DataW H × List MemPlace} (h : DataW.trod enc Tryd.prog w 0 (fun _ => true) held fuel 30 [v] = some x) : ∃ os, RdJ (fun _ => True) w v os := by
  rcases open_slice Tryd.underlying30 h with ⟨hcs, _⟩ | ⟨a, len, cap, m, n, D, Pl, hcs, _, hl, hm, hmm, _, hx⟩
  · simp at hcs
    exact ⟨[], none, 0, by simp [hcs], by simp, fun h => absurd rfl h⟩
  · simp at hcs
    simp only [if_true] at hmm
    unfold maxLen at hm
    have ce : Tryd.prog.cellsOf 83 = 3 := by kernel_rfl
    have each : ∀ i, i < len → ∃ q : Oj × Value, w.cell? (a.add (i * 3)) = some (.int .i64 q.1.1) ∧ w.cell? (a.add (i * 3 + 1)) = some (.int .i64 q.1.2.1) ∧ w.cell? (a.add (i * 3 + 2)) = some q.2 ∧ RdI (fun _ => True) w q.2 q.1.2.2 := by
      intro i hi
      obtain ⟨cs', h1, h2⟩ := hx i (by omega)
      rw [ce] at h1
      obtain ⟨_, hlen, hcell⟩ := World.cells?_some h1
      obtain ⟨ys, k, hk, hxy, _, hxl, hf⟩ := DataW.trod_struct Tryd.underlying83 h2
      match ys, hxl, cs', hlen with
      | [y0, y1, y2], _, [v0, v1, v2], _ =>
        have g0 := hf 0 _ rfl
        have g1 := hf 1 _ rfl
        have g2 := hf 2 _ rfl
        have e0 := hcell 0 (by omega)
        have e1 := hcell 1 (by omega)
        have e2 := hcell 2 (by omega)
        rw [add_add] at e0 e1 e2
        have c1 : Tryd.prog.cellsOf 2 = 1 := by kernel_rfl
        have c2 : Tryd.prog.cellsOf 29 = 1 := by kernel_rfl
        simp [c1, c2] at g0 g1 g2
        obtain ⟨k0, hk0, _⟩ := DataW.trod_int Tryd.underlying2 g0
        obtain ⟨k1, hk1, _⟩ := DataW.trod_int Tryd.underlying2 g1
        obtain ⟨xs, hxs⟩ := rdI_of g2
        simp at hk0 hk1
        subst hk0 hk1
        exact ⟨((k0, k1, xs), v2), by simpa using e0, by simpa using e1, by simpa using e2, hxs⟩
    obtain ⟨q, hq⟩ := choose_lt each
    have hlen : ((List.range len).map fun i => (q i).1).length = len := by simp
    refine ⟨(List.range len).map fun i => (q i).1, some a, cap, by rw [hcs, hlen], by rw [hlen]; omega, fun hne => ?_⟩
    have hpos : 0 < len := by rw [← hlen]; exact List.length_pos_iff.2 hne
    have e := addr_plain (hq 0 (by omega)).1
    have e0 : a.add (0 * 3) = a := by simp [Addr.add]
    rw [e0] at e
    refine ⟨a.block, a.off, fun i => (q i).2, by rw [← e], trivial, fun i hi => ?_⟩
    rw [hlen] at hi
    have e2 : ((List.range len).map fun i => (q i).1).getD i oj0 = (q i).1 := by simp [List.getD, hi]
    rw [e2]
    obtain ⟨k0, k1, k2, k3⟩ := hq i hi
    exact ⟨by rw [← addr_add, ← e]; exact k0, by rw [Nat.add_assoc, ← addr_add, ← e]; exact k1, by rw [Nat.add_assoc, ← addr_add, ← e]; exact k2, k3⟩

set_option maxRecDepth 100000 in
/-- A list of entries among the arguments. -/
theorem rdEnarg_of {H : Type} {enc : TypeId × Value → H} {w : World} {r : Reach} {b0 : Nat} {v : Value} {d : DataW H} {p : List MemPlace} (hv : Value.okWide Tryd.prog w r b0 30 v) (h : DataW.Trod enc Tryd.prog w 0 (fun _ => true) true 30 v d p) : ∃ os, RdJ (fun _ => True) w v os := by
  obtain ⟨a0, len, cap, rfl⟩ := okWide_slice Tryd.underlying30 hv
  obtain ⟨fuel, hf⟩ := h
  exact rdEn_of (by simpa [Value.cells] using hf)
section
variable {H : Type} {enc : TypeId × Value → H} {w : World}

set_option maxRecDepth 100000 in
/-- A entry among the arguments. -/
theorem rdEntry_of {r : Reach} {b0 : Nat} {v : Value} {d : DataW H} {p : List MemPlace} (hv : Value.okWide Tryd.prog w r b0 83 v) (h : DataW.Trod enc Tryd.prog w 0 (fun _ => true) true 83 v d p) :
    ∃ s t y xs, v = .agg #[.int .i64 s, .int .i64 t, y] ∧ RdI (fun _ => True) w y xs := by
  obtain ⟨v0, v1, v2, y0, y1, y2, m, rfl, _, _, h0, h1, h2⟩ := Joins.open_agg3 Tryd.underlying83 (by kernel_rfl) (by kernel_rfl) hv h
  obtain ⟨s, hs, _⟩ := DataW.trod_int Tryd.underlying2 h0
  obtain ⟨t, ht, _⟩ := DataW.trod_int Tryd.underlying2 h1
  obtain ⟨xs, hx⟩ := rdI_of h2
  simp at hs ht
  subst hs ht
  exact ⟨s, t, v2, xs, rfl, hx⟩

end
end Go.Proofs.YtcbapclpopbjbaaDoor
/- An operation among the arguments. Made by program (genop.py). -/
namespace Go.Proofs.YtcbapclpopbjbaaDoor
open Go.ChangeShapes Go.WideShapes Go.ChangeAt Go.RowKit Go.Deep

set_option maxRecDepth 100000 in
theorem rdOp_of {H : Type} {enc : TypeId × Value → H} {w : World} {r : Reach} {b0 : Nat} {v : Value} {d : DataW H} {p : List MemPlace} (hv : Value.okWide Tryd.prog w r b0 32 v) (h : DataW.Trod enc Tryd.prog w 0 (fun _ => true) true 32 v d p) :
    ∃ (s : Rf) (y z : Value), v = .agg #[.int .i64 s.tm, .int .i64 s.vt, .int .i64 s.si, .int .i64 s.st, y, z] ∧ RdI (fun _ => True) w y s.sn ∧ RdJ (fun _ => True) w z s.lg := by
  obtain ⟨cs, rfl, hsz⟩ := okWide_struct Tryd.underlying32 hv
  have ce : Tryd.prog.cellsOf 32 = 6 := by kernel_rfl
  rw [ce] at hsz
  obtain ⟨fuel, hf0⟩ := h
  obtain ⟨ys, k, hk, hxy, _, hxl, hf⟩ := DataW.trod_struct Tryd.underlying32 hf0
  obtain ⟨l⟩ := cs
  have hsz' : l.length = 6 := hsz
  match ys, hxl, l, hsz' with
  | [y0, y1, y2, y3, y4, y5], _, [v0, v1, v2, v3, v4, v5], _ =>
    have g0 := hf 0 _ rfl
    have g1 := hf 1 _ rfl
    have g2 := hf 2 _ rfl
    have g3 := hf 3 _ rfl
    have g4 := hf 4 _ rfl
    have g5 := hf 5 _ rfl
    have c1 : Tryd.prog.cellsOf 2 = 1 := by kernel_rfl
    have c2 : Tryd.prog.cellsOf 29 = 1 := by kernel_rfl
    have c3 : Tryd.prog.cellsOf 30 = 1 := by kernel_rfl
    simp [c1, c2, c3, Value.cells] at g0 g1 g2 g3 g4 g5
    obtain ⟨k0, hk0, _⟩ := DataW.trod_int Tryd.underlying2 g0
    obtain ⟨k1, hk1, _⟩ := DataW.trod_int Tryd.underlying2 g1
    obtain ⟨k2, hk2, _⟩ := DataW.trod_int Tryd.underlying2 g2
    obtain ⟨k3, hk3, _⟩ := DataW.trod_int Tryd.underlying2 g3
    obtain ⟨xs, hxs⟩ := rdI_of g4
    obtain ⟨os, hos⟩ := rdEn_of g5
    simp at hk0 hk1 hk2 hk3
    subst hk0 hk1 hk2 hk3
    exact ⟨⟨k0, k1, k2, k3, xs, os⟩, v4, v5, rfl, hxs, hos⟩
end Go.Proofs.YtcbapclpopbjbaaDoor
