/- Open OpenP OpenE OpenR OpenOps OpenTh OpenDn Dor in one text: what each says stands at its head below. -/
import Derived.Test.YtcmdgnemkjfckaaGreatDoorG01
import Derived.ProofKit
import Derived.Lib.SmallJoins
import Derived.Deep.SlicePairs
import Derived.Test.YtcmdgnemkjfckaaGreatDoorG03
import Derived.Test.YtcmdgnemkjfckaaGreatDoorG05
import Derived.Test.YtcmdgnemkjfckaaGreatDoorG10
import Derived.Test.YtcmdgnemkjfckaaGreatDoorG22
import Derived.Test.YtcmdgnemkjfckaaGreatDoorRows
import Derived.Test.YtcmdgnemkjfckaaGreatDoorG13
import Derived.ChangeVars
import Derived.LaidLaws
import Derived.LaidHandle
import Derived.Stop.LaidErr
import Derived.Stop.LaidTwo
import Derived.Stop.JoinedAt
/- From the form's readings of arguments to the readings that the walks take. -/
namespace Go.Proofs.YtcmdgnemkjfckaaGreatDoor
open Go.ChangeShapes Go.WideShapes Go.ChangeAt Go.RowKit Go.Deep

theorem Tryz.own : ownKnob Tryz.prog.godebug = none := by kernel_rfl
theorem Tryz.laidOut : laidOutB Tryz.prog = true := by kernel_rfl
theorem Tryz.cellsInt : Tryz.prog.cellsOf 2 = 1 := by kernel_rfl
theorem Tryz.cellsInts : Tryz.prog.cellsOf 22 = 1 := by kernel_rfl

theorem addr_plain {w : World} {a : Addr} {v : Value} (h : w.cell? a = some v) : a = ⟨a.block, a.off, none⟩ := by
  obtain ⟨b, o, s⟩ := a
  cases s with
  | none => rfl
  | some k =>
    unfold World.cell? at h
    revert h
    cases w.heap[(⟨b, o, some k⟩ : Addr).block]? with
    | none => intro h; cases h
    | some ob => cases ob <;> intro h <;> simp at h

theorem addr_add (b o i : Nat) : (⟨b, o, none⟩ : Addr).add i = ⟨b, o + i, none⟩ := Addr.add_lit ..

section
variable {H : Type} {enc : TypeId × Value → H} {w : World}

theorem rdI_of {fuel : Nat} {held : Bool} {v : Value} {x : DataW H × List MemPlace} (h : DataW.trod enc Tryz.prog w 0 (fun _ => true) held fuel 22 [v] = some x) : ∃ xs, RdI (fun _ => True) w v xs := by
  rcases open_ints Tryz.underlying22 Tryz.underlying2 Tryz.cellsInt h with ⟨hcs, _⟩ | ⟨a, len, cap, zs, hcs, _, hl, hm, hz, _, hcell, _⟩
  · simp at hcs
    exact ⟨[], none, 0, by simp [hcs], by simp, fun h => absurd rfl h⟩
  · simp at hcs
    simp only [if_true] at hz
    unfold maxLen at hm
    have hlen : (zs.take len).length = len := by simp; omega
    refine ⟨zs.take len, some a, cap - len, by rw [hcs, hlen, Nat.add_sub_cancel' hl], by rw [hlen]; omega, fun hne => ?_⟩
    have hpos : 0 < len := by rw [← hlen]; exact List.length_pos_iff.2 hne
    have e := addr_plain (hcell 0 (by omega))
    have e0 : a.add 0 = a := by simp [Addr.add]
    rw [e0] at e
    refine ⟨a.block, a.off, by rw [← e], trivial, fun i hi => ?_⟩
    rw [hlen] at hi
    rw [← addr_add, ← e, hcell i (by omega)]
    simp [List.getD, hi]

set_option maxRecDepth 100000 in
/-- A list of numbers among the arguments. -/
theorem rdIarg_of {r : Reach} {b0 : Nat} {v : Value} {d : DataW H} {p : List MemPlace} (hv : Value.okWide Tryz.prog w r b0 22 v) (h : DataW.Trod enc Tryz.prog w 0 (fun _ => true) true 22 v d p) : ∃ xs, RdI (fun _ => True) w v xs := by
  obtain ⟨a0, len, cap, rfl⟩ := okWide_slice Tryz.underlying22 hv
  obtain ⟨fuel, hf⟩ := h
  exact rdI_of (by simpa [Value.cells] using hf)

end
end Go.Proofs.YtcmdgnemkjfckaaGreatDoor
/- Puts among the arguments. -/
namespace Go.Proofs.YtcmdgnemkjfckaaGreatDoor
open Go.ChangeShapes Go.WideShapes Go.ChangeAt Go.RowKit
end Go.Proofs.YtcmdgnemkjfckaaGreatDoor
/- Entries among the arguments. -/
namespace Go.Proofs.YtcmdgnemkjfckaaGreatDoor
open Go.ChangeShapes Go.WideShapes Go.ChangeAt Go.RowKit Go.Deep

set_option maxRecDepth 100000 in
theorem rdEn_of {H : Type} {enc : TypeId × Value → H} {w : World} {fuel : Nat} {held : Bool} {v : Value} {x : DataW H × List MemPlace} (h : DataW.trod enc Tryz.prog w 0 (fun _ => true) held fuel 23 [v] = some x) : ∃ os, RdJ (fun _ => True) w v os := by
  rcases open_slice Tryz.underlying23 h with ⟨hcs, _⟩ | ⟨a, len, cap, m, n, D, Pl, hcs, _, hl, hm, hmm, _, hx⟩
  · simp at hcs
    exact ⟨[], none, 0, by simp [hcs], by simp, fun h => absurd rfl h⟩
  · simp at hcs
    simp only [if_true] at hmm
    unfold maxLen at hm
    have ce : Tryz.prog.cellsOf 86 = 3 := by kernel_rfl
    have each : ∀ i, i < len → ∃ q : Oj × Value, w.cell? (a.add (i * 3)) = some (.int .i64 q.1.1) ∧ w.cell? (a.add (i * 3 + 1)) = some (.int .i64 q.1.2.1) ∧ w.cell? (a.add (i * 3 + 2)) = some q.2 ∧ RdI (fun _ => True) w q.2 q.1.2.2 := by
      intro i hi
      obtain ⟨cs', h1, h2⟩ := hx i (by omega)
      rw [ce] at h1
      obtain ⟨_, hlen, hcell⟩ := World.cells?_some h1
      obtain ⟨ys, k, hk, hxy, _, hxl, hf⟩ := DataW.trod_struct Tryz.underlying86 h2
      match ys, hxl, cs', hlen with
      | [y0, y1, y2], _, [v0, v1, v2], _ =>
        have g0 := hf 0 _ rfl
        have g1 := hf 1 _ rfl
        have g2 := hf 2 _ rfl
        have e0 := hcell 0 (by omega)
        have e1 := hcell 1 (by omega)
        have e2 := hcell 2 (by omega)
        rw [add_add] at e0 e1 e2
        have c1 : Tryz.prog.cellsOf 2 = 1 := by kernel_rfl
        have c2 : Tryz.prog.cellsOf 22 = 1 := by kernel_rfl
        simp [c1, c2] at g0 g1 g2
        obtain ⟨k0, hk0, _⟩ := DataW.trod_int Tryz.underlying2 g0
        obtain ⟨k1, hk1, _⟩ := DataW.trod_int Tryz.underlying2 g1
        obtain ⟨xs, hxs⟩ := rdI_of g2
        simp at hk0 hk1
        subst hk0 hk1
        exact ⟨((k0, k1, xs), v2), by simpa using e0, by simpa using e1, by simpa using e2, hxs⟩
    obtain ⟨q, hq⟩ := choose_lt each
    have hlen : ((List.range len).map fun i => (q i).1).length = len := by simp
    refine ⟨(List.range len).map fun i => (q i).1, some a, cap, by rw [hcs, hlen], by rw [hlen]; omega, fun hne => ?_⟩
    have hpos : 0 < len := by rw [← hlen]; exact List.length_pos_iff.2 hne
    have e := addr_plain (hq 0 (by omega)).1
    have e0 : a.add (0 * 3) = a := by simp [Addr.add]
    rw [e0] at e
    refine ⟨a.block, a.off, fun i => (q i).2, by rw [← e], trivial, fun i hi => ?_⟩
    rw [hlen] at hi
    have e2 : ((List.range len).map fun i => (q i).1).getD i oj0 = (q i).1 := by simp [List.getD, hi]
    rw [e2]
    obtain ⟨k0, k1, k2, k3⟩ := hq i hi
    exact ⟨by rw [← addr_add, ← e]; exact k0, by rw [Nat.add_assoc, ← addr_add, ← e]; exact k1, by rw [Nat.add_assoc, ← addr_add, ← e]; exact k2, k3⟩

set_option maxRecDepth 100000 in
/-- A list of entries among the arguments. -/
theorem rdEnarg_of {H : Type} {enc : TypeId × Value → H} {w : World} {r : Reach} {b0 : Nat} {v : Value} {d : DataW H} {p : List MemPlace} (hv : Value.okWide Tryz.prog w r b0 23 v) (h : DataW.Trod enc Tryz.prog w 0 (fun _ => true) true 23 v d p) : ∃ os, RdJ (fun _ => True) w v os := by
  obtain ⟨a0, len, cap, rfl⟩ := okWide_slice Tryz.underlying23 hv
  obtain ⟨fuel, hf⟩ := h
  exact rdEn_of (by simpa [Value.cells] using hf)
section
variable {H : Type} {enc : TypeId × Value → H} {w : World}

set_option maxRecDepth 100000 in
/-- A entry among the arguments. -/
theorem rdEntry_of {r : Reach} {b0 : Nat} {v : Value} {d : DataW H} {p : List MemPlace} (hv : Value.okWide Tryz.prog w r b0 86 v) (h : DataW.Trod enc Tryz.prog w 0 (fun _ => true) true 86 v d p) :
    ∃ s t y xs, v = .agg #[.int .i64 s, .int .i64 t, y] ∧ RdI (fun _ => True) w y xs := by
  obtain ⟨v0, v1, v2, y0, y1, y2, m, rfl, _, _, h0, h1, h2⟩ := Joins.open_agg3 Tryz.underlying86 (by kernel_rfl) (by kernel_rfl) hv h
  obtain ⟨s, hs, _⟩ := DataW.trod_int Tryz.underlying2 h0
  obtain ⟨t, ht, _⟩ := DataW.trod_int Tryz.underlying2 h1
  obtain ⟨xs, hx⟩ := rdI_of h2
  simp at hs ht
  subst hs ht
  exact ⟨s, t, v2, xs, rfl, hx⟩

end
end Go.Proofs.YtcmdgnemkjfckaaGreatDoor
/- A store among the arguments. -/
namespace Go.Proofs.YtcmdgnemkjfckaaGreatDoor
open Go.ChangeShapes Go.WideShapes Go.ChangeAt Go.RowKit Go.Deep

set_option maxRecDepth 100000 in
theorem rdRaft_of {H : Type} {enc : TypeId × Value → H} {w : World} {r : Reach} {b0 : Nat} {v : Value} {d : DataW H} {p : List MemPlace} (hv : Value.okWide Tryz.prog w r b0 25 v) (h : DataW.Trod enc Tryz.prog w 0 (fun _ => true) true 25 v d p) :
    ∃ (s : Rf) (y z : Value), v = .agg #[.int .i64 s.tm, .int .i64 s.vt, .int .i64 s.si, .int .i64 s.st, y, z] ∧ RdI (fun _ => True) w y s.sn ∧ RdJ (fun _ => True) w z s.lg := by
  obtain ⟨cs, rfl, hsz⟩ := okWide_struct Tryz.underlying25 hv
  have ce : Tryz.prog.cellsOf 25 = 6 := by kernel_rfl
  rw [ce] at hsz
  obtain ⟨fuel, hf0⟩ := h
  obtain ⟨ys, k, hk, hxy, _, hxl, hf⟩ := DataW.trod_struct Tryz.underlying25 hf0
  obtain ⟨l⟩ := cs
  have hsz' : l.length = 6 := hsz
  match ys, hxl, l, hsz' with
  | [y0, y1, y2, y3, y4, y5], _, [v0, v1, v2, v3, v4, v5], _ =>
    have g0 := hf 0 _ rfl
    have g1 := hf 1 _ rfl
    have g2 := hf 2 _ rfl
    have g3 := hf 3 _ rfl
    have g4 := hf 4 _ rfl
    have g5 := hf 5 _ rfl
    have c1 : Tryz.prog.cellsOf 2 = 1 := by kernel_rfl
    have c2 : Tryz.prog.cellsOf 22 = 1 := by kernel_rfl
    have c3 : Tryz.prog.cellsOf 23 = 1 := by kernel_rfl
    simp [c1, c2, c3, Value.cells] at g0 g1 g2 g3 g4 g5
    obtain ⟨k0, hk0, _⟩ := DataW.trod_int Tryz.underlying2 g0
    obtain ⟨k1, hk1, _⟩ := DataW.trod_int Tryz.underlying2 g1
    obtain ⟨k2, hk2, _⟩ := DataW.trod_int Tryz.underlying2 g2
    obtain ⟨k3, hk3, _⟩ := DataW.trod_int Tryz.underlying2 g3
    obtain ⟨xs, hxs⟩ := rdI_of g4
    obtain ⟨os, hos⟩ := rdEn_of g5
    simp at hk0 hk1 hk2 hk3
    subst hk0 hk1 hk2 hk3
    exact ⟨⟨k0, k1, k2, k3, xs, os⟩, v4, v5, rfl, hxs, hos⟩
end Go.Proofs.YtcmdgnemkjfckaaGreatDoor
/- A list of operations among the arguments. Made by program (genops.py). -/
namespace Go.Proofs.YtcmdgnemkjfckaaGreatDoor
open Go.ChangeShapes Go.WideShapes Go.ChangeAt Go.RowKit Go.Deep

set_option maxRecDepth 100000 in
theorem rdOps_of {H : Type} {enc : TypeId × Value → H} {w : World} {fuel : Nat} {held : Bool} {v : Value} {x : DataW H × List MemPlace} (h : DataW.trod enc Tryz.prog w 0 (fun _ => true) held fuel 54 [v] = some x) : ∃ os, RdOps w v os := by
  rcases open_slice Tryz.underlying54 h with ⟨hcs, _⟩ | ⟨a, len, cap, m, n, D, Pl, hcs, _, hl, hm, hmm, _, hx⟩
  · simp at hcs
    exact ⟨[], none, 0, by simp [hcs], by simp, fun h => absurd rfl h⟩
  · simp at hcs
    simp only [if_true] at hmm
    unfold maxLen at hm
    have ce : Tryz.prog.cellsOf 116 = 6 := by kernel_rfl
    have each : ∀ i, i < len → ∃ q : Rf × Value × Value, w.cell? (a.add (i * 6)) = some (.int .i64 q.1.tm) ∧ w.cell? (a.add (i * 6 + 1)) = some (.int .i64 q.1.vt) ∧ w.cell? (a.add (i * 6 + 2)) = some (.int .i64 q.1.si) ∧ w.cell? (a.add (i * 6 + 3)) = some (.int .i64 q.1.st) ∧ w.cell? (a.add (i * 6 + 4)) = some q.2.1 ∧ w.cell? (a.add (i * 6 + 5)) = some q.2.2 ∧ RdI (fun _ => True) w q.2.1 q.1.sn ∧ RdJ (fun _ => True) w q.2.2 q.1.lg := by
      intro i hi
      obtain ⟨cs', h1, h2⟩ := hx i (by omega)
      rw [ce] at h1
      obtain ⟨_, hlen, hcell⟩ := World.cells?_some h1
      obtain ⟨ys, k, hk, hxy, _, hxl, hf⟩ := DataW.trod_struct Tryz.underlying116 h2
      match ys, hxl, cs', hlen with
      | [y0, y1, y2, y3, y4, y5], _, [v0, v1, v2, v3, v4, v5], _ =>
        have g0 := hf 0 _ rfl
        have g1 := hf 1 _ rfl
        have g2 := hf 2 _ rfl
        have g3 := hf 3 _ rfl
        have g4 := hf 4 _ rfl
        have g5 := hf 5 _ rfl
        have e0 := hcell 0 (by omega)
        have e1 := hcell 1 (by omega)
        have e2 := hcell 2 (by omega)
        have e3 := hcell 3 (by omega)
        have e4 := hcell 4 (by omega)
        have e5 := hcell 5 (by omega)
        rw [add_add] at e0 e1 e2 e3 e4 e5
        have c1 : Tryz.prog.cellsOf 2 = 1 := by kernel_rfl
        have c2 : Tryz.prog.cellsOf 22 = 1 := by kernel_rfl
        have c3 : Tryz.prog.cellsOf 23 = 1 := by kernel_rfl
        simp [c1, c2, c3] at g0 g1 g2 g3 g4 g5
        obtain ⟨k0, hk0, _⟩ := DataW.trod_int Tryz.underlying2 g0
        obtain ⟨k1, hk1, _⟩ := DataW.trod_int Tryz.underlying2 g1
        obtain ⟨k2, hk2, _⟩ := DataW.trod_int Tryz.underlying2 g2
        obtain ⟨k3, hk3, _⟩ := DataW.trod_int Tryz.underlying2 g3
        obtain ⟨xs, hxs⟩ := rdI_of g4
        obtain ⟨es, hes⟩ := rdEn_of g5
        simp at hk0 hk1 hk2 hk3
        subst hk0 hk1 hk2 hk3
        exact ⟨(⟨k0, k1, k2, k3, xs, es⟩, v4, v5), by simpa using e0, by simpa using e1, by simpa using e2, by simpa using e3, by simpa using e4, by simpa using e5, hxs, hes⟩
    haveI : Inhabited Rf := ⟨rf0⟩
    obtain ⟨q, hq⟩ := choose_lt each
    have hlen : ((List.range len).map fun i => (q i).1).length = len := by simp
    refine ⟨(List.range len).map fun i => (q i).1, some a, cap, by rw [hcs, hlen], by rw [hlen]; omega, fun hne => ?_⟩
    have hpos : 0 < len := by rw [← hlen]; exact List.length_pos_iff.2 hne
    have e := addr_plain (hq 0 (by omega)).1
    have e0 : a.add (0 * 6) = a := by simp [Addr.add]
    rw [e0] at e
    refine ⟨a.block, a.off, fun i => (q i).2.1, fun i => (q i).2.2, by rw [← e], fun i hi => ?_⟩
    rw [hlen] at hi
    have e2 : ((List.range len).map fun i => (q i).1).getD i rf0 = (q i).1 := by simp [List.getD, hi]
    rw [e2]
    obtain ⟨k0, k1, k2, k3, k4, k5, k6, k7⟩ := hq i hi
    exact ⟨by rw [← addr_add, ← e]; exact k0, by rw [Nat.add_assoc, ← addr_add, ← e]; exact k1, by rw [Nat.add_assoc, ← addr_add, ← e]; exact k2, by rw [Nat.add_assoc, ← addr_add, ← e]; exact k3, by rw [Nat.add_assoc, ← addr_add, ← e]; exact k4, by rw [Nat.add_assoc, ← addr_add, ← e]; exact k5, k6, k7⟩

set_option maxRecDepth 100000 in
/-- A list of operations among the arguments. -/
theorem rdOpsarg_of {H : Type} {enc : TypeId × Value → H} {w : World} {r : Reach} {b0 : Nat} {v : Value} {d : DataW H} {p : List MemPlace} (hv : Value.okWide Tryz.prog w r b0 54 v) (h : DataW.Trod enc Tryz.prog w 0 (fun _ => true) true 54 v d p) : ∃ os, RdOps w v os := by
  obtain ⟨a0, len, cap, rfl⟩ := okWide_slice Tryz.underlying54 hv
  obtain ⟨fuel, hf⟩ := h
  exact rdOps_of (by simpa [Value.cells] using hf)
end Go.Proofs.YtcmdgnemkjfckaaGreatDoor
/- A list of threads among the arguments. Made by program (genth.py). -/
namespace Go.Proofs.YtcmdgnemkjfckaaGreatDoor
open Go.ChangeShapes Go.WideShapes Go.ChangeAt Go.RowKit Go.Deep

set_option maxRecDepth 100000 in
theorem rdThs_of {H : Type} {enc : TypeId × Value → H} {w : World} {fuel : Nat} {held : Bool} {v : Value} {x : DataW H × List MemPlace} (h : DataW.trod enc Tryz.prog w 0 (fun _ => true) held fuel 26 [v] = some x) : ∃ ts, RdThs w v ts := by
  rcases open_slice Tryz.underlying26 h with ⟨hcs, _⟩ | ⟨a, len, cap, m, n, D, Pl, hcs, _, hl, hm, hmm, _, hx⟩
  · simp at hcs
    exact ⟨[], none, 0, by simp [hcs], by simp, fun h => absurd rfl h⟩
  · simp at hcs
    simp only [if_true] at hmm
    unfold maxLen at hm
    have ce : Tryz.prog.cellsOf 56 = 3 := by kernel_rfl
    have each : ∀ i, i < len → ∃ q : Tq × Value, w.cell? (a.add (i * 3)) = some q.2 ∧ w.cell? (a.add (i * 3 + 1)) = some (.int .i64 q.1.pc) ∧ w.cell? (a.add (i * 3 + 2)) = some (.int .i64 q.1.nd) ∧ RdOps w q.2 q.1.os := by
      intro i hi
      obtain ⟨cs', h1, h2⟩ := hx i (by omega)
      rw [ce] at h1
      obtain ⟨_, hlen, hcell⟩ := World.cells?_some h1
      obtain ⟨ys, k, hk, hxy, _, hxl, hf⟩ := DataW.trod_struct Tryz.underlying56 h2
      match ys, hxl, cs', hlen with
      | [y0, y1, y2], _, [v0, v1, v2], _ =>
        have g0 := hf 0 _ rfl
        have g1 := hf 1 _ rfl
        have g2 := hf 2 _ rfl
        have e0 := hcell 0 (by omega)
        have e1 := hcell 1 (by omega)
        have e2 := hcell 2 (by omega)
        rw [add_add] at e0 e1 e2
        have c1 : Tryz.prog.cellsOf 2 = 1 := by kernel_rfl
        have c2 : Tryz.prog.cellsOf 54 = 1 := by kernel_rfl
        simp [c1, c2] at g0 g1 g2
        obtain ⟨os, hos⟩ := rdOps_of g0
        obtain ⟨k1, hk1, _⟩ := DataW.trod_int Tryz.underlying2 g1
        obtain ⟨k2, hk2, _⟩ := DataW.trod_int Tryz.underlying2 g2
        simp at hk1 hk2
        subst hk1 hk2
        exact ⟨(⟨os, k1, k2⟩, v0), by simpa using e0, by simpa using e1, by simpa using e2, hos⟩
    haveI : Inhabited Tq := ⟨tq0⟩
    obtain ⟨q, hq⟩ := choose_lt each
    have hlen : ((List.range len).map fun i => (q i).1).length = len := by simp
    refine ⟨(List.range len).map fun i => (q i).1, some a, cap, by rw [hcs, hlen], by rw [hlen]; omega, fun hne => ?_⟩
    have hpos : 0 < len := by rw [← hlen]; exact List.length_pos_iff.2 hne
    have e := addr_plain (hq 0 (by omega)).1
    have e0 : a.add (0 * 3) = a := by simp [Addr.add]
    rw [e0] at e
    refine ⟨a.block, a.off, fun i => (q i).2, by rw [← e], fun i hi => ?_⟩
    rw [hlen] at hi
    have e2 : ((List.range len).map fun i => (q i).1).getD i tq0 = (q i).1 := by simp [List.getD, hi]
    rw [e2]
    obtain ⟨k0, k1, k2, k3⟩ := hq i hi
    exact ⟨by rw [← addr_add, ← e]; exact k0, by rw [Nat.add_assoc, ← addr_add, ← e]; exact k1, by rw [Nat.add_assoc, ← addr_add, ← e]; exact k2, k3⟩

set_option maxRecDepth 100000 in
/-- A list of threads among the arguments. -/
theorem rdThsarg_of {H : Type} {enc : TypeId × Value → H} {w : World} {r : Reach} {b0 : Nat} {v : Value} {d : DataW H} {p : List MemPlace} (hv : Value.okWide Tryz.prog w r b0 26 v) (h : DataW.Trod enc Tryz.prog w 0 (fun _ => true) true 26 v d p) : ∃ ts, RdThs w v ts := by
  obtain ⟨a0, len, cap, rfl⟩ := okWide_slice Tryz.underlying26 hv
  obtain ⟨fuel, hf⟩ := h
  exact rdThs_of (by simpa [Value.cells] using hf)
end Go.Proofs.YtcmdgnemkjfckaaGreatDoor
/- Lists of what was done among the arguments. -/
namespace Go.Proofs.YtcmdgnemkjfckaaGreatDoor
open Go.ChangeShapes Go.WideShapes Go.ChangeAt Go.RowKit Go.Deep

set_option maxRecDepth 100000 in
theorem rdDn_of {H : Type} {enc : TypeId × Value → H} {w : World} {fuel : Nat} {held : Bool} {v : Value} {x : DataW H × List MemPlace} (h : DataW.trod enc Tryz.prog w 0 (fun _ => true) held fuel 27 [v] = some x) : ∃ os, RdDn (fun _ => True) w v os ∧ ∀ i, i < os.length → (Lit.int .i64 (os.getD i dn0).1).wf = true := by
  rcases open_slice Tryz.underlying27 h with ⟨hcs, _⟩ | ⟨a, len, cap, m, n, D, Pl, hcs, _, hl, hm, hmm, _, hx⟩
  · simp at hcs
    exact ⟨[], ⟨none, 0, by simp [hcs], by simp, fun h => absurd rfl h⟩, fun _ h => absurd h (Nat.not_lt_zero _)⟩
  · simp at hcs
    simp only [if_true] at hmm
    unfold maxLen at hm
    have ce : Tryz.prog.cellsOf 75 = 4 := by kernel_rfl
    have each : ∀ i, i < len → ∃ q : Dn, (w.cell? (a.add (i * 4)) = some (.int .i64 q.1) ∧ w.cell? (a.add (i * 4 + 1)) = some (.int .i64 q.2.1) ∧ w.cell? (a.add (i * 4 + 2)) = some (.int .i64 q.2.2.1) ∧ w.cell? (a.add (i * 4 + 3)) = some (.int .i64 q.2.2.2)) ∧ (Lit.int .i64 q.1).wf = true := by
      intro i hi
      obtain ⟨cs', h1, h2⟩ := hx i (by omega)
      rw [ce] at h1
      obtain ⟨_, hlen, hcell⟩ := World.cells?_some h1
      obtain ⟨ys, k, hk, hxy, _, hxl, hf⟩ := DataW.trod_struct Tryz.underlying75 h2
      match ys, hxl, cs', hlen with
      | [y0, y1, y2, y3], _, [v0, v1, v2, v3], _ =>
        have g0 := hf 0 _ rfl
        have g1 := hf 1 _ rfl
        have g2 := hf 2 _ rfl
        have g3 := hf 3 _ rfl
        have e0 := hcell 0 (by omega)
        have e1 := hcell 1 (by omega)
        have e2 := hcell 2 (by omega)
        have e3 := hcell 3 (by omega)
        rw [add_add] at e0 e1 e2 e3
        have c1 : Tryz.prog.cellsOf 2 = 1 := by kernel_rfl
        simp [c1] at g0 g1 g2 g3
        obtain ⟨k0, hk0, _, hw0⟩ := DataW.trod_int Tryz.underlying2 g0
        obtain ⟨k1, hk1, _⟩ := DataW.trod_int Tryz.underlying2 g1
        obtain ⟨k2, hk2, _⟩ := DataW.trod_int Tryz.underlying2 g2
        obtain ⟨k3, hk3, _⟩ := DataW.trod_int Tryz.underlying2 g3
        simp at hk0 hk1 hk2 hk3
        subst hk0 hk1 hk2 hk3
        exact ⟨(k0, k1, k2, k3), ⟨by simpa using e0, by simpa using e1, by simpa using e2, by simpa using e3⟩, hw0⟩
    obtain ⟨q, hq⟩ := choose_lt each
    have hlen : ((List.range len).map fun i => q i).length = len := by simp
    have e2 : ∀ i, i < len → ((List.range len).map fun i => q i).getD i dn0 = q i := fun i hi => by simp [List.getD, hi]
    refine ⟨(List.range len).map fun i => q i, ⟨some a, cap - len, by rw [hcs, hlen, Nat.add_sub_cancel' hl], by rw [hlen]; omega, fun hne => ?_⟩, fun i hi => ?_⟩
    · have hpos : 0 < len := by rw [← hlen]; exact List.length_pos_iff.2 hne
      have e := addr_plain (hq 0 (by omega)).1.1
      have e0 : a.add (0 * 4) = a := by simp [Addr.add]
      rw [e0] at e
      refine ⟨a.block, a.off, by rw [← e], trivial, fun i hi => ?_⟩
      rw [hlen] at hi
      rw [e2 i hi]
      obtain ⟨⟨k0, k1, k2, k3⟩, _⟩ := hq i hi
      unfold DnAt
      refine ⟨?_, ?_, ?_, ?_⟩
      · rw [← addr_add, ← e]; exact k0
      · rw [Nat.add_assoc, ← addr_add, ← e]; exact k1
      · rw [Nat.add_assoc, ← addr_add, ← e]; exact k2
      · rw [Nat.add_assoc, ← addr_add, ← e]; exact k3
    · rw [hlen] at hi
      rw [e2 i hi]
      exact (hq i hi).2

set_option maxRecDepth 100000 in
/-- A list of what was done among the arguments. -/
theorem rdDnarg_of {H : Type} {enc : TypeId × Value → H} {w : World} {r : Reach} {b0 : Nat} {v : Value} {d : DataW H} {p : List MemPlace} (hv : Value.okWide Tryz.prog w r b0 27 v) (h : DataW.Trod enc Tryz.prog w 0 (fun _ => true) true 27 v d p) : ∃ os, RdDn (fun _ => True) w v os ∧ ∀ i, i < os.length → (Lit.int .i64 (os.getD i dn0).1).wf = true := by
  obtain ⟨a0, len, cap, rfl⟩ := okWide_slice Tryz.underlying27 hv
  obtain ⟨fuel, hf⟩ := h
  exact rdDn_of (by simpa [Value.cells] using hf)
end Go.Proofs.YtcmdgnemkjfckaaGreatDoor
/- What a row that lists the two package variables gives a walk, and a world that meets it. -/
namespace Go.Proofs.YtcmdgnemkjfckaaGreatDoor
open Go.ChangeShapes Go.WideShapes Go.ChangeAt Go.RowKit
open Go.Extern.Stop Go.Stop Go.Extern

theorem Tryz.gN : Tryz.prog.globalNamed "loop.example/g00311/impl.errNotYet" = some 0 := by kernel_rfl
theorem Tryz.gNType : (Tryz.prog.globals[0]?).map (·.type) = some 134 := by kernel_rfl
theorem Tryz.gE : Tryz.prog.globalNamed "errors.errorType" = some 1 := by kernel_rfl
theorem Tryz.rt : (Tryz.prog.cutTypes.find? (·.1 == "internal/reflectlite.rtype")).map (·.2) = some 177 := by kernel_rfl
theorem Tryz.oneRow : ((List.range 227).filter fun t => Tryz.prog.rowNamed t [101, 114, 114, 111, 114]) = [134] := by kernel_rfl
theorem Tryz.tsize : Tryz.prog.types.size = 227 := by kernel_rfl
theorem Tryz.cellsE : Tryz.prog.cellsOf 215 = 1 := by kernel_rfl
theorem Tryz.cellsStr : Tryz.prog.cellsOf 9 = 1 := by kernel_rfl
theorem starE : "*" ++ "errors.errorString" = "*errors.errorString" := by decide
theorem Tryz.rowE (u : TypeId) (h : Tryz.prog.typeName? 3 u = some "*errors.errorString") : u = 192 :=
  typeName_ptr_named (nm := "errors.errorString") (by rw [starE]; kernel_rfl) (by kernel_rfl) (by decide) u (by rw [starE]; exact h)

def laidL : List (String × DataW Unit) := [("errors.errorType", Rows.laid_errors_errorType), ("loop.example/g00311/impl.errNotYet", Rows.laid_loop_example_g00311_impl_errNotYet)]
/-- What the condition gives a walk. -/
theorem gl_of_laid {W : World} (h : laidMetH Tryz.prog laidL W) : ∃ a, W.var? Tryz.prog "loop.example/g00311/impl.errNotYet" = some #[.iface 192 (.pointer (some a))] ∧ Gl W := by
  have h' : laidMet Tryz.prog [("loop.example/g00311/impl.errNotYet", Rows.laid_loop_example_g00311_impl_errNotYet)] W ∧ handlesMet Tryz.prog [("errors.errorType", Rows.laid_errors_errorType)] W := h
  obtain ⟨name, u, ty, e1, e2, e3, e4, e5⟩ := h'.2 _ (List.mem_singleton.2 rfl)
  have en : name = [101, 114, 114, 111, 114] := (Option.some.inj e1).symm
  subst en
  obtain rfl := Option.some.inj (Tryz.rt.symm.trans e2)
  have hm : ty ∈ (List.range 227).filter fun t => Tryz.prog.rowNamed t [101, 114, 114, 111, 114] := List.mem_filter.2 ⟨List.mem_range.2 (by rw [← Tryz.tsize]; exact e3), e4⟩
  rw [Tryz.oneRow] at hm
  obtain rfl := List.mem_singleton.1 hm
  have hh : typeHandle Tryz.prog 134 = .pointer (some ⟨2, 134, none⟩) := by kernel_rfl
  rw [hh] at e5
  obtain ⟨a, s, hv, _⟩ := laid_sentinel h'.1 Tryz.gN Tryz.gNType Tryz.underlying134 Tryz.rowE Tryz.underlying192 Tryz.underlying215 rfl rfl Tryz.underlying9 Tryz.cellsE Tryz.cellsStr
  exact ⟨a, hv, ⟨a, by simpa using World.var?_cell Tryz.gN hv 0⟩, by simpa using World.var?_cell Tryz.gE e5 0⟩
abbrev yetS : ByteArray := { data := #[110, 111, 116, 104, 105, 110, 103, 32, 105, 115, 32, 116, 104, 101, 114, 101, 32, 121, 101, 116] }
noncomputable def lowW : Nat := (World.holding Tryz.prog default ⟨#[], #[], []⟩).heap.size
noncomputable def laidWorld (os : Os) : World :=
  let w0 := World.holding Tryz.prog os ⟨#[.cells #[.string yetS] 215], #[], []⟩
  { w0 with heap := (w0.heap.modify 0 fun
      | .cells _ t frozen => .cells #[.iface 192 (.pointer (some ⟨lowW, 0, none⟩))] t frozen
      | o => o).modify 1 fun
      | .cells _ t frozen => .cells #[.iface 177 (.agg #[.pointer (some ⟨2, 134, none⟩)])] t frozen
      | o => o }
theorem laidWorld_met (os : Os) (args : Array Value) : laidMetH Tryz.prog laidL ((laidWorld os).forCall (fun _ _ => 0) ⟨#[], args, []⟩).memory :=
  laidMetH_of_parts (laidMet_of_run (ps := [.cell 0 0, .cell lowW 0]) 8 (by kernel_rfl) (by kernel_rfl) (by kernel_rfl)) (by kernel_rfl)
theorem vars_read {H : Type} (enc : TypeId × Value → H) {W : World} {x0 : Value} (h0 : W.var? Tryz.prog "loop.example/g00311/impl.errNotYet" = some #[x0]) (i0 : IsIface x0) (sp : Nat → Bool) :
    DataW.TrodVars enc Tryz.prog W sp ["loop.example/g00311/impl.errNotYet"] [tok enc x0] [.cell 0 0] :=
  ⟨0, 134, #[x0], 1, [], [], Tryz.gN, Tryz.gNType, h0, trod_held Tryz.underlying134 i0 0, rfl, rfl⟩
theorem var_below {W W' : World} {n : String} {cs : Array Value} (h : W.var? Tryz.prog n = some cs) (hb : Below W.heap.size W W') : W'.var? Tryz.prog n = some cs := by
  unfold World.var? at h ⊢
  cases hg : Tryz.prog.globalNamed n with
  | none => simp [hg] at h
  | some g =>
    simp only [hg, Option.bind_some] at h ⊢
    have hlt : g < W.heap.size := by
      rcases Nat.lt_or_ge g W.heap.size with h' | h'
      · exact h'
      · simp [Array.getElem?_eq_none h'] at h
    rw [hb.block g hlt]
    exact h
end Go.Proofs.YtcmdgnemkjfckaaGreatDoor
