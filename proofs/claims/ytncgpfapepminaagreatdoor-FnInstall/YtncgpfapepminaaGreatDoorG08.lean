/- Cells Impl2b En EnS ObZ EnZ ObV EnV in one text: what each says stands at its head below. -/
import Derived.Test.YtncgpfapepminaaGreatDoorG07
import Derived.Test.YtncgpfapepminaaGreatDoorG03
import Derived.Deep.MidRow
import Derived.Deep.CutRange
import Derived.Test.YtncgpfapepminaaGreatDoorG06
import Derived.Test.YtncgpfapepminaaGreatDoorG05
/- 'impl.cellsOf', walked. -/
namespace Go.Proofs.YtncgpfapepminaaGreatDoor
open Go.RowKit

@[go_sem] theorem run_store_complex (P : Program) (w : World) (a : Addr) (m : Mode) (k : FloatKind) (x y : Nat) : (store a (.complex k x y) m).run P w = stored P w a (.complex k x y) m := run_store P w a _ m rfl

def zc : Value := .complex .f64 0 0
/-- The cell of the i-th of the words. -/
def cellV (xs : List Int) (i : Nat) : Value := if i < xs.length then .complex .f64 (fl (xs.getD i 0).toNat) (fl (i + 1)) else zc
/-- The first k cells are laid. -/
def cellsTo (xs : List Int) (k : Nat) : List Value := (List.range 64).map fun i => if i < k then cellV xs i else zc

theorem cellsTo_len (xs : List Int) (k : Nat) : (cellsTo xs k).length = 64 := by simp [cellsTo]
theorem cellsTo_at (xs : List Int) (k i : Nat) (h : i < 64) : (cellsTo xs k)[i]? = some (if i < k then cellV xs i else zc) := by simp [cellsTo, h]
theorem cellsTo_zero (xs : List Int) : cellsTo xs 0 = List.replicate 64 zc := by
  refine List.ext_getElem? fun i => ?_
  by_cases h : i < 64
  · rw [cellsTo_at xs 0 i h, if_neg (Nat.not_lt_zero _), List.getElem?_replicate, if_pos h]
  · rw [List.getElem?_eq_none (by rw [cellsTo_len]; omega), List.getElem?_eq_none (by simp; omega)]

theorem setCells_size (b : Nat) : ∀ (vs : List Value) (o : Nat) (w : World), (w.setCells b o vs).heap.size = w.heap.size
  | [], _, _ => rfl
  | v :: r, o, w => by simp only [World.setCells]; rw [setCells_size b r]; simp
theorem Below.setCells {B b : Nat} {a w : World} (h : Below B a w) (hb : B ≤ b) : ∀ (o : Nat) (vs : List Value), Below B a (w.setCells b o vs) := by
  intro o vs
  induction vs generalizing o w with
  | nil => exact h
  | cons v r ih => exact ih (h.setCell (p := ⟨b, o, none⟩) hb v) (o + 1)

theorem range_new (w : World) (cs : List Value) (t : TypeId) : (w.alloc (.cells cs.toArray t)).rangeAt w.heap.size 0 cs := by
  intro j v hv
  have h := World.rangeAt_of_block (heap_alloc_new w (.cells cs.toArray t)) 0 cs.length
  simp at h
  have := h j v hv
  simpa using this
theorem there_new (w : World) (cs : List Value) (t : TypeId) (n : Nat) (hn : cs.length = n) : (w.alloc (.cells cs.toArray t)).there w.heap.size 0 n := by
  intro j hj
  refine ⟨(range_new w cs t).isSome j (by omega), by simp [go_sem]⟩

theorem cellsTo_one (xs : List Int) (k : Nat) : ∀ v ∈ cellsTo xs k, v.oneCell' = true := by
  intro v hv
  simp only [cellsTo, List.mem_map] at hv
  obtain ⟨i, _, rfl⟩ := hv
  unfold cellV zc
  split
  · split <;> rfl
  · rfl

/-- What the loop of 'cellsOf' knows behind k words. -/
structure CellsAt (xs : List Int) (w : World) (k : Nat) (wr : World) : Prop where
  below : Below w.heap.size w wr
  size : wr.heap.size = w.heap.size + 2
  res : wr.there w.heap.size 0 64
  free : ∀ o, wr.frozen? ⟨w.heap.size + 1, o, none⟩ = false
  cells : wr.rangeAt (w.heap.size + 1) 0 (cellsTo xs k)

theorem CellsAt.step {xs : List Int} {w wr : World} {k : Nat} (h : CellsAt xs w k wr) (hk : k < 64) (hkx : k < xs.length) : CellsAt xs w (k + 1) (wr.setCell ⟨w.heap.size + 1, k, none⟩ (.complex .f64 (fl (xs.getD k 0).toNat) (fl (k + 1)))) := by
  refine ⟨h.below.setCell (by simp) _, by simpa using h.size, fun j hj => ?_, fun o => by rw [World.frozen?_setCell]; exact h.free o, fun j v hv => ?_⟩
  · rw [World.cell?_setCell_other _ _ _ _ (by simp), World.frozen?_setCell]
    exact h.res j hj
  · have hj : j < 64 := by
      have := (List.getElem?_eq_some_iff.1 hv).1
      rwa [cellsTo_len] at this
    rw [cellsTo_at xs (k + 1) j hj] at hv
    injection hv with hv
    have hold := h.cells j _ (cellsTo_at xs k j hj)
    rw [Nat.zero_add] at hold ⊢
    by_cases e : j = k
    · subst e
      rw [World.cell?_setCell_same _ _ _ hold, ← hv, if_pos (by omega)]
      simp only [cellV]
      rw [if_pos hkx]
    · rw [World.cell?_setCell_other _ _ _ _ (by intro h'; injection h' with _ h2; exact e h2.symm), hold, ← hv]
      by_cases h2 : j < k
      · rw [if_pos h2, if_pos (by omega)]
      · rw [if_neg h2, if_neg (by omega)]

end Go.Proofs.YtncgpfapepminaaGreatDoor
/- Chapter 2, the program's side: 'impl.halfOf', walked. -/
namespace Go.Proofs.YtncgpfapepminaaGreatDoor
open Go.RowKit
/-- The cells of a row of words of 16 bits. -/
def u16s (L : List Int) : List Value := L.map (Value.int .u16)
theorem u16s_len (L : List Int) : (u16s L).length = L.length := by simp [u16s]
theorem u16s_at {L : List Int} {i : Nat} (h : i < L.length) : (u16s L)[i]? = some (.int .u16 (L.getD i 0)) := by simp [u16s, List.getD, h]
theorem u16s_one (L : List Int) : ∀ v ∈ u16s L, v.oneCell' = true := by
  intro v hv
  simp only [u16s, List.mem_map] at hv
  obtain ⟨i, _, rfl⟩ := hv
  rfl
theorem u16s_set (L : List Int) (i : Nat) (x : Int) : (u16s L).set i (.int .u16 x) = u16s (L.set i x) := by simp [u16s, List.map_set]

theorem rangeAt_set {w : World} {b : Nat} {cs : List Value} (h : w.rangeAt b 0 cs) (i : Nat) (x : Value) : (w.setCell ⟨b, i, none⟩ x).rangeAt b 0 (cs.set i x) := by
  intro j v hv
  rw [Nat.zero_add]
  have hj : j < cs.length := by
    have := (List.getElem?_eq_some_iff.1 hv).1
    simpa using this
  have hold := h j _ (List.getElem?_eq_getElem hj)
  rw [Nat.zero_add] at hold
  by_cases e : i = j
  · subst e
    rw [List.getElem?_set_self hj] at hv
    injection hv with hv
    rw [World.cell?_setCell_same _ _ _ hold, hv]
  · rw [List.getElem?_set_ne e] at hv
    rw [World.cell?_setCell_other _ _ _ _ (by intro h'; injection h' with _ h2; exact e h2), hold, ← hv, List.getElem?_eq_getElem hj]

/-- Of the world that the walk stands in no more is kept than R. -/
theorem forget {P : Program} {c : Code} {Q : Exit → Act → World → Prop} {a : Act} {w0 : World} (R : World → Prop) (h0 : R w0) (h : ∀ w, R w → c.wp P Q a w) : c.wp P Q a w0 := h _ h0

/-- An array in a block of the call's own, beside the result's one. -/
structure ArrAt (w : World) (r v n : Nat) (cs : List Value) (wr : World) : Prop where
  below : Below w.heap.size w wr
  res : wr.there r 0 n
  free : ∀ o, wr.frozen? ⟨v, o, none⟩ = false
  cells : wr.rangeAt v 0 cs

theorem ArrAt.step {w wr : World} {r v n : Nat} {cs : List Value} (h : ArrAt w r v n cs wr) (hv : w.heap.size ≤ v) (hrv : r ≠ v) (i : Nat) (x : Value) : ArrAt w r v n (cs.set i x) (wr.setCell ⟨v, i, none⟩ x) := by
  refine ⟨h.below.setCell hv _, fun j hj => ?_, fun o => by rw [World.frozen?_setCell]; exact h.free o, rangeAt_set h.cells i x⟩
  rw [World.cell?_setCell_other _ _ _ _ (by intro h'; injection h' with h2 _; exact hrv h2.symm), World.frozen?_setCell]
  exact h.res j hj

theorem wrap_u16 {x : Int} (h0 : 0 ≤ x) (h1 : x ≤ 65535) : IntKind.u16.wrap x = x := by simp [IntKind.wrap, IntKind.bits, IntKind.signed]; omega

/-- A half of which k addresses are laid. -/
def halfTo (s t n : Int) (xs : List Int) (k : Nat) : List Int := [s, t, n] ++ xs.take k ++ List.replicate (29 - k) 0
theorem halfTo_len {s t n : Int} {xs : List Int} {k : Nat} (h : k ≤ xs.length) (h2 : xs.length ≤ 29) : (halfTo s t n xs k).length = 32 := by simp [halfTo]; omega
theorem halfTo_step {s t n : Int} {xs : List Int} {k : Nat} (h : k < xs.length) (h2 : xs.length ≤ 29) : (halfTo s t n xs k).set (3 + k) (xs.getD k 0) = halfTo s t n xs (k + 1) := by
  unfold halfTo
  have hl : ([s, t, n] ++ xs.take k).length = 3 + k := by simp; omega
  rw [show 29 - k = (29 - (k + 1)) + 1 by omega, List.replicate_succ, List.set_append_right _ _ (by rw [hl]; exact Nat.le_refl _), hl, Nat.sub_self, List.set_cons_zero, List.take_succ_eq_append_getElem h]
  simp only [List.getD, List.getElem?_eq_getElem h, Option.getD_some, List.append_assoc, List.cons_append, List.nil_append]
theorem halfTo_end {s t : Int} {xs : List Int} : halfTo s t (xs.length : Int) xs xs.length = packH s t xs := by simp [halfTo, packH]

end Go.Proofs.YtncgpfapepminaaGreatDoor
/- The laws' helpers over Entry. Made by program (genen.py). -/
namespace Go.Proofs.YtncgpfapepminaaGreatDoor
open Go.RowKit
end Go.Proofs.YtncgpfapepminaaGreatDoor
/- Chapter 9: lists of entries: the laws' helpers over them. Made by program (genen.py). -/
namespace Go.Proofs.YtncgpfapepminaaGreatDoor
open Go.RowKit
end Go.Proofs.YtncgpfapepminaaGreatDoor
/- Chapter 5: lists of objects: how much they hold, and copies of them. Made by program (genobz.py). -/
namespace Go.Proofs.YtncgpfapepminaaGreatDoor
open Go.RowKit

def totX (ps : List Oj) (i : Nat) : Nat := ((ps.take i).map fun p => p.2.2.length).sum
theorem totX_zero (ps : List Oj) : totX ps 0 = 0 := by simp [totX]
theorem totX_succ (ps : List Oj) (i : Nat) (h : i < ps.length) : totX ps (i + 1) = totX ps i + (ps.getD i oj0).2.2.length := by
  unfold totX
  rw [List.take_succ_eq_append_getElem h]
  simp only [List.map_append, List.sum_append, List.map_cons, List.map_nil, List.sum_cons, List.sum_nil]
  simp [List.getD, h]
theorem totX_le (ps : List Oj) : ∀ (i j : Nat), i ≤ j → totX ps i ≤ totX ps j := by
  intro i j h
  unfold totX
  have : ps.take j = ps.take i ++ (ps.drop i).take (j - i) := by
    rw [← List.take_add]; congr 1; omega
  rw [this]; simp
/-- What the loop that copies objects knows behind j of them. -/
def ToJ (os : List Oj) (w : World) (j : Nat) (wr : World) : Prop :=
  Below w.heap.size w wr ∧ w.heap.size < wr.heap.size ∧ (∀ o, wr.frozen? ⟨w.heap.size, o, none⟩ = false) ∧ (∀ o, o < os.length * 3 → ∃ x, wr.cell? ⟨w.heap.size, o, none⟩ = some x) ∧
    ∃ (V : Nat → Value) (Bk : Nat → Nat), Inner (w.heap.size ≤ ·) wr (some w.heap.size) j V Bk (fun i => (os.getD i oj0).2.2) ∧
      ∀ i, i < j → wr.cell? ⟨w.heap.size, i * 3, none⟩ = some (.int .i64 (os.getD i oj0).1) ∧ wr.cell? ⟨w.heap.size, i * 3 + 1, none⟩ = some (.int .i64 (os.getD i oj0).2.1) ∧ wr.cell? ⟨w.heap.size, i * 3 + 2, none⟩ = some (V i)
def setJ (w : World) (B j : Nat) (a f : Int) (z : Value) : World := ((w.setCell ⟨B, j * 3, none⟩ (.int .i64 a)).setCell ⟨B, j * 3 + 1, none⟩ (.int .i64 f)).setCell ⟨B, j * 3 + 2, none⟩ z
theorem setJ_other (w : World) (B j : Nat) (a f : Int) (z : Value) (p : Addr) (h : p.block ≠ B ∨ (p.off ≠ j * 3 ∧ p.off ≠ j * 3 + 1 ∧ p.off ≠ j * 3 + 2)) : (setJ w B j a f z).cell? p = w.cell? p := by
  unfold setJ
  rw [World.cell?_setCell_other _ _ _ _ (by rintro rfl; simp at h), World.cell?_setCell_other _ _ _ _ (by rintro rfl; simp at h), World.cell?_setCell_other _ _ _ _ (by rintro rfl; simp at h)]
theorem grown_onJ {w w' w'' : World} {row : Option Nat} (h : w.grownBy w' row) (h' : w'.grownBy w'' row) : w.grownBy w'' row :=
  ⟨h'.os.trans h.os, h'.tape.trans h.tape, h'.output.trans h.output, Nat.le_trans h.size h'.size, fun b hb hne => (h'.block b (Nat.lt_of_lt_of_le hb h.size) hne).trans (h.block b hb hne)⟩
theorem setJ_grown (w : World) (B j : Nat) (a f : Int) (z : Value) : w.grownBy (setJ w B j a f z) (some B) := by
  have g : ∀ (w : World) (o : Nat) (x : Value), w.grownBy (w.setCell ⟨B, o, none⟩ x) (some B) := fun w o x => by
    have hw : Wr (· = B) w (w.setCell ⟨B, o, none⟩ x) := (Wr.refl (· = B) w).setCell (p := ⟨B, o, none⟩) rfl _
    exact ⟨hw.os, hw.tape, hw.output, hw.size, fun b hb hne => hw.block b hb (fun e => hne (by rw [e]))⟩
  exact grown_onJ (grown_onJ (g _ _ _) (g _ _ _)) (g _ _ _)
theorem ToJ.step {os : List Oj} {w : World} {j : Nat} {wr w1 : World} {z : Value} (h : ToJ os w j wr) (hj : j < os.length) (hb : Below wr.heap.size wr w1) (hz : OwI wr.heap.size w1 z (os.getD j oj0).2.2) :
    ToJ os w (j + 1) (setJ w1 w.heap.size j (os.getD j oj0).1 (os.getD j oj0).2.1 z) := by
  obtain ⟨h1, h2, h3, h4, V, Bk, h5, h6⟩ := h
  have hs := hb.size
  have hc : ∀ o, w1.cell? ⟨w.heap.size, o, none⟩ = wr.cell? ⟨w.heap.size, o, none⟩ := fun o => (bcell hb).1 _ _ h2
  have hf : ∀ o, w1.frozen? ⟨w.heap.size, o, none⟩ = false := fun o => ((bcell hb).2 _ _ h2).trans (h3 o)
  obtain ⟨x0, e0⟩ := h4 (j * 3) (by omega)
  obtain ⟨x1, e1⟩ := h4 (j * 3 + 1) (by omega)
  obtain ⟨x2, e2⟩ := h4 (j * 3 + 2) (by omega)
  have s2 : (setJ w1 w.heap.size j (os.getD j oj0).1 (os.getD j oj0).2.1 z).cell? ⟨w.heap.size, j * 3 + 2, none⟩ = some z := by
    unfold setJ
    refine World.cell?_setCell_same (u := x2) _ _ _ ?_
    rw [World.cell?_setCell_other _ _ _ _ (by simp), World.cell?_setCell_other _ _ _ _ (by simp), hc]; exact e2
  have s1 : (setJ w1 w.heap.size j (os.getD j oj0).1 (os.getD j oj0).2.1 z).cell? ⟨w.heap.size, j * 3 + 1, none⟩ = some (.int .i64 (os.getD j oj0).2.1) := by
    unfold setJ
    rw [World.cell?_setCell_other _ _ _ _ (by simp)]
    refine World.cell?_setCell_same (u := x1) _ _ _ ?_
    rw [World.cell?_setCell_other _ _ _ _ (by simp), hc]; exact e1
  have s0 : (setJ w1 w.heap.size j (os.getD j oj0).1 (os.getD j oj0).2.1 z).cell? ⟨w.heap.size, j * 3, none⟩ = some (.int .i64 (os.getD j oj0).1) := by
    unfold setJ
    rw [World.cell?_setCell_other _ _ _ _ (by simp), World.cell?_setCell_other _ _ _ _ (by simp)]
    refine World.cell?_setCell_same (u := x0) _ _ _ ?_
    rw [hc]; exact e0
  obtain ⟨Bk', hI⟩ := h5.step (P' := (w.heap.size ≤ ·)) (fun _ h => h) (fun b hb' => by have := h1.size; omega) (fun r hr => by injection hr with hr; omega) hb hz (Below.refl _ _) (setJ_grown w1 w.heap.size j (os.getD j oj0).1 (os.getD j oj0).2.1 z) (Or.inl rfl)
  refine ⟨?_, ?_, fun o => ?_, fun o ho => ?_, _, Bk', hI, fun i hi => ?_⟩
  · unfold setJ
    exact (((below_on h1 hb).setCell (Nat.le_refl _) _).setCell (Nat.le_refl _) _).setCell (Nat.le_refl _) _
  · unfold setJ; simp; omega
  · unfold setJ; rw [World.frozen?_setCell, World.frozen?_setCell, World.frozen?_setCell]; exact hf o
  · by_cases a0 : o = j * 3
    · subst a0; exact ⟨_, s0⟩
    · by_cases a1 : o = j * 3 + 1
      · subst a1; exact ⟨_, s1⟩
      · by_cases a2 : o = j * 3 + 2
        · subst a2; exact ⟨_, s2⟩
        · obtain ⟨x, hx⟩ := h4 o ho
          exact ⟨x, by rw [setJ_other _ _ _ _ _ _ _ (Or.inr ⟨a0, a1, a2⟩), hc]; exact hx⟩
  · by_cases e : i = j
    · subst e
      simp only [if_true]
      exact ⟨s0, s1, s2⟩
    · simp only [if_neg e]
      obtain ⟨k0, k1, k2⟩ := h6 i (by omega)
      exact ⟨by rw [setJ_other _ _ _ _ _ _ _ (Or.inr ⟨by dsimp only; omega, by dsimp only; omega, by dsimp only; omega⟩), hc]; exact k0, by rw [setJ_other _ _ _ _ _ _ _ (Or.inr ⟨by dsimp only; omega, by dsimp only; omega, by dsimp only; omega⟩), hc]; exact k1, by rw [setJ_other _ _ _ _ _ _ _ (Or.inr ⟨by dsimp only; omega, by dsimp only; omega, by dsimp only; omega⟩), hc]; exact k2⟩
theorem ToJ.start (os : List Oj) (w : World) (n : Nat) (hn : os.length = n) (t : TypeId) : ToJ os w 0 (w.alloc (.cells (madeCells #[.int .i64 0, .int .i64 0, .slice none 0 0] (n * 3)) t)) := by
  refine ⟨below_alloc _ _, by simp, fun o => by simp [go_sem], fun o ho => ?_, fun _ => .bool false, fun _ => 0, Inner.zero _ _ _ _ _ _, fun i hi => absurd hi (Nat.not_lt_zero _)⟩
  subst hn
  have h : o < (madeCells #[Value.int .i64 0, .int .i64 0, .slice none 0 0] (os.length * 3)).size := by rw [size_madeCells]; exact ho
  exact ⟨_, by simp [go_sem, h]; rfl⟩

end Go.Proofs.YtncgpfapepminaaGreatDoor
/- Chapter 9: lists of entries: how much they hold, and copies of them. Made by program (genen.py). -/
namespace Go.Proofs.YtncgpfapepminaaGreatDoor
open Go.RowKit
theorem Tryz.infoEntry : (Tryz.prog.info? 55).map (fun i => (i.zero, i.size, i.bytes)) = some (some (.agg #[.int .i64 0, .int .i64 0, .slice none 0 0]), 3, 40) := by kernel_rfl

theorem run_make_entry (n : Nat) (hn : n ≤ 1048576) (w : World) :
    (Instr.makeSlice 25 (.int .i64 (n : Int)) (.int .i64 (n : Int))).run Tryz.prog w = .ok (.slice (some ⟨w.heap.size, 0, none⟩) n n) (w.alloc (.cells (madeCells #[.int .i64 0, .int .i64 0, .slice none 0 0] (n * 3)) 55)) := by
  obtain ⟨i, hi, hz, hs, hb⟩ := info_parts Tryz.infoEntry
  have hr := run_make (P := Tryz.prog) w 25 55 i (.agg #[.int .i64 0, .int .i64 0, .slice none 0 0]) Tryz.underlying25 hi hz .i64 .i64 n n (by omega) (Int.le_refl _) (by rw [hb]; omega) (by omega)
  simp only [Int.toNat_natCast, hs] at hr
  exact hr

end Go.Proofs.YtncgpfapepminaaGreatDoor
/- Chapter 5: objects among the arguments. Made by program (genlawj.py). -/
namespace Go.Proofs.YtncgpfapepminaaGreatDoor
open Go.RowKit

theorem totJ_eq (ps : List Oj) : ∀ j, j ≤ ps.length → totJ ps j = totX ps j + 2 * j := by
  intro j
  induction j with
  | zero => intro _; rw [totJ_zero, totX_zero]
  | succ j ih =>
    intro h
    rw [totJ_succ ps j (by omega), totX_succ ps j (by omega), ih (by omega)]
    omega
theorem len_le_totX (ps : List Oj) (i : Nat) (h : i < ps.length) : (ps.getD i oj0).2.2.length ≤ totX ps ps.length := by
  have h1 := totX_succ ps i h
  have h2 := totX_le ps (i + 1) ps.length h
  omega
def szU (qs : List Oj) : Int := (qs.length : Int) + (totX qs qs.length : Int)
theorem szU_nonneg (qs : List Oj) : 0 ≤ szU qs := by unfold szU; omega
theorem smallU {qs : List Oj} (h : szU qs ≤ 1048576) : qs.length ≤ 1048576 ∧ (∀ i, i < qs.length → (qs.getD i oj0).2.2.length ≤ 1048576) ∧ (totJ qs qs.length : Int) ≤ 4194304 := by
  unfold szU at h
  have h3 := totJ_eq qs qs.length (Nat.le_refl _)
  exact ⟨by omega, fun i hi => by have := len_le_totX qs i hi; omega, by omega⟩

/-- Objects in [lo, hi). -/
def IvJ (lo hi : Nat) (w : World) (v : Value) (ps : List Oj) : Prop :=
  ∃ S : Nat → Prop, hi ≤ w.heap.size ∧ (∀ b, S b → lo ≤ b ∧ b < hi) ∧ OwJ S w v ps
theorem OwJ.iv {B : Nat} {w : World} {v : Value} {ps : List Oj} (h : OwJ (fun b => B ≤ b ∧ b < w.heap.size) w v ps) : IvJ B w.heap.size w v ps :=
  ⟨_, Nat.le_refl _, fun _ hb => hb, h⟩
theorem IvJ.wr {lo hi : Nat} {V : Nat → Prop} {w w' : World} {v : Value} {ps : List Oj} (h : IvJ lo hi w v ps) (hw : Wr V w w') (hd : ∀ b, lo ≤ b → b < hi → ¬ V b) : IvJ lo hi w' v ps := by
  obtain ⟨S, h0, h1, h2⟩ := h
  exact ⟨S, Nat.le_trans h0 hw.size, h1, h2.wr hw fun b hb => hd b (h1 b hb).1 (h1 b hb).2⟩
theorem IvJ.later {lo hi : Nat} {w w' : World} {v : Value} {ps : List Oj} (h : IvJ lo hi w v ps) (hb : Below w.heap.size w w') : IvJ lo hi w' v ps :=
  h.wr (Wr.of_below hb fun _ => False) fun _ _ _ => id
theorem IvJ.rd {lo hi : Nat} {w : World} {v : Value} {ps : List Oj} (h : IvJ lo hi w v ps) : RdJ (fun b => lo ≤ b ∧ b < hi) w v ps := by
  obtain ⟨S, h0, h1, h2⟩ := h
  exact (h2.mono h1).rd

/-- Objects in [lo, hi) whose marks stand from k on. -/
def MkJs (k : Int) (lo hi : Nat) (w : World) (v : Value) (ps : List Oj) : Prop := RdJ (fun b => lo ≤ b ∧ b < hi) w v (mkJ k ps)
theorem MkJs.wr {k : Int} {lo hi : Nat} {V : Nat → Prop} {w w' : World} {v : Value} {ps : List Oj} (h : MkJs k lo hi w v ps) (hw : Wr V w w') (hd : ∀ b, lo ≤ b → b < hi → ¬ V b) : MkJs k lo hi w' v ps :=
  RdJ.wr h hw fun b hb => hd b hb.1 hb.2
theorem MkJs.later {k : Int} {lo hi : Nat} {w w' : World} {v : Value} {ps : List Oj} (h : MkJs k lo hi w v ps) (hb : Below w.heap.size w w') : MkJs k lo hi w' v ps := RdJ.later h hb

end Go.Proofs.YtncgpfapepminaaGreatDoor
/- Chapter 9: entries among the arguments; a code with entries. Made by program (genen.py). -/
namespace Go.Proofs.YtncgpfapepminaaGreatDoor
open Go.RowKit


/-- What a call that ends in a code and entries is to leave. -/
def EndsEn (x : Int) (rs : List Oj) (w : World) (e : Ending) (w' : World) : Prop :=
  ∃ z, e = .returned (.agg #[.int .i64 x, z]) ∧ Below w.heap.size w w' ∧ OwJ (fun b => w.heap.size ≤ b ∧ b < w'.heap.size) w' z rs

theorem IvJ.monoE {lo hi lo' : Nat} {w : World} {v : Value} {ps : List Oj} (h : IvJ lo hi w v ps) (h1 : lo' ≤ lo) : IvJ lo' hi w v ps := by
  obtain ⟨S, k0, k1, k2⟩ := h
  exact ⟨S, k0, fun b hb => ⟨Nat.le_trans h1 (k1 b hb).1, (k1 b hb).2⟩, k2⟩
end Go.Proofs.YtncgpfapepminaaGreatDoor
