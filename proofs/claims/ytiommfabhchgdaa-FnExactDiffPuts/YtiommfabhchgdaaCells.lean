/- 'impl.cellsOf', walked. -/
import Derived.Test.YtiommfabhchgdaaFlt
import Derived.Test.YtiommfabhchgdaaTear
import Derived.Deep.MidRow
namespace Go.Proofs.Ytiommfabhchgdaa
open Go.RowKit

@[go_sem] theorem run_store_complex (P : Program) (w : World) (a : Addr) (m : Mode) (k : FloatKind) (x y : Nat) : (store a (.complex k x y) m).run P w = stored P w a (.complex k x y) m := run_store P w a _ m rfl

def zc : Value := .complex .f64 0 0
/-- The cell of the i-th of the words. -/
def cellV (xs : List Int) (i : Nat) : Value := if i < xs.length then .complex .f64 (fl (xs.getD i 0).toNat) (fl (i + 1)) else zc
/-- The first k cells are laid. -/
def cellsTo (xs : List Int) (k : Nat) : List Value := (List.range 64).map fun i => if i < k then cellV xs i else zc

theorem cellsTo_len (xs : List Int) (k : Nat) : (cellsTo xs k).length = 64 := by simp [cellsTo]
theorem cellsTo_at (xs : List Int) (k i : Nat) (h : i < 64) : (cellsTo xs k)[i]? = some (if i < k then cellV xs i else zc) := by simp [cellsTo, h]
theorem cellsTo_zero (xs : List Int) : cellsTo xs 0 = List.replicate 64 zc := by
  refine List.ext_getElem? fun i => ?_
  by_cases h : i < 64
  · rw [cellsTo_at xs 0 i h, if_neg (Nat.not_lt_zero _), List.getElem?_replicate, if_pos h]
  · rw [List.getElem?_eq_none (by rw [cellsTo_len]; omega), List.getElem?_eq_none (by simp; omega)]

theorem setCells_size (b : Nat) : ∀ (vs : List Value) (o : Nat) (w : World), (w.setCells b o vs).heap.size = w.heap.size
  | [], _, _ => rfl
  | v :: r, o, w => by simp only [World.setCells]; rw [setCells_size b r]; simp
theorem Below.setCells {B b : Nat} {a w : World} (h : Below B a w) (hb : B ≤ b) : ∀ (o : Nat) (vs : List Value), Below B a (w.setCells b o vs) := by
  intro o vs
  induction vs generalizing o w with
  | nil => exact h
  | cons v r ih => exact ih (h.setCell (p := ⟨b, o, none⟩) hb v) (o + 1)

theorem range_new (w : World) (cs : List Value) (t : TypeId) : (w.alloc (.cells cs.toArray t)).rangeAt w.heap.size 0 cs := by
  intro j v hv
  have h := World.rangeAt_of_block (heap_alloc_new w (.cells cs.toArray t)) 0 cs.length
  simp at h
  have := h j v hv
  simpa using this
theorem there_new (w : World) (cs : List Value) (t : TypeId) (n : Nat) (hn : cs.length = n) : (w.alloc (.cells cs.toArray t)).there w.heap.size 0 n := by
  intro j hj
  refine ⟨(range_new w cs t).isSome j (by omega), by simp [go_sem]⟩

theorem cellsTo_one (xs : List Int) (k : Nat) : ∀ v ∈ cellsTo xs k, v.oneCell' = true := by
  intro v hv
  simp only [cellsTo, List.mem_map] at hv
  obtain ⟨i, _, rfl⟩ := hv
  unfold cellV zc
  split
  · split <;> rfl
  · rfl

/-- What the loop of 'cellsOf' knows behind k words. -/
structure CellsAt (xs : List Int) (w : World) (k : Nat) (wr : World) : Prop where
  below : Below w.heap.size w wr
  size : wr.heap.size = w.heap.size + 2
  res : wr.there w.heap.size 0 64
  free : ∀ o, wr.frozen? ⟨w.heap.size + 1, o, none⟩ = false
  cells : wr.rangeAt (w.heap.size + 1) 0 (cellsTo xs k)

theorem CellsAt.step {xs : List Int} {w wr : World} {k : Nat} (h : CellsAt xs w k wr) (hk : k < 64) (hkx : k < xs.length) : CellsAt xs w (k + 1) (wr.setCell ⟨w.heap.size + 1, k, none⟩ (.complex .f64 (fl (xs.getD k 0).toNat) (fl (k + 1)))) := by
  refine ⟨h.below.setCell (by simp) _, by simpa using h.size, fun j hj => ?_, fun o => by rw [World.frozen?_setCell]; exact h.free o, fun j v hv => ?_⟩
  · rw [World.cell?_setCell_other _ _ _ _ (by simp), World.frozen?_setCell]
    exact h.res j hj
  · have hj : j < 64 := by
      have := (List.getElem?_eq_some_iff.1 hv).1
      rwa [cellsTo_len] at this
    rw [cellsTo_at xs (k + 1) j hj] at hv
    injection hv with hv
    have hold := h.cells j _ (cellsTo_at xs k j hj)
    rw [Nat.zero_add] at hold ⊢
    by_cases e : j = k
    · subst e
      rw [World.cell?_setCell_same _ _ _ hold, ← hv, if_pos (by omega)]
      simp only [cellV]
      rw [if_pos hkx]
    · rw [World.cell?_setCell_other _ _ _ _ (by intro h'; injection h' with _ h2; exact e h2.symm), hold, ← hv]
      by_cases h2 : j < k
      · rw [if_pos h2, if_pos (by omega)]
      · rw [if_neg h2, if_neg (by omega)]

end Go.Proofs.Ytiommfabhchgdaa
