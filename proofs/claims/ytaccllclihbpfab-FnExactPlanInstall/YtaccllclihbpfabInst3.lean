/- Chapter 3, the model's side: 'l3Install', walked. -/
import Derived.Test.YtaccllclihbpfabHead3
import Derived.Test.YtaccllclihbpfabLog2
import Derived.Test.YtaccllclihbpfabPlanI
namespace Go.Proofs.Ytaccllclihbpfab
open Go.RowKit

/-- The steps of an install. -/
def insTs (xss : List (List Int)) (ps : List (Int × List Int)) (s t : Int) (A : List Int) : List St :=
  ((List.range A.length).map fun (i : Nat) => ((false, 26 + A.getD i 0, slotW xss ps t (i : Int)) : St)) ++ [(true, 0, []), (false, (s + 1) % 2, packL (s + 1) ((t + (A.length : Int)) % 24) []), (true, 0, [])]
theorem insTs_len (xss : List (List Int)) (ps : List (Int × List Int)) (s t : Int) (A : List Int) : (insTs xss ps s t A).length = A.length + 3 := by simp [insTs]
theorem insTs_at (xss : List (List Int)) (ps : List (Int × List Int)) (s t : Int) (A : List Int) (i : Nat) (h : i < A.length) : (insTs xss ps s t A).getD i st0 = (false, 26 + A.getD i 0, slotW xss ps t (i : Int)) := by
  unfold insTs
  rw [List.getD, List.getElem?_append_left (by simpa using h)]
  simp [h]
theorem insTs_0 (xss : List (List Int)) (ps : List (Int × List Int)) (s t : Int) (A : List Int) : (insTs xss ps s t A).getD A.length st0 = (true, 0, []) := by
  unfold insTs
  rw [List.getD, List.getElem?_append_right (by simp)]
  simp
theorem insTs_1 (xss : List (List Int)) (ps : List (Int × List Int)) (s t : Int) (A : List Int) : (insTs xss ps s t A).getD (A.length + 1) st0 = (false, (s + 1) % 2, packL (s + 1) ((t + (A.length : Int)) % 24) []) := by
  unfold insTs
  rw [List.getD, List.getElem?_append_right (by simp)]
  simp
theorem insTs_2 (xss : List (List Int)) (ps : List (Int × List Int)) (s t : Int) (A : List Int) : (insTs xss ps s t A).getD (A.length + 2) st0 = (true, 0, []) := by
  unfold insTs
  rw [List.getD, List.getElem?_append_right (by simp)]
  simp

/-- While steps are made out of a log: the log stays, the steps share its words. -/
structure InAt (w w1 : World) (ts : List St) (V : Nat → Value) (k : Nat) (v : Value) (wr : World) : Prop where
  row : wr.ownsRow 0 27 3 v k (cellsT ts k V)
  blk : ∀ r, v.ownBlock = some r → r = w.heap.size ∨ w1.heap.size ≤ r
  size : w1.heap.size ≤ wr.heap.size
  keep : ∀ b, b < w1.heap.size → b ≠ w.heap.size → wr.heap[b]? = w1.heap[b]?
  below : Below w.heap.size w wr
theorem InAt.cell {w w1 : World} {ts : List St} {V : Nat → Value} {k : Nat} {v : Value} {wr : World} (H : InAt w w1 ts V k v wr) {b o : Nat} {x : Value} (h : w1.cell? ⟨b, o, none⟩ = some x) (hb : b ≠ w.heap.size) : wr.cell? ⟨b, o, none⟩ = some x :=
  (World.cell?_of_block (H.keep b (World.block_lt_of_cell? _ _ h) hb)).trans h
theorem InAt.step {w w1 : World} {ts : List St} {V : Nat → Value} {k g cap : Nat} {v : Value} {wr w3 : World} {o : Obj} (H : InAt w w1 ts V k v wr) (hs : w.heap.size < w1.heap.size)
    (hown : w3.ownsRow 0 27 3 (.slice (some ⟨g, 0, none⟩) (k + 1) cap) (k + 1) (cellsT ts k V ++ [.bool (ts.getD k st0).1, .int .i64 (ts.getD k st0).2.1, V k])) (hg : (wr.alloc o).grownBy w3 v.ownBlock) (hat : v.ownBlock = some g ∨ g = (wr.alloc o).heap.size) :
    InAt w w1 ts V (k + 1) (.slice (some ⟨g, 0, none⟩) (k + 1) cap) w3 := by
  have h1 := H.size
  have h2 := hg.size
  simp only [World.size_alloc] at h2
  refine ⟨by rw [cellsT_next]; exact hown, fun r hr => ?_, by omega, fun b hb hne => ?_, ?_⟩
  · injection hr with hr
    subst hr
    rcases hat with hat | hat
    · exact H.blk _ hat
    · exact Or.inr (by dsimp only; simp at hat; omega)
  · rw [hg.block b (by simp; omega) (fun e => by rcases H.blk b e.symm with h | h <;> omega), Below.heap_alloc _ _ _ (by omega)]
    exact H.keep b hb hne
  · exact (H.below.trans ((below_alloc wr o).mono (by omega))).grown hg (by simp; omega) (fun r hr => by rcases H.blk r hr with h | h <;> omega)

/-- What the steps stand on, once they have all been made. -/
theorem InAt.inner {w w1 : World} {ts : List St} {V : Nat → Value} {Bk : Nat → Nat} {k : Nat} {v z : Value} {wr : World} {lps : List (Int × List Int)} (H : InAt w w1 ts V k v wr) (hin : Inner (fun b => w.heap.size + 1 ≤ b) w1 z.ownBlock k V Bk (fun i => (lps.getD i (0, [])).2)) (hw : ∀ i, i < k → (ts.getD i st0).2.2 = (lps.getD i (0, [])).2) :
    Inner (fun b => w.heap.size ≤ b) wr v.ownBlock k V Bk (fun i => (ts.getD i st0).2.2) := by
  refine ⟨fun i hi => ?_, fun i hi hn => ?_⟩
  · have h := hin.rd i hi
    rw [hw i hi]
    obtain ⟨ao, c, e1, e2, e3⟩ := h
    refine ⟨ao, c, e1, e2, fun hne => ?_⟩
    obtain ⟨b, off, f1, f2, f3⟩ := e3 hne
    have hb := (hin.own i hi hne).1
    exact ⟨b, off, f1, f2, fun j hj => H.cell (f3 j hj) (by rw [f2]; omega)⟩
  · rw [hw i hi] at hn
    obtain ⟨h1, h2, h3, h4, h5⟩ := hin.own i hi hn
    have hsz := H.size
    refine ⟨by omega, by omega, fun o => (World.frozen?_of_block (H.keep (Bk i) h2 (by omega))).trans (h3 o), fun e => ?_, fun j hj hj' ej => h5 j hj (by rw [← hw j hj]; exact hj') ej⟩
    rcases H.blk _ e with h | h <;> omega
end Go.Proofs.Ytaccllclihbpfab
