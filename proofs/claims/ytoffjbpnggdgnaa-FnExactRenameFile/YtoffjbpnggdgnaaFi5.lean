/- Chapter 8: 'PackDir' of both sides, walked. -/
import Derived.Test.YtoffjbpnggdgnaaFi3
import Derived.Test.YtoffjbpnggdgnaaFi4
import Derived.Test.YtoffjbpnggdgnaaRet
import Derived.Deep.RegionLaw
namespace Go.Proofs.Ytoffjbpnggdgnaa
open Go.RowKit

/-- The variable of the result (a code, a list) as it was made. -/
structure ResF (w wr : World) : Prop where
  below : Below w.heap.size w wr
  c0 : wr.cell? ⟨w.heap.size, 0, none⟩ = some (.int .i64 0)
  c1 : wr.cell? ⟨w.heap.size, 1, none⟩ = some (.slice none 0 0)
  fr : ∀ o, wr.frozen? ⟨w.heap.size, o, none⟩ = false
theorem ResF.lt {w wr : World} (h : ResF w wr) : w.heap.size < wr.heap.size := World.block_lt_of_cell? _ _ h.c0
theorem ResF.later {w wr w1 : World} (h : ResF w wr) (hb : Below wr.heap.size wr w1) : ResF w w1 :=
  ⟨below_on h.below hb, cell_later hb h.c0, cell_later hb h.c1, fun o => ((bcell hb).2 _ _ h.lt).trans (h.fr o)⟩
theorem ResF.start (w : World) (t : TypeId) : ResF w (w.alloc (.cells #[.int .i64 0, .slice none 0 0] t)) :=
  ⟨below_alloc _ _, by simp [go_sem], by simp [go_sem], fun o => by simp [go_sem]⟩
theorem ResF.shut {w wr : World} (h : ResF w wr) (x y : Value) : Below w.heap.size w ((wr.setCell ⟨w.heap.size, 0, none⟩ x).setCell ⟨w.heap.size, 1, none⟩ y) := (h.below.setCell (Nat.le_refl _) _).setCell (Nat.le_refl _) _

theorem ownsRow_fullF (w : World) (cs : List Value) (e : TypeId) (hm : cs.length ≤ 1048576) : (w.alloc (.cells cs.toArray e)).ownsRow w.heap.size e 1 (.slice (some ⟨w.heap.size, 0, none⟩) cs.length cs.length) cs.length cs :=
  ⟨by simp, .inr ⟨w.heap.size, cs.length, cs.toArray, rfl, Nat.le_refl _, heap_alloc_new w _, Nat.le_refl _, by unfold maxLen; omega, by simp, by simp⟩⟩
/-- The words of files, one behind the other. -/
def bdF : List Oj → List Int
  | [] => []
  | p :: r => p.1 :: p.2.1 :: (p.2.2 ++ bdF r)
theorem bdF_snoc : ∀ (fs : List Oj) (p : Oj), bdF (fs ++ [p]) = bdF fs ++ ([p.1, p.2.1] ++ p.2.2)
  | [], p => by simp [bdF]
  | q :: r, p => by simp [bdF, bdF_snoc r p]
def pkF (fs : List Oj) : List Int := (fs.length : Int) :: bdF fs
theorem bdF_len : ∀ (fs : List Oj), (bdF fs).length = (blksF fs).length + 2 * fs.length
  | [] => rfl
  | p :: r => by simp [bdF, blksF, bdF_len r]; omega
def pkTo (n : Nat) (fs : List Oj) (k : Nat) : List Int := (n : Int) :: bdF (fs.take k)
theorem pkTo_succ (n : Nat) (fs : List Oj) (k : Nat) (h : k < fs.length) : pkTo n fs (k + 1) = pkTo n fs k ++ [(fs.getD k oj0).1, (fs.getD k oj0).2.1] ++ (fs.getD k oj0).2.2 := by
  unfold pkTo
  rw [List.take_succ_eq_append_getElem h, bdF_snoc]
  simp [List.getD, h]
theorem pkTo_len (n : Nat) (fs : List Oj) (k : Nat) (hk : k ≤ fs.length) : (pkTo n fs k).length ≤ (pkF fs).length := by
  unfold pkTo pkF
  simp only [List.length_cons, bdF_len, List.length_take]
  have := blks_take_len fs k
  omega
theorem pkTo_all {n : Nat} {fs : List Oj} (h : fs.length = n) : pkTo n fs n = pkF fs := by unfold pkTo pkF; rw [← h]; simp
theorem pkF_small {fs : List Oj} (h : filF fs = 0) : (pkF fs).length ≤ 29 := by
  have hi := filF_iff.1 h
  have h1 := blksF_len hi.one
  have h2 := hi.len
  unfold pkF
  simp only [List.length_cons, bdF_len]
  omega
def pdR (fs : List Oj) : List Int := if filF fs = 0 then pkF fs else []
theorem pdR_len (fs : List Oj) : (pdR fs).length ≤ 1048576 := by
  unfold pdR
  by_cases h : filF fs = 0
  · rw [if_pos h]; have := pkF_small h; omega
  · rw [if_neg h]; simp
def pdC (fs : List Oj) : Int := filF fs

end Go.Proofs.Ytoffjbpnggdgnaa
