/- Chapter 5: ReadObject of the program, walked: rows that are made and copied over. -/
import Derived.Test.YtjekggpddpblmaaObj1
import Derived.Test.YtjekggpddpblmaaRet
import Derived.Laws.CopyOwn
namespace Go.Proofs.Ytjekggpddpblmaa
open Go.RowKit

/-- A made row that is known whole. -/
theorem owns_row {w : World} {g n t : Nat} {xs : List Int} (hg : w.heap[g]? = some (.cells (xs.map (Value.int .i64)).toArray t (0, 0))) (hn : xs.length = n) (hm : n ≤ 1048576) :
    w.ownsRow g t 1 (.slice (some ⟨g, 0, none⟩) n n) n (xs.map (Value.int .i64)) :=
  ⟨by simp [hn], Or.inr ⟨g, n, _, rfl, Nat.le_refl _, hg, Nat.le_refl _, by unfold maxLen; omega, by simp [hn], by simp [List.take_of_length_le, hn]⟩⟩
theorem ow_row {w : World} {g n t : Nat} {xs : List Int} (hg : w.heap[g]? = some (.cells (xs.map (Value.int .i64)).toArray t (0, 0))) (hn : xs.length = n) (hm : n ≤ 1048576) :
    OwI g w (.slice (some ⟨g, 0, none⟩) n n) xs := ow_of_owns hn (owns_row hg hn hm) (by omega)
theorem made_rep (n : Nat) : madeCells #[Value.int .i64 0] n = (List.replicate n (Value.int .i64 0)).toArray := by
  apply Array.ext'
  rw [List.toList_toArray, List.eq_replicate_iff]
  refine ⟨by simp [madeCells], fun b hb => ?_⟩
  simp [madeCells] at hb
  obtain ⟨i, _, rfl⟩ := hb
  simp [Nat.mod_one]

/-- The n words from f on; 0 where there are none. -/
def readL (xs : List Int) (f n : Nat) : List Int := (List.range n).map fun i => xs.getD (f + i) 0
theorem readL_len (xs : List Int) (f n : Nat) : (readL xs f n).length = n := by simp [readL]
theorem readL_none (xs : List Int) (f n : Nat) (h : xs.length ≤ f) : readL xs f n = List.replicate n 0 := by
  unfold readL
  rw [List.eq_replicate_iff]
  refine ⟨by simp, fun b hb => ?_⟩
  obtain ⟨i, _, rfl⟩ := List.mem_map.1 hb
  simp [List.getD, List.getElem?_eq_none (show xs.length ≤ f + i by omega)]
theorem splice_read (xs : List Int) (f n : Nat) : splice (List.replicate n (Value.int .i64 0)) 0 (((xs.drop f).take n).map (Value.int .i64)) = (readL xs f n).map (Value.int .i64) := by
  unfold splice readL
  apply List.ext_getElem?
  intro i
  simp only [List.take_zero, List.nil_append, Nat.zero_add, List.length_map, List.map_map]
  by_cases hi : i < n
  · by_cases hl : i < ((xs.drop f).take n).length
    · have hl' : i < n ∧ i < xs.length - f := by simpa [List.length_take, Nat.lt_min] using hl
      rw [List.getElem?_append_left (by simpa using hl)]
      simp [hi, List.getD, List.getElem?_drop, List.getElem?_eq_getElem (show f + i < xs.length by omega)]
    · have hl' : xs.length ≤ f + i := by
        simp [List.length_take, Nat.lt_min] at hl
        omega
      rw [List.getElem?_append_right (by simpa using hl)]
      simp [hi, List.getD, List.getElem?_eq_none hl', List.getElem?_replicate]
      simp [List.length_take] at hl
      omega
  · rw [List.getElem?_eq_none (by simp [List.length_take]; omega), List.getElem?_eq_none (by simp; omega)]

/-- copy, run: what lies there goes over the row that is known whole. -/
theorem copy_run {w : World} {g o dLen dCap b p sLen sCap : Nat} {cur X : List Value} (hg : w.heap[g]? = some (.cells cur.toArray 2 (0, 0))) (hn : X.length = Nat.min sLen dLen)
    (hsrc : ∀ j v, X[j]? = some v → w.cell? ((⟨b, p, none⟩ : Addr).add j) = some v) (hfit : o + X.length ≤ cur.length) (h1 : ∀ v ∈ X, v.oneCell' = true) :
    ∃ w', (Builtin.copy_ #[41, 41] 3 #[.slice (some ⟨g, o, none⟩) dLen dCap, .slice (some ⟨b, p, none⟩) sLen sCap]).run Try.prog w = .ok (goInt X.length) w' ∧
      w'.heap[g]? = some (.cells (splice cur o X).toArray 2 (0, 0)) ∧ Below g w w' :=
  ⟨_, run_copy_row (P := Try.prog) w 41 41 3 2 g o dLen dCap ⟨b, p, none⟩ sLen sCap cur.toArray 2 X Try.underlying41 (by kernel_rfl) hg hn hsrc (by simpa using hfit) h1,
    by simpa [splice] using setRow_heap w g _ _ 2 _ hg, below_setRow (Below.refl _ _) (Nat.le_refl _) _⟩

/-- The code of ReadObject. -/
def readC (xs : List Int) (f n : Int) : Int := if wordsF xs = 0 then (if 0 ≤ f ∧ f ≤ 64 ∧ 0 ≤ n ∧ f + n ≤ 64 then 0 else 3) else wordsF xs
/-- What ReadObject tells. -/
def rdL (xs : List Int) (f n : Int) : List Int := if wordsF xs = 0 then (if 0 ≤ f ∧ f ≤ 64 ∧ 0 ≤ n ∧ f + n ≤ 64 then readL xs f.toNat n.toNat else []) else []
theorem rdL_len (xs : List Int) (f n : Int) : (rdL xs f n).length ≤ 64 := by
  unfold rdL
  split
  · split
    · rw [readL_len]; omega
    · simp
  · simp

end Go.Proofs.Ytjekggpddpblmaa
