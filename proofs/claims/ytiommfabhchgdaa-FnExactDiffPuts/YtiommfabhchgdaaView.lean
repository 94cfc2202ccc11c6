/- Chapter 4, the program's side: '(seen).view', walked: what the map has, rising. -/
import Derived.Test.YtiommfabhchgdaaSeen
import Derived.Test.YtiommfabhchgdaaShelf
import Derived.Test.YtiommfabhchgdaaBuilt2
import Derived.Test.YtiommfabhchgdaaTear
import Derived.Shelf.SortM.Plain
import Derived.Shelf.SortM.SortNone
import Derived.Deep.AppendLies
namespace Go.Proofs.Ytiommfabhchgdaa
open Go.RowKit Go.Maps Go.Sort Go.Shelf
/-- The home blocks below k that have words. -/
def keysTo (M : Int → List Int) (k : Nat) : List Int := ((List.range k).map fun (i : Nat) => (i : Int)).filter fun a => decide (M a ≠ [])
/-- .. with their words: a view. -/
def viewTo (M : Int → List Int) (k : Nat) : List (Int × List Int) := (keysTo M k).map fun a => (a, M a)
theorem keysTo_succ (M : Int → List Int) (k : Nat) : keysTo M (k + 1) = keysTo M k ++ if M (k : Int) = [] then [] else [(k : Int)] := by
  unfold keysTo
  rw [List.range_succ, List.map_append, List.filter_append]
  by_cases h : M (k : Int) = []
  · simp [h]
  · simp [h]
theorem viewTo_succ (M : Int → List Int) (k : Nat) : viewTo M (k + 1) = viewTo M k ++ if M (k : Int) = [] then [] else [((k : Int), M (k : Int))] := by
  unfold viewTo
  rw [keysTo_succ, List.map_append]
  by_cases h : M (k : Int) = []
  · simp [h]
  · simp [h]
theorem keysTo_mem (M : Int → List Int) (k : Nat) (a : Int) : a ∈ keysTo M k ↔ 0 ≤ a ∧ a < (k : Int) ∧ M a ≠ [] := by
  unfold keysTo
  rw [List.mem_filter, List.mem_map]
  constructor
  · rintro ⟨⟨i, hi, rfl⟩, h⟩
    rw [List.mem_range] at hi
    exact ⟨by omega, by omega, by simpa using h⟩
  · rintro ⟨h1, h2, h3⟩
    exact ⟨⟨a.toNat, List.mem_range.2 (by omega), by omega⟩, by simpa using h3⟩
theorem keysTo_lt (M : Int → List Int) (k : Nat) : (keysTo M k).Pairwise (· < ·) := by
  induction k with
  | zero => simp [keysTo]
  | succ k ih =>
    rw [keysTo_succ]
    by_cases h : M (k : Int) = []
    · simpa [h] using ih
    · simp only [h, if_false]
      refine List.pairwise_append.2 ⟨ih, by simp, fun a ha b hb => ?_⟩
      simp at hb
      subst hb
      exact ((keysTo_mem M k a).1 ha).2.1
theorem keysTo_len (M : Int → List Int) (k : Nat) : (keysTo M k).length ≤ k := by
  unfold keysTo
  refine Nat.le_trans (List.length_filter_le _ _) ?_
  simp
theorem keys_sorted {w : World} {B nn : Nat} {D0 : DataW Value} {M : Int → List Int} {ss : List Int} (hown : w.ownsMap Try.prog 2 asIs B nn D0) (hk : ∀ a : Int, has D0 (.int .i64 a) = true ↔ 0 ≤ a ∧ a < 40 ∧ M a ≠ []) (hp : ss.Perm (intKeys D0)) : ss.mergeSort leI = keysTo M 40 := by
  have hlt := keysTo_lt M 40
  have h1 : (keysTo M 40).Perm (intKeys D0) := CollectedI.perm (left := fun _ => false) ⟨hlt.imp (fun h => by omega), fun x => by rw [keysTo_mem, hk x]; simp⟩ hown lawI64 Try.underlying2 (fun _ => rfl)
  rw [mergeSort_of_perm_i (hp.trans h1.symm)]
  exact List.mergeSort_of_pairwise (hlt.imp (fun h => by simp [leI]; omega))

end Go.Proofs.Ytiommfabhchgdaa
