/- Ef2 in one text: what each says stands at its head below. -/
import Derived.Test.YtncgpfapepminaaGreatDoorG20
import Derived.Test.YtncgpfapepminaaGreatDoorG19
/- Chapter 10: 'EntriesFrom' of the program, walked. Made by program (genef.py). -/
namespace Go.Proofs.YtncgpfapepminaaGreatDoor
open Go.RowKit

theorem ef_bad {r : Rf} {i n : Int} (h : rfF r ≠ 0) : efC r i n = rfF r ∧ efR r i n = [] := by
  have hc : efC r i n = rfF r := by unfold efC; rw [if_neg h]
  exact ⟨hc, by unfold efR; rw [if_neg (by rw [hc]; exact h)]⟩
theorem ef_rng {r : Rf} {i n : Int} (h : rfF r = 0) (h1 : ¬ (0 ≤ n ∧ n ≤ 14)) : efC r i n = 3 ∧ efR r i n = [] := by
  have hc : efC r i n = 3 := by unfold efC; rw [if_pos h, if_neg h1]
  exact ⟨hc, by unfold efR; rw [if_neg (by rw [hc]; decide)]⟩
theorem ef_lo {r : Rf} {i n : Int} (h : rfF r = 0) (h1 : 0 ≤ n ∧ n ≤ 14) (h2 : i ≤ r.si) : efC r i n = 6 ∧ efR r i n = [] := by
  have hc : efC r i n = 6 := by unfold efC; rw [if_pos h, if_pos h1, if_pos h2]
  exact ⟨hc, by unfold efR; rw [if_neg (by rw [hc]; decide)]⟩
theorem ef_hi {r : Rf} {i n : Int} (h : rfF r = 0) (h1 : 0 ≤ n ∧ n ≤ 14) (h2 : r.si + (r.lg.length : Int) + 1 < i) : efC r i n = 4 ∧ efR r i n = [] := by
  have hc : efC r i n = 4 := by unfold efC; rw [if_pos h, if_pos h1, if_neg (by omega), if_pos (show lastR r + 1 < i from h2)]
  exact ⟨hc, by unfold efR; rw [if_neg (by rw [hc]; decide)]⟩
theorem ef_ok {r : Rf} {i n : Int} (k q : Nat) (h : rfF r = 0) (h1 : 0 ≤ n ∧ n ≤ 14) (h2 : i - (r.si + 1) = (k : Int)) (h3 : k ≤ r.lg.length) (h4 : (q : Int) = n ∨ (q = r.lg.length - k ∧ (q : Int) ≤ n)) : efC r i n = 0 ∧ efR r i n = (r.lg.drop k).take q := by
  have hl : lastR r = r.si + (r.lg.length : Int) := rfl
  have hc : efC r i n = 0 := by unfold efC; rw [if_pos h, if_pos h1, if_neg (by omega), if_neg (by omega)]
  refine ⟨hc, ?_⟩
  have e : (i - r.si - 1).toNat = k := by omega
  unfold efR
  rw [if_pos hc, e]
  rcases h4 with h4 | ⟨h4, h5⟩
  · rw [← h4]; simp
  · rw [List.take_of_length_le (by simp; omega), List.take_of_length_le (by simp; omega)]

end Go.Proofs.YtncgpfapepminaaGreatDoor
