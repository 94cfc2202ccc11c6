/- Chapter 9: an entry is read back from its words: the mathematics. Made by program (genlawent.py). -/
import Derived.Test.YtkippafmeggjeaaEn5
import Derived.Test.YtkippafmeggjeaaEn3
import Derived.Test.YtkippafmeggjeaaEn6
namespace Go.Proofs.Ytkippafmeggjeaa
open Go.RowKit

theorem list3 {xs : List Int} (h : 3 ≤ xs.length) : xs = [xs.getD 0 0, xs.getD 1 0, xs.getD 2 0] ++ xs.drop 3 := by
  match xs, h with
  | a :: b :: c :: r, _ => rfl
theorem en_back {ws : List Int} (h : ueC ws = 0) : ueR ws = [enO ws] ∧ entF (enO ws) = 0 ∧ peR (enO ws) = ws := by
  unfold ueC at h
  by_cases hw : wordsF ws = 0
  · rw [if_pos hw] at h
    by_cases hb : enB ws
    · refine ⟨by unfold ueR; rw [if_pos ⟨hw, hb⟩], hb.2.2, ?_⟩
      unfold peR
      rw [if_pos hb.2.2]
      have h3 := hb.1
      conv => rhs; rw [list3 h3]
      unfold pkE enO
      dsimp only
      have e : ((ws.drop 3).length : Int) = ws.getD 2 0 := by rw [hb.2.1, List.length_drop]; omega
      rw [e]
    · rw [if_neg hb] at h; exact absurd h (by decide)
  · rw [if_neg hw] at h; exact absurd h hw
theorem words_all {xs : List Int} : wordsF xs = 0 ↔ xs.length ≤ 64 ∧ ∀ x, x ∈ xs → 0 ≤ x ∧ x ≤ 65535 := by
  unfold wordsF wF
  by_cases h1 : 64 < xs.length
  · rw [if_pos h1]; exact ⟨fun h => absurd h (by decide), fun h => by omega⟩
  · rw [if_neg h1]
    by_cases h2 : ∀ i, i < xs.length → 0 ≤ xs.getD i 0 ∧ xs.getD i 0 ≤ 65535
    · rw [if_pos h2]
      refine ⟨fun _ => ⟨by omega, fun x hx => ?_⟩, fun _ => rfl⟩
      obtain ⟨i, hi, rfl⟩ := List.mem_iff_getElem.1 hx
      have := h2 i hi
      simpa [List.getD, hi] using this
    · rw [if_neg h2]
      refine ⟨fun h => absurd h (by decide), fun h => absurd (fun i hi => ?_) h2⟩
      have := h.2 xs[i] (List.getElem_mem hi)
      simpa [List.getD, hi] using this
theorem pk_back {p : Oj} (h : entF p = 0) : ueC (pkE p) = 0 ∧ ueR (pkE p) = [p] ∧ peR p = pkE p ∧ 3 ≤ (pkE p).length := by
  obtain ⟨a, t, xs⟩ := p
  obtain ⟨h1, h2, h3⟩ := entF_zero h
  dsimp only at h1 h2 h3
  have hw : wordsF (pkE (a, t, xs)) = 0 := by
    rw [words_all]
    refine ⟨by simp [pkE]; omega, fun x hx => ?_⟩
    simp only [pkE, List.mem_append, List.mem_cons, List.not_mem_nil, or_false] at hx
    rcases hx with (rfl | rfl | rfl) | hx
    · omega
    · omega
    · omega
    · exact (words_all.1 h3).2 x hx
  have he : enO (pkE (a, t, xs)) = (a, t, xs) := rfl
  have hb : enB (pkE (a, t, xs)) := by
    refine ⟨by simp [pkE], ?_, by rw [he]; exact h⟩
    show (xs.length : Int) = _
    simp [pkE]
    omega
  refine ⟨by unfold ueC; rw [if_pos hw, if_pos hb], by unfold ueR; rw [if_pos ⟨hw, hb⟩, he], by unfold peR; rw [if_pos h], by simp [pkE]⟩
theorem slot_ok {p : Oj} (h : entF p = 0) : sfC p.1 = 0 ∧ (sfC (p.1 + 14) = 0 → sfV (p.1 + 14) = sfV p.1) := by
  obtain ⟨h1, _, _⟩ := entF_zero h
  have e : sfC p.1 = 0 := by unfold sfC; rw [if_pos h1.1]
  refine ⟨e, fun h2 => ?_⟩
  unfold sfC at h2
  unfold sfV
  by_cases h3 : 1 ≤ p.1 + 14 ∧ p.1 + 14 ≤ 9999
  · rw [if_pos h3, if_pos h1.1]; omega
  · rw [if_neg h3] at h2; exact absurd h2 (by decide)
/-- One entry in a new list. -/
theorem RdJ_made {S : Nat → Prop} {w3 : World} {p : Oj} {z : Value} (T : TypeId) (hz : RdI S w3 z p.2.2) :
    RdJ (fun _ => True) (w3.alloc (.cells #[.int .i64 p.1, .int .i64 p.2.1, z] T)) (.slice (some ⟨w3.heap.size, 0, none⟩) 1 1) [p] := by
  refine ⟨_, 1, rfl, by simp, fun _ => ⟨w3.heap.size, 0, fun _ => z, rfl, trivial, fun i hi => ?_⟩⟩
  have e : i = 0 := by simpa using hi
  subst e
  exact ⟨by simp [go_sem], by simp [go_sem], by simp [go_sem], (hz.later (below_alloc _ _)).narrow fun _ _ _ => trivial⟩
end Go.Proofs.Ytkippafmeggjeaa
