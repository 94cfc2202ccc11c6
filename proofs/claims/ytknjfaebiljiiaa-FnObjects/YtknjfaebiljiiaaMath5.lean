/- What a merge leaves: the words of a merged block, read. -/
import Derived.Test.YtknjfaebiljiiaaObj7
namespace Go.Proofs.Ytknjfaebiljiiaa

theorem mrgC_zero {ws : List Int} {a f : Int} {xs : List Int} (h : mrgC ws a f xs = 0) : wordsF ws = 0 ∧ objF a f xs = 0 := by
  unfold mrgC at h
  by_cases h1 : wordsF ws = 0
  · rw [if_pos h1] at h; exact ⟨h1, h⟩
  · rw [if_neg h1] at h; exact absurd h h1
theorem words_ok {xs : List Int} (h : wordsF xs = 0) : ∀ i, 0 ≤ xs.getD i 0 ∧ xs.getD i 0 ≤ 65535 := by
  intro i
  by_cases hi : i < xs.length
  · have hl := wordsF_le h
    by_cases hx : 0 ≤ xs.getD i 0 ∧ xs.getD i 0 ≤ 65535
    · exact hx
    · have h3 : wordsF xs = 3 := wF_range hl hi (by omega)
      rw [h] at h3
      exact absurd h3 (by decide)
  · rw [List.getD, List.getElem?_eq_none (by omega)]
    exact ⟨by decide, by decide⟩
theorem mrg_words {ws xs : List Int} {f : Nat} (h1 : wordsF ws = 0) (h2 : wordsF xs = 0) (h3 : f + xs.length ≤ 64) : wordsF (mrgL ws f xs) = 0 := by
  have hl := wordsF_le h1
  refine wF_ok (by rw [mrgL_len]; omega) (fun i hi => ?_)
  rw [mrgL_len] at hi
  have e := mrgL_at ws f xs i hi
  show 0 ≤ (mrgL ws f xs).getD i 0 ∧ (mrgL ws f xs).getD i 0 ≤ 65535
  rw [e]
  split
  · exact words_ok h2 _
  · exact words_ok h1 _
theorem read_ok {ys : List Int} {i k : Nat} (h1 : wordsF ys = 0) (h2 : i + k ≤ 64) : readC ys (i : Int) (k : Int) = 0 ∧ rdL ys (i : Int) (k : Int) = readL ys i k := by
  have hc : 0 ≤ (i : Int) ∧ (i : Int) ≤ 64 ∧ 0 ≤ (k : Int) ∧ (i : Int) + (k : Int) ≤ 64 := by omega
  unfold readC rdL
  rw [if_pos h1, if_pos hc, if_pos h1, if_pos hc]
  exact ⟨rfl, by rw [Int.toNat_natCast, Int.toNat_natCast]⟩
theorem mrg_getD (ws : List Int) (f : Nat) (xs : List Int) (i : Nat) : (mrgL ws f xs).getD i 0 = if f ≤ i ∧ i < f + xs.length then xs.getD (i - f) 0 else ws.getD i 0 := by
  by_cases hi : i < max ws.length (f + xs.length)
  · exact mrgL_at ws f xs i hi
  · rw [if_neg (by omega), List.getD, List.getElem?_eq_none (by rw [mrgL_len]; omega), List.getD, List.getElem?_eq_none (by omega)]
theorem mrg_there (ws : List Int) (f : Nat) (xs : List Int) : readL (mrgL ws f xs) f xs.length = xs := by
  apply list_ext0 (readL_len _ _ _)
  intro i hi
  rw [readL_len] at hi
  rw [readL_at _ _ _ _ hi, mrg_getD, if_pos ⟨by omega, by omega⟩]
  congr 1
  omega
theorem mrg_ahead (ws : List Int) (f : Nat) (xs : List Int) : readL ws 0 f = readL (mrgL ws f xs) 0 f := by
  apply list_ext0 (by rw [readL_len, readL_len])
  intro i hi
  rw [readL_len] at hi
  rw [readL_at _ _ _ _ hi, readL_at _ _ _ _ hi, mrg_getD, if_neg (by omega)]
theorem mrg_behind (ws : List Int) (f : Nat) (xs : List Int) (k : Nat) : readL ws (f + xs.length) k = readL (mrgL ws f xs) (f + xs.length) k := by
  apply list_ext0 (by rw [readL_len, readL_len])
  intro i hi
  rw [readL_len] at hi
  rw [readL_at _ _ _ _ hi, readL_at _ _ _ _ hi, mrg_getD, if_neg (by omega)]
end Go.Proofs.Ytknjfaebiljiiaa
