/- Math2 in one text: what each says stands at its head below. -/
import Derived.Test.YtamknomapabmfaaGreatG19
import Derived.Test.YtamknomapabmfaaGreatG20
import Derived.Test.YtamknomapabmfaaGreatG07
/- A header's words: they have no fault, they are read back, and of two that are torn into one another there is no header. -/
namespace Go.Proofs.YtamknomapabmfaaGreat
open Go.RowKit

theorem packL_half {s t : Int} {xs : List Int} (hf : headF s t xs = 0) : (packL s t xs).take 32 = packH s t xs ∧ (packL s t xs).drop 32 = packH s t xs := by
  have hl := packH_len (s := s) (t := t) (xs := xs) (by have := (headF_zero hf).2.1; omega)
  unfold packL
  exact ⟨by rw [List.take_append_of_le_length (by omega), List.take_of_length_le (by omega)], by rw [List.drop_append_of_le_length (by omega), List.drop_of_length_le (by omega), List.nil_append]⟩
theorem range_append {A B : List Int} (hA : ∀ i, i < A.length → 0 ≤ A.getD i 0 ∧ A.getD i 0 ≤ 65535) (hB : ∀ i, i < B.length → 0 ≤ B.getD i 0 ∧ B.getD i 0 ≤ 65535) : ∀ i, i < (A ++ B).length → 0 ≤ (A ++ B).getD i 0 ∧ (A ++ B).getD i 0 ≤ 65535 := by
  intro i hi
  rw [List.length_append] at hi
  by_cases h : i < A.length
  · have := hA i h
    simpa [List.getD, List.getElem?_append_left h] using this
  · have := hB (i - A.length) (by omega)
    simpa [List.getD, List.getElem?_append_right (show A.length ≤ i by omega)] using this
theorem wordsF_append {A B : List Int} (hl : A.length + B.length ≤ 64) (hA : ∀ i, i < A.length → 0 ≤ A.getD i 0 ∧ A.getD i 0 ≤ 65535) (hB : ∀ i, i < B.length → 0 ≤ B.getD i 0 ∧ B.getD i 0 ≤ 65535) : wordsF (A ++ B) = 0 :=
  wF_ok (by rw [List.length_append]; exact hl) (range_append hA hB)
theorem packH_rng {s t : Int} {xs : List Int} (hf : headF s t xs = 0) : ∀ i, i < (packH s t xs).length → 0 ≤ (packH s t xs).getD i 0 ∧ (packH s t xs).getD i 0 ≤ 65535 := by
  have hl := packH_len (s := s) (t := t) (xs := xs) (by have := (headF_zero hf).2.1; omega)
  intro i hi
  exact packH_range hf i (by omega)
theorem packL_fault {s t : Int} {xs : List Int} (hf : headF s t xs = 0) : wordsF (packL s t xs) = 0 := by
  have hl := packH_len (s := s) (t := t) (xs := xs) (by have := (headF_zero hf).2.1; omega)
  exact wordsF_append (by omega) (packH_rng hf) (packH_rng hf)

/-- What was packed is unpacked. -/
theorem packL_ok {s t : Int} {xs : List Int} (hf : headF s t xs = 0) : okU (packL s t xs) ∧ (packL s t xs).getD 0 0 = s ∧ (packL s t xs).getD 1 0 = t ∧ addrsOf (packL s t xs) = xs := by
  have hx := (headF_zero hf).2.1
  have hl := packH_len (s := s) (t := t) (xs := xs) (by omega)
  have hL := packL_len (s := s) (t := t) (xs := xs) (by omega)
  have hat : ∀ i, i < 32 → (packL s t xs).getD i 0 = (packH s t xs).getD i 0 := fun i hi => by
    unfold packL
    simp [List.getD, List.getElem?_append_left (show i < (packH s t xs).length by omega)]
  have e0 : (packL s t xs).getD 0 0 = s := by rw [hat 0 (by omega), packH_at]; rfl
  have e1 : (packL s t xs).getD 1 0 = t := by rw [hat 1 (by omega), packH_at]; rfl
  have e2 : (packL s t xs).getD 2 0 = (xs.length : Int) := by rw [hat 2 (by omega), packH_at]; rfl
  have ea : addrsOf (packL s t xs) = xs := by
    unfold addrsOf
    rw [e2]
    have e : packL s t xs = s :: t :: (xs.length : Int) :: (xs ++ (List.replicate (29 - xs.length) 0 ++ packH s t xs)) := by simp [packL, packH]
    rw [e]
    simp
  refine ⟨⟨hL, by rw [e2]; omega, ?_, ?_⟩, e0, e1, ea⟩
  · rw [e0, e1, ea]; exact hf
  · rw [e0, e1, ea]
theorem packL_unp {s t : Int} {xs : List Int} (hf : headF s t xs = 0) : unpF (packL s t xs) = 0 ∧ unpS (packL s t xs) = s ∧ unpT (packL s t xs) = t ∧ unpA (packL s t xs) = xs := by
  obtain ⟨h1, h2, h3, h4⟩ := packL_ok hf
  have h0 : unpF (packL s t xs) = 0 := by unfold unpF; rw [if_pos (packL_fault hf), if_pos ((okUb_iff _).2 h1)]
  exact ⟨h0, by unfold unpS; rw [if_pos h0, h2], by unfold unpT; rw [if_pos h0, h3], by unfold unpA; rw [if_pos h0, h4]⟩

/-- Two halves of two headers of different numbers are no header. -/
theorem torn_none {s t s' t' : Int} {xs ys : List Int} (hf : headF s t xs = 0) (hf' : headF s' t' ys = 0) (hne : s ≠ s') : unpF (packH s t xs ++ packH s' t' ys) = 5 := by
  have hl := packH_len (s := s) (t := t) (xs := xs) (by have := (headF_zero hf).2.1; omega)
  have hl' := packH_len (s := s') (t := t') (xs := ys) (by have := (headF_zero hf').2.1; omega)
  have hw : wordsF (packH s t xs ++ packH s' t' ys) = 0 := wordsF_append (by omega) (packH_rng hf) (packH_rng hf')
  unfold unpF
  rw [if_pos hw, if_neg]
  intro hok
  have hok := (okUb_iff _).1 hok
  have hh := (okH_iff hok.1 (wordsF_zero hw).2).2 hok
  have hLM := hh.1
  rw [List.drop_zero, List.take_append_of_le_length (by omega), List.take_of_length_le (by omega), List.drop_append_of_le_length (by omega), List.drop_of_length_le (l := packH s t xs) (by omega), List.nil_append, List.take_of_length_le (by omega)] at hLM
  have := congrArg (fun l => l.getD 0 0) hLM
  simp only [packH_at] at this
  exact hne (by simpa using this)

theorem tear_packs {s t s' t' : Int} {xs ys : List Int} (hf : headF s t xs = 0) (hf' : headF s' t' ys = 0) (p : Int) (h0 : 0 ≤ p) (h3 : p ≤ 3) :
    tearF (packL s t xs) (packL s' t' ys) p = 0 ∧ tearXs (packL s t xs) (packL s' t' ys) p = (if p = 1 ∨ p = 2 then packH s' t' ys else packH s t xs) ++ (if p = 1 ∨ p = 3 then packH s' t' ys else packH s t xs) := by
  have hl := packH_len (s := s) (t := t) (xs := xs) (by have := (headF_zero hf).2.1; omega)
  have hl' := packH_len (s := s') (t := t') (xs := ys) (by have := (headF_zero hf').2.1; omega)
  have hT : tearF (packL s t xs) (packL s' t' ys) p = 0 := by unfold tearF; rw [if_pos (packL_fault hf), if_pos (packL_fault hf'), if_pos ⟨h0, h3⟩]
  refine ⟨hT, ?_⟩
  unfold tearXs
  rw [if_pos hT]
  unfold tear tearA tearB
  rw [(packL_half hf).1, (packL_half hf).2, (packL_half hf').1, (packL_half hf').2]
  have hj : ∀ (A B : List Int), A.length = 32 → B.length = 32 → joinT A B = A ++ B := fun A B hA hB => by
    rw [joinT_some (by intro e; rw [e] at hB; simp at hB), hA]
    simp
  split <;> split <;> exact hj _ _ (by assumption) (by assumption)
end Go.Proofs.YtamknomapabmfaaGreat
