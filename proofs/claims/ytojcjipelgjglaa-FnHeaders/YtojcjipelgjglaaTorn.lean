/- 'impl.tornWords', walked. -/
import Derived.Test.YtojcjipelgjglaaCells3
namespace Go.Proofs.Ytojcjipelgjglaa
open Go.RowKit

/-- Which words a list has, place by place. -/
def dOf (xs : List Int) (i : Nat) : Option Nat := if i < xs.length then some (xs.getD i 0).toNat else none

theorem cellsTo_dOf (xs : List Int) : cellsTo xs xs.length = listD (dOf xs) := by
  unfold cellsTo listD
  refine List.map_congr_left fun i _ => ?_
  unfold cellV cellD dOf
  by_cases h : i < xs.length
  · simp [h]
  · simp [h]

theorem dOf_le {xs : List Int} (h : ∀ i, i < xs.length → 0 ≤ xs.getD i 0 ∧ xs.getD i 0 ≤ 65535) : ∀ i x, dOf xs i = some x → x ≤ 65535 := by
  intro i x hx
  unfold dOf at hx
  split at hx
  · rename_i hi
    injection hx with hx
    have := h i hi
    omega
  · cases hx

/-- D, with E at one half. -/
def overD (D E : Nat → Option Nat) (h : Nat) (i : Nat) : Option Nat := if i / 32 = h then E i else D i

theorem cellD_over (D E : Nat → Option Nat) (h i : Nat) : cellD (overD D E h) i = if i / 32 = h then cellD E i else cellD D i := by
  unfold cellD overD
  by_cases e : i / 32 = h
  · simp [e]
  · simp [e]

theorem range_listD {w : World} {b : Nat} {D : Nat → Option Nat} : w.rangeAt b 0 (listD D) ↔ ∀ i, i < 64 → w.cell? ⟨b, i, none⟩ = some (cellD D i) := by
  constructor
  · intro h i hi
    have := h i (cellD D i) (by simp [listD, hi])
    simpa using this
  · intro h j v hv
    have hj : j < 64 := by
      have := (List.getElem?_eq_some_iff.1 hv).1
      rwa [listD_len] at this
    rw [Nat.zero_add, h j hj, ← hv]
    simp [listD, hj]

theorem range_half {w : World} {b : Nat} {D : Nat → Option Nat} (h : w.rangeAt b 0 (listD D)) (a : Nat) (ha : a < 2) : w.rangeAt b (32 * a) (halfD D a) := by
  intro j v hv
  have hj : j < 32 := by
    have := (List.getElem?_eq_some_iff.1 hv).1
    rwa [halfD_len] at this
  rw [range_listD.1 h (32 * a + j) (by omega), ← hv]
  simp [halfD, hj]

theorem range_over {w : World} {b : Nat} {D E : Nat → Option Nat} (h : w.rangeAt b 0 (listD D)) (a : Nat) (ha : a < 2) : (w.setCells b (32 * a) (halfD E a)).rangeAt b 0 (listD (overD D E a)) := by
  have h0 := range_listD.1 h
  refine range_listD.2 fun i hi => ?_
  rw [cellD_over]
  by_cases e : i / 32 = a
  · rw [if_pos e]
    obtain ⟨j, hj, rfl⟩ : ∃ j, j < 32 ∧ i = 32 * a + j := ⟨i % 32, by omega, by omega⟩
    rw [World.cell?_setCells_in b (halfD E a) (32 * a) w (fun t ht => by rw [halfD_len] at ht; rw [h0 (32 * a + t) (by omega)]; rfl) j (by rw [halfD_len]; exact hj)]
    simp [halfD]
  · rw [if_neg e, World.cell?_setCells_out b (halfD E a) (32 * a) w ⟨b, i, none⟩ (fun _ _ => by rw [halfD_len]; dsimp only; omega)]
    exact h0 i hi
theorem wordsD_take {D : Nat → Option Nat} {A : List Int} (hA : ∀ i, i < A.length → 0 ≤ A.getD i 0) : ∀ k, (∀ i, i < k → D i = dOf A i) → wordsD D k = A.take k := by
  intro k
  induction k with
  | zero => intro _; simp [wordsD]
  | succ k ih =>
    intro h
    have ih := ih (fun i hi => h i (by omega))
    simp only [wordsD]
    rw [h k (by omega), ih]
    unfold dOf
    by_cases hk : k < A.length
    · rw [if_pos hk]
      simp only
      rw [Int.toNat_of_nonneg (hA k hk), List.length_take, Nat.min_eq_left (by omega), Nat.sub_self, List.replicate_zero, List.append_nil, List.take_succ_eq_append_getElem hk]
      simp [List.getD, hk]
    · rw [if_neg hk]
      simp only
      rw [List.take_of_length_le (by omega), List.take_of_length_le (by omega)]

theorem joinT_snoc (a b : List Int) (x : Int) (ha : a.length ≤ 32) : joinT a b ++ List.replicate (32 + b.length - (joinT a b).length) 0 ++ [x] = joinT a (b ++ [x]) := by
  rw [joinT_some (by simp : b ++ [x] ≠ [])]
  by_cases hb : b = []
  · subst hb
    simp [joinT_none]
  · rw [joinT_some hb]
    simp
    omega

theorem wordsD_join {D : Nat → Option Nat} {A B : List Int} (hA : ∀ i, i < A.length → 0 ≤ A.getD i 0) (hB : ∀ i, i < B.length → 0 ≤ B.getD i 0) (h0 : ∀ i, i < 32 → D i = dOf A i) (h1 : ∀ i, 32 ≤ i → i < 64 → D i = dOf B i) :
    ∀ j, j ≤ 32 → wordsD D (32 + j) = joinT (A.take 32) ((B.drop 32).take j) := by
  intro j
  induction j with
  | zero => intro _; rw [List.take_zero, joinT_none]; exact wordsD_take hA 32 h0
  | succ j ih =>
    intro hj
    have ih := ih (by omega)
    rw [← Nat.add_assoc]
    simp only [wordsD]
    rw [h1 (32 + j) (by omega) (by omega), ih]
    unfold dOf
    by_cases hk : 32 + j < B.length
    · rw [if_pos hk]
      simp only
      have hl : ((B.drop 32).take j).length = j := by simp; omega
      have e := joinT_snoc (A.take 32) ((B.drop 32).take j) (B.getD (32 + j) 0) (by simp; omega)
      rw [hl] at e
      rw [Int.toNat_of_nonneg (hB _ hk), e]
      congr 1
      rw [List.take_succ_eq_append_getElem (by simp; omega)]
      simp [List.getD, hk]
    · rw [if_neg hk]
      simp only
      have hd : (B.drop 32).length ≤ j := by simp; omega
      rw [List.take_of_length_le hd, List.take_of_length_le (l := B.drop 32) (i := j + 1) (by omega)]

theorem wordsD_tear {D : Nat → Option Nat} {A B : List Int} (hA : ∀ i, i < A.length → 0 ≤ A.getD i 0) (hB : ∀ i, i < B.length → 0 ≤ B.getD i 0) (hl : B.length ≤ 64) (h0 : ∀ i, i < 32 → D i = dOf A i) (h1 : ∀ i, 32 ≤ i → i < 64 → D i = dOf B i) :
    wordsD D 64 = joinT (A.take 32) (B.drop 32) := by
  have := wordsD_join hA hB h0 h1 32 (Nat.le_refl _)
  have hd : (B.drop 32).length ≤ 32 := by simp; omega
  rw [this, List.take_of_length_le hd]
end Go.Proofs.Ytojcjipelgjglaa
