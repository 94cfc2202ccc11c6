/- What is told of a disk: torn, flushed, read, put. -/
import Derived.Test.YtaccllclihbpfaaCrash0
import Derived.Test.YtaccllclihbpfaaBlockAt2
import Derived.Test.YtaccllclihbpfaaPutBlock
import Derived.Test.YtaccllclihbpfaaTears
import Derived.Test.YtaccllclihbpfaaFlush
import Derived.Test.YtaccllclihbpfaaDraw9
namespace Go.Proofs.Ytaccllclihbpfaa
open Go.RowKit

theorem tear_none (old next : List Int) : tear old next 0 = old := by
  unfold tear tearA tearB
  rw [if_neg (by decide), if_neg (by decide)]
  by_cases hd : old.drop 32 = []
  · rw [hd, joinT_none]
    exact List.take_of_length_le (by have := congrArg List.length hd; simp at this; omega)
  · rw [joinT_some hd]
    have hl : 32 < old.length := by
      apply Nat.lt_of_not_le
      intro hle
      exact hd (List.drop_eq_nil_of_le hle)
    have e : (old.take 32).length = 32 := by simp; omega
    rw [e]
    simp

/-- What the law reckons of block a behind k puts, as the picks tell. -/
def wantTo (xss : List (List Int)) (ps : List (Int × List Int)) (qs : List Int) (a : Nat) : Nat → List Int
  | 0 => xss.getD a []
  | k + 1 => if (ps.getD k (0, [])).1 = (a : Int) then (if k < qs.length then tearXs (wantTo xss ps qs a k) (ps.getD k (0, [])).2 (qs.getD k 0) else wantTo xss ps qs a k) else wantTo xss ps qs a k

theorem keep_want {xss : List (List Int)} {ps : List (Int × List Int)} {qs : List Int} (hS : Sound xss ps) (hq : picksF qs = 0) {a : Nat} (ha : a < xss.length) :
    ∀ k, k ≤ ps.length → (keepTo xss ps (pkOf false qs) k).getD a [] = wantTo xss ps qs a k ∧ wordsF (wantTo xss ps qs a k) = 0 := by
  intro k
  induction k with
  | zero => intro _; exact ⟨rfl, hS.row a ha⟩
  | succ k ih =>
    intro hk
    obtain ⟨h1, h2⟩ := ih (by omega)
    have hp := hS.put k (by omega)
    have h0 := hS.at0 k (by omega)
    have h01 := hS.at1 k (by omega)
    unfold keepTo wantTo
    by_cases e : (ps.getD k (0, [])).1 = (a : Int)
    · rw [if_pos e, e]
      simp only [Int.toNat_natCast]
      rw [getD_set_same _ _ _ (by rw [keepTo_len]; exact ha), h1]
      unfold pkOf
      rw [if_neg (by decide)]
      by_cases hkq : k < qs.length
      · rw [if_pos hkq]
        have hpk := (picksF_zero hq).2 k hkq
        have hf : tearF (wantTo xss ps qs a k) (ps.getD k (0, [])).2 (qs.getD k 0) = 0 := by unfold tearF; rw [if_pos h2, if_pos hp, if_pos hpk]
        unfold tearXs
        rw [if_pos hf]
        exact ⟨rfl, tear_words h2 hp⟩
      · rw [if_neg hkq]
        have e0 : qs.getD k 0 = 0 := by simp [List.getD, List.getElem?_eq_none (Nat.le_of_not_lt hkq)]
        rw [e0, tear_none]
        exact ⟨rfl, h2⟩
    · rw [if_neg e, getD_set_other _ _ _ _ (by omega)]
      exact ⟨h1, h2⟩

theorem keep_last {xss : List (List Int)} {ps : List (Int × List Int)} (hS : Sound xss ps) {a : Nat} (ha : a < xss.length) :
    ∀ k, k ≤ ps.length → (keepTo xss ps (fun _ => 1) k).getD a [] = blkTo xss ps (a : Int) k := by
  intro k
  induction k with
  | zero => intro _; unfold keepTo blkTo; rw [Int.toNat_natCast]
  | succ k ih =>
    intro hk
    have h1 := ih (by omega)
    have hp := wordsF_zero (hS.put k (by omega))
    have h0 := hS.at0 k (by omega)
    unfold keepTo blkTo
    by_cases e : (ps.getD k (0, [])).1 = (a : Int)
    · rw [if_pos e, e]
      simp only [Int.toNat_natCast]
      rw [getD_set_same _ _ _ (by rw [keepTo_len]; exact ha), tear_all hp.1]
    · rw [if_neg e, getD_set_other _ _ _ _ (by omega)]
      exact h1

theorem firstF_of {xss : List (List Int)} (h : ∀ i, i < xss.length → wordsF (xss.getD i []) = 0) : firstF xss = 0 := by
  induction xss with
  | nil => rfl
  | cons x r ih =>
    unfold firstF
    rw [if_pos (by simpa using h 0 (by simp))]
    exact ih (fun i hi => by simpa using h (i + 1) (by simpa using hi))
theorem firstP_of {n : Nat} {ps : List (Int × List Int)} (h : ∀ i, i < ps.length → (0 ≤ (ps.getD i (0, [])).1 ∧ (ps.getD i (0, [])).1 < (n : Int)) ∧ wordsF (ps.getD i (0, [])).2 = 0) : firstP n ps = 0 := by
  induction ps with
  | nil => rfl
  | cons x r ih =>
    have h0 := h 0 (by simp)
    simp at h0
    unfold firstP
    rw [if_pos h0.1, if_pos h0.2]
    exact ih (fun i hi => by simpa using h (i + 1) (by simpa using hi))
theorem diskF_of {xss : List (List Int)} {ps : List (Int × List Int)} (h : Sound xss ps) : diskF xss ps = 0 := by
  unfold diskF
  rw [if_neg (by have := h.rows; have := h.puts; omega), if_pos (firstF_of h.row)]
  exact firstP_of (fun i hi => ⟨⟨h.at0 i hi, h.at1 i hi⟩, h.put i hi⟩)

theorem snoc_at {α : Type} (ps : List α) (p d : α) (i : Nat) (hi : i < (ps ++ [p]).length) : (i < ps.length ∧ (ps ++ [p]).getD i d = ps.getD i d) ∨ (i = ps.length ∧ (ps ++ [p]).getD i d = p) := by
  by_cases e : i < ps.length
  · exact Or.inl ⟨e, by simp [List.getD, List.getElem?_append_left e]⟩
  · have : i = ps.length := by simp at hi; omega
    subst this
    exact Or.inr ⟨rfl, by simp⟩

theorem Sound.snoc {xss : List (List Int)} {ps : List (Int × List Int)} (h : Sound xss ps) (p : Int × List Int) (hl : ps.length < 200) (h0 : 0 ≤ p.1) (h1 : p.1 < (xss.length : Int)) (hw : wordsF p.2 = 0) : Sound xss (ps ++ [p]) := by
  refine ⟨h.rows, by simp; omega, h.row, fun i hi => ?_, fun i hi => ?_, fun i hi => ?_⟩
  · rcases snoc_at ps p (0, []) i hi with ⟨k, e⟩ | ⟨k, e⟩ <;> rw [e]
    · exact h.at0 i k
    · exact h0
  · rcases snoc_at ps p (0, []) i hi with ⟨k, e⟩ | ⟨k, e⟩ <;> rw [e]
    · exact h.at1 i k
    · exact h1
  · rcases snoc_at ps p (0, []) i hi with ⟨k, e⟩ | ⟨k, e⟩ <;> rw [e]
    · exact h.put i k
    · exact hw
theorem Sound.small {xss : List (List Int)} {ps : List (Int × List Int)} (h : Sound xss ps) : Small xss ps :=
  small_of (by have := h.rows; omega) (fun i => by have := h.len i; omega) (by have := h.puts; omega) (fun i hi => by have := (wordsF_zero (h.put i hi)).1; omega)

theorem words56 : wordsF [5, 6] = 0 := by
  unfold wordsF wF
  rw [if_neg (by simp), if_pos]
  intro i hi
  simp at hi
  have : i = 0 ∨ i = 1 := by omega
  rcases this with rfl | rfl <;> simp

/-- A put at block 0: its code. -/
theorem put56 {xss : List (List Int)} {ps : List (Int × List Int)} (h : Sound xss ps) :
    (putF xss ps 0 [5, 6] = 2 ∧ ps.length = 200) ∨ (putF xss ps 0 [5, 6] = 3 ∧ ps.length ≠ 200) ∨ (putF xss ps 0 [5, 6] = 0 ∧ ps.length < 200 ∧ 0 < xss.length) := by
  have hd := diskF_of h
  by_cases hx : 0 < xss.length
  · have hp := placeF_ok (xss := xss) (ps := ps) (at_ := 0) hd ⟨Int.le_refl _, by omega⟩
    unfold putF
    rw [if_pos hp, if_pos words56]
    by_cases h2 : 200 ≤ ps.length
    · rw [if_pos h2]
      exact Or.inl ⟨rfl, by have := h.puts; omega⟩
    · rw [if_neg h2]
      exact Or.inr (Or.inr ⟨rfl, by omega, hx⟩)
  · have hp := placeF_no (xss := xss) (ps := ps) (at_ := 0) hd (by omega)
    unfold putF
    rw [hp, if_neg (by decide)]
    refine Or.inr (Or.inl ⟨rfl, fun e => ?_⟩)
    have h1 := h.at0 0 (by omega)
    have h2 := h.at1 0 (by omega)
    omega
/-- .. and what is read there then. -/
theorem read56 {xss : List (List Int)} {ps : List (Int × List Int)} (h : Sound xss ps) (hl : ps.length < 200) (hx : 0 < xss.length) : Small xss (ps ++ [(0, [5, 6])]) ∧ blkOf xss (ps ++ [(0, [5, 6])]) 0 = [5, 6] := by
  have hs := h.snoc (0, [5, 6]) hl (Int.le_refl _) (by show (0 : Int) < _; omega) words56
  refine ⟨hs.small, ?_⟩
  unfold blkOf
  rw [if_pos (placeF_ok (diskF_of hs) ⟨Int.le_refl _, by omega⟩)]
  have e : (ps ++ [((0 : Int), ([5, 6] : List Int))]).length = ps.length + 1 := by simp
  rw [e]
  unfold blkTo
  have e2 : (ps ++ [((0 : Int), ([5, 6] : List Int))]).getD ps.length (0, []) = (0, [5, 6]) := by simp
  rw [e2, if_pos rfl]
end Go.Proofs.Ytaccllclihbpfaa
