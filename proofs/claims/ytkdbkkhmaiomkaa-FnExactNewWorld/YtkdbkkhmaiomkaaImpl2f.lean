/- Chapter 2, the program's side: 'impl.UnpackHeader', walked. -/
import Derived.Test.YtkdbkkhmaiomkaaImpl2e
import Derived.Test.YtkdbkkhmaiomkaaSpec2d
namespace Go.Proofs.Ytkdbkkhmaiomkaa
open Go.RowKit

theorem append_zeros_at (xs : List Int) (m j : Nat) : (xs ++ List.replicate m 0).getD j 0 = xs.getD j 0 := by
  by_cases h : j < xs.length
  · simp [List.getD, List.getElem?_append_left h]
  · simp only [List.getD, List.getElem?_append_right (show xs.length ≤ j by omega), List.getElem?_replicate]
    rw [List.getElem?_eq_none (show xs.length ≤ j by omega)]
    split <;> rfl
theorem packH_at (s t : Int) (xs : List Int) (i : Nat) : (packH s t xs).getD i 0 = if i = 0 then s else if i = 1 then t else if i = 2 then (xs.length : Int) else xs.getD (i - 3) 0 := by
  have e : packH s t xs = s :: t :: (xs.length : Int) :: (xs ++ List.replicate (29 - xs.length) 0) := by simp [packH]
  rw [e]
  match i with
  | 0 => rfl
  | 1 => rfl
  | 2 => rfl
  | j + 3 =>
    have h := append_zeros_at xs (29 - xs.length) j
    rw [if_neg (by omega), if_neg (by omega), if_neg (by omega), show j + 3 - 3 = j by omega, ← h]
    rfl

theorem take_at {ws : List Int} {f i : Nat} (hi : i < 32) : ((ws.drop f).take 32).getD i 0 = ws.getD (f + i) 0 := by
  simp [List.getD, hi, List.getElem?_drop]

theorem okH_iff {ws : List Int} (hl : ws.length = 64) (hr : ∀ i, i < ws.length → 0 ≤ ws.getD i 0 ∧ ws.getD i 0 ≤ 65535) : okH ((ws.drop 0).take 32) ((ws.drop 32).take 32) ↔ okU ws := by
  obtain ⟨k, hk⟩ : ∃ k : Nat, ws.getD 2 0 = (k : Int) := ⟨_, (Int.toNat_of_nonneg (hr 2 (by omega)).1).symm⟩
  have e0 : ((ws.drop 0).take 32).getD 0 0 = ws.getD 0 0 := take_at (by omega)
  have e1 : ((ws.drop 0).take 32).getD 1 0 = ws.getD 1 0 := take_at (by omega)
  have e2 : ((ws.drop 0).take 32).getD 2 0 = ws.getD 2 0 := take_at (by omega)
  have hL : ((ws.drop 0).take 32).length = 32 := by simp; omega
  have hM : ((ws.drop 32).take 32).length = 32 := by simp; omega
  have hcat : (ws.drop 0).take 32 ++ (ws.drop 32).take 32 = ws := by
    rw [List.drop_zero, List.take_of_length_le (l := ws.drop 32) (by simp; omega), List.take_append_drop]
  unfold okH okU
  rw [e0, e1, e2, hk]
  have key : ∀ (h24 : (k : Int) ≤ 24), adrH ((ws.drop 0).take 32) = addrsOf ws ∧ (addrsOf ws).length = k := by
    intro h24
    unfold adrH addrsOf
    rw [e2, hk]
    refine ⟨?_, by simp; omega⟩
    rw [List.drop_zero, List.drop_take, List.take_take]
    congr 1
    simp
    omega
  constructor
  · rintro ⟨hLM, h24, hF, hz⟩
    obtain ⟨ha, hal⟩ := key h24
    rw [ha] at hF
    refine ⟨hl, h24, hF, ?_⟩
    have hp : packH (ws.getD 0 0) (ws.getD 1 0) (addrsOf ws) = (ws.drop 0).take 32 := by
      refine list_eq_of_at' (by rw [hL, packH_len (by omega)]) fun i hi => ?_
      rw [packH_len (by omega)] at hi
      rw [packH_at, take_at hi, Nat.zero_add, hal]
      split
      · rename_i h; rw [h]
      · split
        · rename_i h; rw [h]
        · split
          · rename_i h; rw [h, hk]
          · by_cases hik : i < 3 + k
            · unfold addrsOf
              rw [hk]
              simp only [List.getD, List.getElem?_take, List.getElem?_drop]
              rw [if_pos (by simp; omega), show 3 + (i - 3) = i by omega]
            · have h1 := hz i (by simp; omega) hi
              rw [take_at hi, Nat.zero_add] at h1
              rw [h1]
              simp only [List.getD]
              rw [List.getElem?_eq_none (by omega)]
              rfl
    unfold packL
    rw [hp]
    conv => lhs; rhs; rw [hLM]
    exact hcat
  · rintro ⟨_, h24, hF, hP⟩
    obtain ⟨ha, hal⟩ := key h24
    unfold packL at hP
    have hpl : (packH (ws.getD 0 0) (ws.getD 1 0) (addrsOf ws)).length = 32 := packH_len (by omega)
    have hsp := List.append_inj (hP.trans hcat.symm) (by rw [hpl, hL])
    refine ⟨hsp.1.symm.trans hsp.2, h24, by rw [ha]; exact hF, fun i h1 h2 => ?_⟩
    rw [← hsp.1, packH_at, if_neg (by omega), if_neg (by omega), if_neg (by omega)]
    simp only [List.getD]
    rw [List.getElem?_eq_none (by simp at h1; omega)]
    rfl

theorem adrH_take {ws : List Int} (hok : okU ws) : adrH ((ws.drop 0).take 32) = addrsOf ws := by
  have e2 : ((ws.drop 0).take 32).getD 2 0 = ws.getD 2 0 := take_at (by omega)
  have h24 := hok.2.1
  unfold adrH addrsOf
  rw [e2, List.drop_zero, List.drop_take, List.take_take]
  congr 1
  omega

end Go.Proofs.Ytkdbkkhmaiomkaa
