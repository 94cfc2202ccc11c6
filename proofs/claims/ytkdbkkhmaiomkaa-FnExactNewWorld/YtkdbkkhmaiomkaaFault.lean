/- What is wrong with words and with a disk: 'wordsFault', 'DiskFault' of the program and of the model answer one and the same number. -/
import Derived.Test.YtkdbkkhmaiomkaaBase
namespace Go.Proofs.Ytkdbkkhmaiomkaa
open Go.RowKit

/-- The fault of n words. -/
def wF (X : Nat → Int) (n : Nat) : Int := if 64 < n then 2 else if (∀ i, i < n → 0 ≤ X i ∧ X i ≤ 65535) then 0 else 3
theorem wF_many {X : Nat → Int} {n : Nat} (h : 64 < n) : wF X n = 2 := by unfold wF; rw [if_pos h]
theorem wF_ok {X : Nat → Int} {n : Nat} (h : n ≤ 64) (h' : ∀ i, i < n → 0 ≤ X i ∧ X i ≤ 65535) : wF X n = 0 := by unfold wF; rw [if_neg (by omega), if_pos h']
theorem wF_range {X : Nat → Int} {n : Nat} (h : n ≤ 64) {i : Nat} (hi : i < n) (h' : X i < 0 ∨ 65535 < X i) : wF X n = 3 := by
  unfold wF; rw [if_neg (by omega), if_neg (fun k => by have := k i hi; omega)]
def wordsF (xs : List Int) : Int := wF (fun i => xs.getD i 0) xs.length

theorem l1In_yes (v lo hi : Int) (h1 : lo ≤ v) (h2 : v ≤ hi) (w : World) :
    Calls Try.prog 15 #[.int .i64 v, .int .i64 lo, .int .i64 hi] w fun e w' => e = .returned (.bool true) ∧ w' = w := by
  go_enter Try.func15, Try.ntmps15
  go_wp2
  go_ret
  exact ⟨rfl, rfl⟩

theorem l1In_no (v lo hi : Int) (h : v < lo ∨ hi < v) (w : World) :
    Calls Try.prog 15 #[.int .i64 v, .int .i64 lo, .int .i64 hi] w fun e w' => e = .returned (.bool false) ∧ w' = w := by
  by_cases h1 : v < lo
  · go_enter Try.func15, Try.ntmps15
    go_wp2
    go_ret
    exact ⟨by simp, rfl⟩
  · have h2 : hi < v := by omega
    clear h
    go_enter Try.func15, Try.ntmps15
    go_wp2
    go_ret
    exact ⟨by simp [h2], rfl⟩

/-- The first fault among rows. -/
def firstF : List (List Int) → Int
  | [] => 0
  | xs :: r => if wordsF xs = 0 then firstF r else wordsF xs
/-- The first fault among puts, on a disk of n blocks. -/
def firstP (n : Nat) : List (Int × List Int) → Int
  | [] => 0
  | p :: r => if 0 ≤ p.1 ∧ p.1 < (n : Int) then (if wordsF p.2 = 0 then firstP n r else wordsF p.2) else 3
def diskF (xss : List (List Int)) (ps : List (Int × List Int)) : Int :=
  if 70 < xss.length ∨ 200 < ps.length then 2 else if firstF xss = 0 then firstP xss.length ps else firstF xss

theorem firstF_ok {xss : List (List Int)} {k : Nat} (h : k < xss.length) (h0 : wordsF (xss.getD k []) = 0) : firstF (xss.drop k) = firstF (xss.drop (k + 1)) := by
  rw [List.drop_eq_getElem_cons h]
  simp only [firstF]
  rw [if_pos (by simpa [List.getD, h] using h0)]
theorem firstF_no {xss : List (List Int)} {k : Nat} (h : k < xss.length) (h0 : wordsF (xss.getD k []) ≠ 0) : firstF (xss.drop k) = wordsF (xss.getD k []) := by
  rw [List.drop_eq_getElem_cons h]
  simp only [firstF]
  rw [if_neg (by simpa [List.getD, h] using h0)]
  simp [List.getD, h]
theorem firstF_end {xss : List (List Int)} {k : Nat} (h : xss.length ≤ k) : firstF (xss.drop k) = 0 := by rw [List.drop_eq_nil_of_le h]; rfl
theorem firstP_ok {n : Nat} {ps : List (Int × List Int)} {k : Nat} (h : k < ps.length) (ha : 0 ≤ (ps.getD k (0, [])).1 ∧ (ps.getD k (0, [])).1 < (n : Int)) (h0 : wordsF (ps.getD k (0, [])).2 = 0) : firstP n (ps.drop k) = firstP n (ps.drop (k + 1)) := by
  rw [List.drop_eq_getElem_cons h]
  simp only [firstP]
  simp only [List.getD, List.getElem?_eq_getElem h, Option.getD_some] at ha h0
  rw [if_pos ha, if_pos h0]
theorem firstP_no {n : Nat} {ps : List (Int × List Int)} {k : Nat} (h : k < ps.length) (ha : 0 ≤ (ps.getD k (0, [])).1 ∧ (ps.getD k (0, [])).1 < (n : Int)) (h0 : wordsF (ps.getD k (0, [])).2 ≠ 0) : firstP n (ps.drop k) = wordsF (ps.getD k (0, [])).2 := by
  rw [List.drop_eq_getElem_cons h]
  simp only [firstP]
  simp only [List.getD, List.getElem?_eq_getElem h, Option.getD_some] at ha h0 ⊢
  rw [if_pos ha, if_neg h0]
theorem firstP_at {n : Nat} {ps : List (Int × List Int)} {k : Nat} (h : k < ps.length) (ha : ¬ (0 ≤ (ps.getD k (0, [])).1 ∧ (ps.getD k (0, [])).1 < (n : Int))) : firstP n (ps.drop k) = 3 := by
  rw [List.drop_eq_getElem_cons h]
  simp only [firstP]
  simp only [List.getD, List.getElem?_eq_getElem h, Option.getD_some] at ha
  rw [if_neg ha]
theorem firstP_end {n : Nat} {ps : List (Int × List Int)} {k : Nat} (h : ps.length ≤ k) : firstP n (ps.drop k) = 0 := by rw [List.drop_eq_nil_of_le h]; rfl
theorem diskF_many {xss : List (List Int)} {ps : List (Int × List Int)} (h : 70 < xss.length ∨ 200 < ps.length) : diskF xss ps = 2 := by unfold diskF; rw [if_pos h]
theorem diskF_rows {xss : List (List Int)} {ps : List (Int × List Int)} (h : ¬ (70 < xss.length ∨ 200 < ps.length)) (h0 : firstF xss ≠ 0) : diskF xss ps = firstF xss := by unfold diskF; rw [if_neg h, if_neg h0]
theorem diskF_puts {xss : List (List Int)} {ps : List (Int × List Int)} (h : ¬ (70 < xss.length ∨ 200 < ps.length)) (h0 : firstF xss = 0) : diskF xss ps = firstP xss.length ps := by unfold diskF; rw [if_neg h, if_pos h0]
end Go.Proofs.Ytkdbkkhmaiomkaa
