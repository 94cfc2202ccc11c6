/- Chapter 4: 'ReadHome' of the program, walked; what stands last in a log. -/
import Derived.Test.YtbjmmhcbjcngcaaSeen2
import Derived.Test.YtbjmmhcbjcngcaaLog
namespace Go.Proofs.Ytbjmmhcbjcngcaa
open Go.RowKit Go.Maps

theorem foldl_len {qs : List (Int × List Int)} {M : Int → List Int} {a : Int} {C : Nat} (hM : (M a).length ≤ C) (hq : ∀ i, i < qs.length → (qs.getD i (0, [])).2.length ≤ C) : (qs.foldl putM M a).length ≤ C := by
  have h : ∀ k, k ≤ qs.length → ((qs.take k).foldl putM M a).length ≤ C := by
    intro k
    induction k with
    | zero => intro _; simpa using hM
    | succ k ih =>
      intro hk
      rw [foldl_take putM (0, []) M qs k (by omega)]
      unfold putM
      split
      · exact hq k (by omega)
      · exact ih (by omega)
  have := h qs.length (Nat.le_refl _)
  simpa using this
theorem foldl_none {qs : List (Int × List Int)} {M : Int → List Int} {a : Int} (hq : ∀ i, i < qs.length → (qs.getD i (0, [])).1 ≠ a) : qs.foldl putM M a = M a := by
  have h : ∀ k, k ≤ qs.length → (qs.take k).foldl putM M a = M a := by
    intro k
    induction k with
    | zero => intro _; rfl
    | succ k ih =>
      intro hk
      rw [foldl_take putM (0, []) M qs k (by omega)]
      unfold putM
      rw [if_neg (fun e => hq k (by omega) e.symm)]
      exact ih (by omega)
  have := h qs.length (Nat.le_refl _)
  simpa using this
theorem foldl_last {qs : List (Int × List Int)} {M : Int → List Int} {a : Int} {i : Nat} (hi : i < qs.length) (ha : (qs.getD i (0, [])).1 = a) (hq : ∀ j, i < j → j < qs.length → (qs.getD j (0, [])).1 ≠ a) : qs.foldl putM M a = (qs.getD i (0, [])).2 := by
  have h : ∀ k, i < k → k ≤ qs.length → (qs.take k).foldl putM M a = (qs.getD i (0, [])).2 := by
    intro k
    induction k with
    | zero => intro h; omega
    | succ k ih =>
      intro h hk
      rw [foldl_take putM (0, []) M qs k (by omega)]
      unfold putM
      by_cases e : i = k
      · subst e; rw [if_pos ha.symm]
      · rw [if_neg (fun e' => hq k (by omega) (by omega) e'.symm)]
        exact ih (by omega) (by omega)
  have := h qs.length hi (Nat.le_refl _)
  simpa using this

/-- The code of 'ReadHome', and its words. -/
def rhF (xss : List (List Int)) (ps : List (Int × List Int)) (a : Int) : Int := if inF xss ps = 0 then (if 0 ≤ a ∧ a < 40 then 0 else 3) else inF xss ps
def rhXs (xss : List (List Int)) (ps : List (Int × List Int)) (a : Int) : List Int := if inF xss ps = 0 ∧ 0 ≤ a ∧ a < 40 then (lgP xss ps).foldl putM (homeM xss ps 40) a else []

/-- What is known of the log of a disk that has a header. -/
theorem lg_facts {xss : List (List Int)} {ps : List (Int × List Int)} (hs : Small xss ps) (h0 : inF xss ps = 0) :
    xss.length = 66 ∧ (lgP xss ps).length ≤ 24 ∧ ∀ i, i < (lgP xss ps).length → (0 ≤ ((lgP xss ps).getD i (0, [])).1 ∧ ((lgP xss ps).getD i (0, [])).1 < 40) ∧ ((lgP xss ps).getD i (0, [])).2.length ≤ 1048576 := by
  obtain ⟨_, h66, hhd⟩ := in_ok h0
  obtain ⟨_, hA24, hA39⟩ := headF_zero hhd
  unfold lgP
  rw [if_pos h0]
  refine ⟨h66, by rw [logPs_len]; exact hA24, fun i hi => ?_⟩
  rw [logPs_len] at hi
  rw [logPs_at _ _ _ _ _ hi]
  have := hA39 i hi
  exact ⟨⟨this.1, by dsimp only; omega⟩, slotW_len hs h66 _ _⟩
theorem rh_len {xss : List (List Int)} {ps : List (Int × List Int)} (hs : Small xss ps) (h0 : inF xss ps = 0) {a : Int} (h1 : 0 ≤ a) (h2 : a < 40) : ((lgP xss ps).foldl putM (homeM xss ps 40) a).length ≤ 1048576 := by
  obtain ⟨h66, _, h⟩ := lg_facts hs h0
  refine foldl_len ?_ (fun i hi => (h i hi).2)
  unfold homeM
  rw [if_pos (by omega)]
  exact blkTo_len hs _ (Nat.le_refl _) (by omega) (by rw [h66]; omega)
theorem rh_bound {xss : List (List Int)} {ps : List (Int × List Int)} (hs : Small xss ps) (a : Int) : (rhXs xss ps a).length ≤ 1048576 := by
  unfold rhXs
  split
  · rename_i h; exact rh_len hs h.1 h.2.1 h.2.2
  · simp

end Go.Proofs.Ytbjmmhcbjcngcaa
