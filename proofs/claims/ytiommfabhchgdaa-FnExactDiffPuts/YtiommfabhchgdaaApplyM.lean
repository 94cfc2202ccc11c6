/- Views as maps: what a put does to one. -/
import Derived.Test.YtiommfabhchgdaaApply
namespace Go.Proofs.Ytiommfabhchgdaa
open Go.Maps

theorem firstP_all {n : Nat} {ps : List (Int × List Int)} (h : firstP n ps = 0) : ∀ i, i < ps.length → 0 ≤ (ps.getD i (0, [])).1 ∧ (ps.getD i (0, [])).1 < (n : Int) ∧ wordsF (ps.getD i (0, [])).2 = 0 := by
  have key : ∀ k, k ≤ ps.length → firstP n (ps.drop k) = 0 ∧ ∀ i, i < k → 0 ≤ (ps.getD i (0, [])).1 ∧ (ps.getD i (0, [])).1 < (n : Int) ∧ wordsF (ps.getD i (0, [])).2 = 0 := by
    intro k
    induction k with
    | zero => intro _; exact ⟨by simpa using h, fun i hi => absurd hi (Nat.not_lt_zero _)⟩
    | succ k ih =>
      intro hk
      obtain ⟨h1, h2⟩ := ih (by omega)
      by_cases ha : 0 ≤ (ps.getD k (0, [])).1 ∧ (ps.getD k (0, [])).1 < (n : Int)
      · by_cases hw : wordsF (ps.getD k (0, [])).2 = 0
        · rw [firstP_ok (by omega) ha hw] at h1
          refine ⟨h1, fun i hi => ?_⟩
          by_cases e : i = k
          · subst e; exact ⟨ha.1, ha.2, hw⟩
          · exact h2 i (by omega)
        · rw [firstP_no (by omega) ha hw] at h1
          exact absurd h1 hw
      · rw [firstP_at (by omega) ha] at h1
        exact absurd h1 (by decide)
  exact fun i hi => (key ps.length (Nat.le_refl _)).2 i hi
theorem hpF_all {most : Nat} {ps : List (Int × List Int)} (h : hpF most ps = 0) : ps.length ≤ most ∧ ∀ i, i < ps.length → 0 ≤ (ps.getD i (0, [])).1 ∧ (ps.getD i (0, [])).1 < 40 ∧ (ps.getD i (0, [])).2.length ≤ 64 := by
  unfold hpF at h
  split at h
  · exact absurd h (by decide)
  · rename_i h1
    refine ⟨by omega, fun i hi => ?_⟩
    obtain ⟨a, b, c⟩ := firstP_all h i hi
    refine ⟨a, b, ?_⟩
    by_cases h64 : 64 < (ps.getD i (0, [])).2.length
    · unfold wordsF at c
      rw [wF_many h64] at c
      exact absurd c (by decide)
    · omega

theorem view_mem (M : Int → List Int) (k : Nat) (x : Int × List Int) : x ∈ viewTo M k ↔ 0 ≤ x.1 ∧ x.1 < (k : Int) ∧ x.2 ≠ [] ∧ x.2 = M x.1 := by
  unfold viewTo
  rw [List.mem_map]
  constructor
  · rintro ⟨a, ha, rfl⟩
    obtain ⟨h1, h2, h3⟩ := (keysTo_mem M k a).1 ha
    exact ⟨h1, h2, h3, rfl⟩
  · rintro ⟨h1, h2, h3, h4⟩
    exact ⟨x.1, (keysTo_mem M k x.1).2 ⟨h1, h2, by rw [← h4]; exact h3⟩, by rw [← h4]⟩
theorem view_lt (M : Int → List Int) (k : Nat) : (viewTo M k).Pairwise fun a b => a.1 < b.1 := List.pairwise_map.2 (keysTo_lt M k)
theorem rising_eq {l m : List (Int × List Int)} (h1 : l.Pairwise fun a b => a.1 < b.1) (h2 : m.Pairwise fun a b => a.1 < b.1) (h : ∀ x, x ∈ l ↔ x ∈ m) : l = m := by
  have nd : ∀ {l : List (Int × List Int)}, (l.Pairwise fun a b => a.1 < b.1) → l.Nodup := fun h => h.imp (fun h e => by rw [e] at h; omega)
  exact List.Perm.eq_of_pairwise (fun a b _ _ h1 h2 => by omega) h1 h2 ((List.perm_ext_iff_of_nodup (nd h1) (nd h2)).2 h)
theorem vw_lt {ps : List (Int × List Int)} (h : isVw ps) : ps.Pairwise fun a b => a.1 < b.1 := by
  have key : ∀ (d i : Nat), i + d + 1 < ps.length → (ps.getD i (0, [])).1 < (ps.getD (i + d + 1) (0, [])).1 := by
    intro d
    induction d with
    | zero => intro i hi; have := (h (i + 1) hi).2 (by omega); simpa using this
    | succ d ih =>
      intro i hi
      have h1 := ih i (by omega)
      have h2 := (h (i + (d + 1) + 1) hi).2 (by omega)
      rw [show i + (d + 1) + 1 - 1 = i + d + 1 by omega] at h2
      omega
  rw [List.pairwise_iff_getElem]
  intro i j hi hj hij
  have := key (j - i - 1) i (by omega)
  rw [show i + (j - i - 1) + 1 = j by omega] at this
  simpa [List.getD, hi, hj] using this
/-- A view is told by what it puts. -/
theorem vw_eq {ps : List (Int × List Int)} (h : isVw ps) (hr : ∀ i, i < ps.length → 0 ≤ (ps.getD i (0, [])).1 ∧ (ps.getD i (0, [])).1 < 40) : ps = viewTo (ps.foldl putM fun _ => []) 40 := by
  have hlt := vw_lt h
  have hinj : ∀ i j, i < ps.length → j < ps.length → i < j → (ps.getD i (0, [])).1 < (ps.getD j (0, [])).1 := fun i j hi hj hij => by
    have := List.pairwise_iff_getElem.1 hlt i j hi hj hij
    simpa [List.getD, hi, hj] using this
  refine rising_eq hlt (view_lt _ _) fun x => ?_
  rw [view_mem]
  constructor
  · intro hx
    obtain ⟨i, hi, rfl⟩ := List.getElem_of_mem hx
    have e : ps.getD i (0, []) = ps[i] := by simp [List.getD, hi]
    have hl := foldl_last (qs := ps) (M := fun _ => []) (a := ps[i].1) (i := i) hi (by rw [e]) (fun j h1 h2 => by have := hinj i j hi h2 h1; rw [e] at this; omega)
    have hri := hr i hi
    have hne := (h i hi).1
    rw [e] at hl hri hne
    exact ⟨hri.1, hri.2, hne, hl.symm⟩
  · rintro ⟨h1, h2, h3, h4⟩
    by_cases hex : ∃ i, i < ps.length ∧ (ps.getD i (0, [])).1 = x.1
    · obtain ⟨i, hi, hix⟩ := hex
      have hl := foldl_last (qs := ps) (M := fun _ => []) (a := x.1) (i := i) hi hix (fun j h1 h2 => by have := hinj i j hi h2 h1; omega)
      have e : ps.getD i (0, []) = ps[i] := by simp [List.getD, hi]
      have : x = ps[i] := by
        rw [← e]
        exact Prod.ext hix.symm (h4.trans hl)
      rw [this]
      exact List.getElem_mem hi
    · have := foldl_none (qs := ps) (M := fun _ => []) (a := x.1) (fun i hi e => hex ⟨i, hi, e⟩)
      rw [this] at h4
      exact absurd h4 h3
end Go.Proofs.Ytiommfabhchgdaa
