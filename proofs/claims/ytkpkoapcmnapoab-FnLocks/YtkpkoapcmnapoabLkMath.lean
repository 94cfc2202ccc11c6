/- Chapter 6: what a lock that is taken does to the others' (no walk here). -/
import Derived.Test.YtkpkoapcmnapoabLkTake2
import Derived.Test.YtkpkoapcmnapoabLkFree
namespace Go.Proofs.Ytkpkoapcmnapoab
open Go.RowKit Go.Maps

theorem up_len : ∀ (os : List Wn) (lo : Int), os.Pairwise (fun x y => x.1 < y.1) → (∀ o ∈ os, lo ≤ o.1 ∧ o.1 < 40) → os ≠ [] → (os.length : Int) ≤ 40 - lo
  | [], _, _, _, h => absurd rfl h
  | x :: r, lo, hp, hm, _ => by
    obtain ⟨h1, h2⟩ := List.pairwise_cons.1 hp
    have hx := hm x List.mem_cons_self
    by_cases hr : r = []
    · subst hr
      simp
      omega
    · have := up_len r (x.1 + 1) h2 (fun o ho => ⟨by have := h1 o ho; omega, (hm o (List.mem_cons_of_mem _ ho)).2⟩) hr
      rw [List.length_cons]
      omega
theorem own_made {os : List Wn} (hp : os.Pairwise (fun x y => x.1 < y.1)) (h1 : ∀ o ∈ os, 0 ≤ o.1 ∧ o.1 < 40) (h2 : ∀ o ∈ os, 0 < o.2 ∧ o.2 ≤ 99) : Own os := by
  have mem : ∀ i, i < os.length → os.getD i wn0 ∈ os := fun i hi => by simp [List.getD, hi]
  refine ⟨?_, fun i hi => h1 _ (mem i hi), fun i hi => h2 _ (mem i hi), fun i hi => ?_⟩
  · by_cases e : os = []
    · subst e; simp
    · have := up_len os 0 hp h1 e
      omega
  · have e1 : os.getD i wn0 = os[i] := by simp [List.getD, show i < os.length by omega]
    have e2 : os.getD (i + 1) wn0 = os[i + 1] := by simp [List.getD, hi]
    rw [e1, e2]
    exact List.pairwise_iff_getElem.1 hp i (i + 1) (by omega) hi (by omega)
theorem fromF_zero {os : List Wn} : ∀ (n k : Nat), (∀ i, k ≤ i → i < k + n → stF os i = 0) → fromF os n k = 0
  | 0, _, _ => rfl
  | n + 1, k, h => by
    rw [fromF, if_pos (h k (Nat.le_refl _) (by omega))]
    exact fromF_zero n (k + 1) (fun i h1 h2 => h i (by omega) (by omega))
theorem ownF_zero {os : List Wn} (h : Own os) : ownF os = 0 := by
  unfold ownF
  rw [if_neg (by have := h.len; omega)]
  refine fromF_zero _ _ (fun i _ hi => ?_)
  have h1 := h.home i (by omega)
  have h2 := h.txn i (by omega)
  unfold stF
  rw [if_neg (fun e => e h1), if_neg (fun e => e h2), if_neg ?_]
  rintro ⟨k1, k2⟩
  have := h.up (i - 1) (by omega)
  rw [show i - 1 + 1 = i by omega] at this
  omega
theorem own_tkL {os : List Wn} (h : Own os) {t a : Int} (ht : 0 < t ∧ t ≤ 99) (ha : 0 ≤ a ∧ a < 40) (hf : tkF (ownr os) t a = 0) : Own (tkL os t a) := by
  have hm := fun o => tkL_mem h (t := t) (a := a) (by omega) (tkF_ok hf) o
  have hz : ∀ o ∈ tkL os t a, (o.1 = a ∧ o.2 = t) ∨ o ∈ os := fun o ho => by
    obtain ⟨k1, k2⟩ := (hm o).1 ho
    unfold updO at k1
    by_cases e : o.1 = a
    · rw [if_pos e] at k1
      exact Or.inl ⟨e, k1.symm⟩
    · rw [if_neg e] at k1
      exact Or.inr ((ownr_iff h k2).1 k1)
  refine own_made (tkL_up h (tkF_ok hf)) (fun o ho => ?_) (fun o ho => ?_)
  · rcases hz o ho with ⟨e, _⟩ | e
    · rw [e]; exact ha
    · exact (own_mem h e).1
  · rcases hz o ho with ⟨_, e⟩ | e
    · rw [e]; exact ht
    · exact (own_mem h e).2
theorem own_frL {os : List Wn} (h : Own os) (t : Int) : Own (frL os t) :=
  own_made (frL_up h t) (fun _ ho => (own_mem h (List.mem_filter.1 ho).1).1) (fun _ ho => (own_mem h (List.mem_filter.1 ho).1).2)
theorem ownr_tkL {os : List Wn} (h : Own os) {t a : Int} (ht : 0 < t ∧ t ≤ 99) (ha : 0 ≤ a ∧ a < 40) (hf : tkF (ownr os) t a = 0) {x y : Int} (hy : y ≠ 0) (hu : updO (ownr os) a t x = y) : ownr (tkL os t a) x = y :=
  (ownr_iff (own_tkL h ht ha hf) hy).2 ((tkL_mem h (by omega) (tkF_ok hf) (x, y)).2 ⟨hu, hy⟩)
/-- What is known of a lock that was taken. -/
structure Took (os R G : List Wn) (t a : Int) : Prop where
  fault : ownF R = 0
  held : hbC R t = 0
  owner : ofV R a = t
  freed : frC R t = 0
  may : mayT os t a = true
  has : a ∈ hbR R t
  none : hbR G t = []
  sum : G.length + (hbR R t).length = R.length
  stay : ∀ i, i < os.length → ofV R (os.getD i wn0).1 = (os.getD i wn0).2
  others : ∀ i, i < os.length → (os.getD i wn0).2 ≠ t → ofV G (os.getD i wn0).1 = (os.getD i wn0).2
  len : R.length ≤ 40
theorem took {os : List Wn} {t a : Int} (h : tkC os t a = 0) : Took os (tkR os t a) (frR (tkR os t a) t) t a := by
  obtain ⟨h1, ht, ha, hf⟩ := tkC_ok h
  have ho := own_of h1
  have hR : tkR os t a = tkL os t a := if_pos h
  rw [hR]
  have hO := own_tkL ho ht ha hf
  have hF := ownF_zero hO
  have hC : hbC (tkL os t a) t = 0 := by unfold hbC; rw [if_neg (by simp [hF]), if_pos ht]
  have hB : hbR (tkL os t a) t = hbL (tkL os t a) t := if_pos hC
  have hG : frR (tkL os t a) t = frL (tkL os t a) t := if_pos hC
  rw [hG]
  have hO2 := own_frL hO t
  have hF2 := ownF_zero hO2
  have hC2 : hbC (frL (tkL os t a) t) t = 0 := by unfold hbC; rw [if_neg (by simp [hF2]), if_pos ht]
  have hat : ownr (tkL os t a) a = t := ownr_tkL ho ht ha hf (by omega) (by unfold updO; rw [if_pos rfl])
  have hv : ∀ (R : List Wn) (x : Int), ownF R = 0 → 0 ≤ x ∧ x < 40 → ofV R x = ownr R x := fun R x k1 k2 => by unfold ofV; rw [if_neg (by simp [k1]), if_neg (fun e => e k2)]
  have hin : ∀ i, i < os.length → os.getD i wn0 ∈ os := fun i hi => by simp [List.getD, hi]
  have hst : ∀ i, i < os.length → ownr (tkL os t a) (os.getD i wn0).1 = (os.getD i wn0).2 := fun i hi => by
    have hz := ho.txn i hi
    have he := (ownr_iff ho (a := (os.getD i wn0).1) (t := (os.getD i wn0).2) (by omega)).2 (hin i hi)
    refine ownr_tkL ho ht ha hf (by omega) ?_
    unfold updO
    by_cases e : (os.getD i wn0).1 = a
    · rw [if_pos e]
      rw [e] at he
      rcases tkF_ok hf with k | k
      · rw [k] at he; omega
      · exact k.symm.trans he
    · rw [if_neg e]; exact he
  refine ⟨hF, hC, (hv _ _ hF ha).trans hat, hC, decide_eq_true h, ?_, ?_, ?_, fun i hi => (hv _ _ hF (ho.home i hi)).trans (hst i hi), fun i hi hne => ?_, hO.len⟩
  · rw [hB]; exact (hbL_mem hO (by omega) a).2 hat
  · rw [show hbR (frL (tkL os t a) t) t = hbL (frL (tkL os t a) t) t from if_pos hC2]
    unfold hbL frL
    rw [List.filter_filter, List.filter_eq_nil_iff.2 (fun o _ => by simp)]
    rfl
  · rw [hB]
    unfold hbL frL
    rw [List.length_map]
    generalize tkL os t a = R
    induction R with
    | nil => rfl
    | cons o r ih =>
      by_cases e : o.2 = t
      · rw [List.filter_cons_of_neg (by simp [e]), List.filter_cons_of_pos (by simp [e]), List.length_cons, List.length_cons]; omega
      · rw [List.filter_cons_of_pos (by simp [e]), List.filter_cons_of_neg (by simp [e]), List.length_cons, List.length_cons]; omega
  · rw [hv _ _ hF2 (ho.home i hi)]
    have hz := ho.txn i hi
    refine (ownr_iff hO2 (by omega)).2 (List.mem_filter.2 ⟨(ownr_iff hO (by omega)).1 (hst i hi), by simpa using hne⟩)
end Go.Proofs.Ytkpkoapcmnapoab
