/- En1 Cfr in one text: what each says stands at its head below. -/
import Derived.Test.YtncgpfapepminaaDoorG08
import Derived.Test.YtncgpfapepminaaDoorG03
import Derived.Test.YtncgpfapepminaaDoorG04
import Derived.Test.YtncgpfapepminaaDoorG01
/- Chapter 9: the fault of an entry, of the program and of the model, walked. Made by program (genen1.py). -/
namespace Go.Proofs.YtncgpfapepminaaDoor
open Go.RowKit

/-- The fault of an entry. -/
def entF (p : Oj) : Int :=
  if (1 ≤ p.1 ∧ p.1 ≤ 9999) ∧ 1 ≤ p.2.1 ∧ p.2.1 ≤ 999 then (if 6 < p.2.2.length then 2 else wordsF p.2.2) else 3
theorem entF_range {p : Oj} (h : ¬ ((1 ≤ p.1 ∧ p.1 ≤ 9999) ∧ 1 ≤ p.2.1 ∧ p.2.1 ≤ 999)) : entF p = 3 := by unfold entF; rw [if_neg h]
theorem entF_many {p : Oj} (h : (1 ≤ p.1 ∧ p.1 ≤ 9999) ∧ 1 ≤ p.2.1 ∧ p.2.1 ≤ 999) (h2 : 6 < p.2.2.length) : entF p = 2 := by unfold entF; rw [if_pos h, if_pos h2]
theorem entF_words {p : Oj} (h : (1 ≤ p.1 ∧ p.1 ≤ 9999) ∧ 1 ≤ p.2.1 ∧ p.2.1 ≤ 999) (h2 : ¬ 6 < p.2.2.length) : entF p = wordsF p.2.2 := by unfold entF; rw [if_pos h, if_neg h2]
theorem entF_zero {p : Oj} (h : entF p = 0) : ((1 ≤ p.1 ∧ p.1 ≤ 9999) ∧ 1 ≤ p.2.1 ∧ p.2.1 ≤ 999) ∧ p.2.2.length ≤ 6 ∧ wordsF p.2.2 = 0 := by
  unfold entF at h
  split at h
  · rename_i h1
    split at h
    · exact absurd h (by decide)
    · rename_i h2
      exact ⟨h1, by omega, h⟩
  · exact absurd h (by decide)

theorem isIndexY (a : Int) (h1 : 1 ≤ a) (h2 : a ≤ 9999) (w : World) : Calls Tryd.prog 89 #[.int .i64 a] w fun e w' => e = .returned (.bool true) ∧ w' = w := by
  have h1' : a ≥ 1 := h1
  go_enter Tryd.func89, Tryd.ntmps89
  go_wp2
  go_ret
  exact ⟨rfl, rfl⟩
theorem isIndexN (a : Int) (h : ¬ (1 ≤ a ∧ a ≤ 9999)) (w : World) : Calls Tryd.prog 89 #[.int .i64 a] w fun e w' => e = .returned (.bool false) ∧ w' = w := by
  by_cases h1 : 1 ≤ a
  · have h2 : ¬ a ≤ 9999 := fun h2 => h ⟨h1, h2⟩
    have h1' : a ≥ 1 := h1
    clear h
    go_enter Tryd.func89, Tryd.ntmps89
    go_wp2
    go_ret
    exact ⟨rfl, rfl⟩
  · have h1' : ¬ a ≥ 1 := h1
    clear h
    go_enter Tryd.func89, Tryd.ntmps89
    go_wp2
    go_ret
    exact ⟨rfl, rfl⟩
theorem isTermY (a : Int) (h1 : 1 ≤ a) (h2 : a ≤ 999) (w : World) : Calls Tryd.prog 90 #[.int .i64 a] w fun e w' => e = .returned (.bool true) ∧ w' = w := by
  have h1' : a ≥ 1 := h1
  go_enter Tryd.func90, Tryd.ntmps90
  go_wp2
  go_ret
  exact ⟨rfl, rfl⟩
theorem isTermN (a : Int) (h : ¬ (1 ≤ a ∧ a ≤ 999)) (w : World) : Calls Tryd.prog 90 #[.int .i64 a] w fun e w' => e = .returned (.bool false) ∧ w' = w := by
  by_cases h1 : 1 ≤ a
  · have h2 : ¬ a ≤ 999 := fun h2 => h ⟨h1, h2⟩
    have h1' : a ≥ 1 := h1
    clear h
    go_enter Tryd.func90, Tryd.ntmps90
    go_wp2
    go_ret
    exact ⟨rfl, rfl⟩
  · have h1' : ¬ a ≥ 1 := h1
    clear h
    go_enter Tryd.func90, Tryd.ntmps90
    go_wp2
    go_ret
    exact ⟨rfl, rfl⟩
theorem l9IndexY (a : Int) (h1 : 1 ≤ a) (h2 : a ≤ 9999) (w : World) : Calls Tryd.prog 92 #[.int .i64 a] w fun e w' => e = .returned (.bool true) ∧ w' = w := by
  go_enter Tryd.func92, Tryd.ntmps92
  go_wp2_with fail
  refine (l1In_yes a 1 9999 h1 h2 _).mono ?_
  rintro e w' ⟨rfl, rfl⟩
  go_wp2
  go_ret
  exact ⟨rfl, rfl⟩
theorem l9IndexN (a : Int) (h : ¬ (1 ≤ a ∧ a ≤ 9999)) (w : World) : Calls Tryd.prog 92 #[.int .i64 a] w fun e w' => e = .returned (.bool false) ∧ w' = w := by
  go_enter Tryd.func92, Tryd.ntmps92
  go_wp2_with fail
  refine (l1In_no a 1 9999 (by omega) _).mono ?_
  rintro e w' ⟨rfl, rfl⟩
  go_wp2
  go_ret
  exact ⟨rfl, rfl⟩
theorem l9TermY (a : Int) (h1 : 1 ≤ a) (h2 : a ≤ 999) (w : World) : Calls Tryd.prog 93 #[.int .i64 a] w fun e w' => e = .returned (.bool true) ∧ w' = w := by
  go_enter Tryd.func93, Tryd.ntmps93
  go_wp2_with fail
  refine (l1In_yes a 1 999 h1 h2 _).mono ?_
  rintro e w' ⟨rfl, rfl⟩
  go_wp2
  go_ret
  exact ⟨rfl, rfl⟩
theorem l9TermN (a : Int) (h : ¬ (1 ≤ a ∧ a ≤ 999)) (w : World) : Calls Tryd.prog 93 #[.int .i64 a] w fun e w' => e = .returned (.bool false) ∧ w' = w := by
  go_enter Tryd.func93, Tryd.ntmps93
  go_wp2_with fail
  refine (l1In_no a 1 999 (by omega) _).mono ?_
  rintro e w' ⟨rfl, rfl⟩
  go_wp2
  go_ret
  exact ⟨rfl, rfl⟩

set_option maxHeartbeats 2000000 in
set_option maxRecDepth 4000 in
theorem implEntryFault {S : Nat → Prop} {w : World} {y : Value} {xs : List Int} (a t : Int) (hy : RdI S w y xs) :
    Calls Tryd.prog 72 #[.agg #[.int .i64 a, .int .i64 t, y]] w fun e w' => e = .returned (.int .i64 (entF (a, t, xs))) ∧ Below w.heap.size w w' := by
  have HY := hide hy
  have hyl : xs.length ≤ 9223372036854775807 := by obtain ⟨_, _, _, h, _⟩ := hy; exact h
  obtain ⟨ay, cy, rfl⟩ := hy.shape
  obtain ⟨n, hn⟩ : ∃ n, xs.length = n := ⟨_, rfl⟩
  have HN := hide hn
  rw [hn] at HY hyl ⊢
  clear hy hn
  obtain ⟨z, hz⟩ : ∃ z, entF (a, t, xs) = z := ⟨_, rfl⟩
  have HZ := hide hz
  rw [hz]
  clear hz
  have A0 := hide (below_alloc w (.cells #[.int .i64 a, .int .i64 t, .slice ay n cy] 43))
  by_cases h1 : 1 ≤ a ∧ a ≤ 9999
  · by_cases h2 : 1 ≤ t ∧ t ≤ 999
    · have HG := hide (show (1 ≤ a ∧ a ≤ 9999) ∧ 1 ≤ t ∧ t ≤ 999 from ⟨h1, h2.1, h2.2⟩)
      clear h1 h2
      by_cases h3 : 6 < n
      · have hz2 : z = 2 := HZ.out.symm.trans (entF_many HG.out (by show 6 < xs.length; rw [HN.out]; exact h3))
        subst hz2
        go_enter Tryd.func72, Tryd.ntmps72
        go_wp2_with fail
        refine (isIndexY a HG.out.1.1 HG.out.1.2 _).mono ?_
        rintro e w' ⟨rfl, hw⟩
        have hw := hw.symm
        subst hw
        go_wp2_with fail
        refine (isTermY t HG.out.2.1 HG.out.2.2 _).mono ?_
        rintro e w' ⟨rfl, hw⟩
        have hw := hw.symm
        subst hw
        go_wp2
        go_ret
        exact ⟨rfl, A0.out⟩
      · have hzw := HZ.out.symm.trans (entF_words HG.out (by show ¬ 6 < xs.length; rw [HN.out]; exact h3))
        have HW := hide hzw
        clear hzw
        go_enter Tryd.func72, Tryd.ntmps72
        go_wp2_with fail
        refine (isIndexY a HG.out.1.1 HG.out.1.2 _).mono ?_
        rintro e w' ⟨rfl, hw⟩
        have hw := hw.symm
        subst hw
        go_wp2_with fail
        refine (isTermY t HG.out.2.1 HG.out.2.2 _).mono ?_
        rintro e w' ⟨rfl, hw⟩
        have hw := hw.symm
        subst hw
        go_wp2_with fail
        refine (wordsFault (HY.out.later A0.out)).mono ?_
        rintro e w4 ⟨he, q, rfl⟩
        rw [← HW.out] at he
        subst he
        go_wp2
        go_ret
        exact ⟨rfl, below_on A0.out (below_drewN _ _)⟩
    · have hz3 : z = 3 := HZ.out.symm.trans (entF_range (fun h => h2 h.2))
      subst hz3
      have H2 := hide h2
      have H1 := hide h1
      clear h1 h2
      go_enter Tryd.func72, Tryd.ntmps72
      go_wp2_with fail
      refine (isIndexY a H1.out.1 H1.out.2 _).mono ?_
      rintro e w' ⟨rfl, hw⟩
      have hw := hw.symm
      subst hw
      go_wp2_with fail
      refine (isTermN t H2.out _).mono ?_
      rintro e w' ⟨rfl, hw⟩
      have hw := hw.symm
      subst hw
      go_wp2
      go_ret
      exact ⟨rfl, A0.out⟩
  · have hz3 : z = 3 := HZ.out.symm.trans (entF_range (fun h => h1 h.1))
    subst hz3
    have H1 := hide h1
    clear h1
    go_enter Tryd.func72, Tryd.ntmps72
    go_wp2_with fail
    refine (isIndexN a H1.out _).mono ?_
    rintro e w' ⟨rfl, hw⟩
    have hw := hw.symm
    subst hw
    go_wp2
    go_ret
    exact ⟨rfl, A0.out⟩

set_option maxHeartbeats 2000000 in
set_option maxRecDepth 4000 in
theorem l9One {S : Nat → Prop} {w : World} {b off : Nat} {p : Oj} (hp : RdFp S w b off p) :
    Calls Tryd.prog 77 #[.pointer (some ⟨b, off, none⟩)] w fun e w' => e = .returned (.int .i64 (entF p)) ∧ (∃ q, w' = w.drewN q) := by
  obtain ⟨y, g0, g1, g2, hy⟩ := hp
  obtain ⟨a, t, xs⟩ := p
  dsimp only at g0 g1 g2 hy
  have HY := hide hy
  have hyl : xs.length ≤ 9223372036854775807 := by obtain ⟨_, _, _, h, _⟩ := hy; exact h
  obtain ⟨ay, cy, rfl⟩ := hy.shape
  obtain ⟨n, hn⟩ : ∃ n, xs.length = n := ⟨_, rfl⟩
  have HN := hide hn
  rw [hn] at HY hyl g2
  clear hy hn
  obtain ⟨z, hz⟩ : ∃ z, entF (a, t, xs) = z := ⟨_, rfl⟩
  have HZ := hide hz
  rw [hz]
  clear hz
  by_cases h1 : 1 ≤ a ∧ a ≤ 9999
  · by_cases h2 : 1 ≤ t ∧ t ≤ 999
    · have HG := hide (show (1 ≤ a ∧ a ≤ 9999) ∧ 1 ≤ t ∧ t ≤ 999 from ⟨h1, h2.1, h2.2⟩)
      clear h1 h2
      by_cases h3 : 6 < n
      · have hz2 : z = 2 := HZ.out.symm.trans (entF_many HG.out (by show 6 < xs.length; rw [HN.out]; exact h3))
        subst hz2
        go_enter Tryd.func77, Tryd.ntmps77
        go_wp2_with fail
        refine (l9IndexY a HG.out.1.1 HG.out.1.2 _).mono ?_
        rintro e w' ⟨rfl, hw⟩
        have hw := hw.symm
        subst hw
        go_wp2_with fail
        refine (l9TermY t HG.out.2.1 HG.out.2.2 _).mono ?_
        rintro e w' ⟨rfl, hw⟩
        have hw := hw.symm
        subst hw
        go_wp2
        go_ret
        exact ⟨rfl, 0, rfl⟩
      · have hzw := HZ.out.symm.trans (entF_words HG.out (by show ¬ 6 < xs.length; rw [HN.out]; exact h3))
        have HW := hide hzw
        clear hzw
        go_enter Tryd.func77, Tryd.ntmps77
        go_wp2_with fail
        refine (l9IndexY a HG.out.1.1 HG.out.1.2 _).mono ?_
        rintro e w' ⟨rfl, hw⟩
        have hw := hw.symm
        subst hw
        go_wp2_with fail
        refine (l9TermY t HG.out.2.1 HG.out.2.2 _).mono ?_
        rintro e w' ⟨rfl, hw⟩
        have hw := hw.symm
        subst hw
        go_wp2_with fail
        refine (l1Words HY.out).mono ?_
        rintro e w4 ⟨he, q, rfl⟩
        rw [← HW.out] at he
        subst he
        go_wp2
        go_ret
        exact ⟨rfl, q, rfl⟩
    · have hz3 : z = 3 := HZ.out.symm.trans (entF_range (fun h => h2 h.2))
      subst hz3
      have H2 := hide h2
      have H1 := hide h1
      clear h1 h2
      go_enter Tryd.func77, Tryd.ntmps77
      go_wp2_with fail
      refine (l9IndexY a H1.out.1 H1.out.2 _).mono ?_
      rintro e w' ⟨rfl, hw⟩
      have hw := hw.symm
      subst hw
      go_wp2_with fail
      refine (l9TermN t H2.out _).mono ?_
      rintro e w' ⟨rfl, hw⟩
      have hw := hw.symm
      subst hw
      go_wp2
      go_ret
      exact ⟨rfl, 0, rfl⟩
  · have hz3 : z = 3 := HZ.out.symm.trans (entF_range (fun h => h1 h.1))
    subst hz3
    have H1 := hide h1
    clear h1
    go_enter Tryd.func77, Tryd.ntmps77
    go_wp2_with fail
    refine (l9IndexN a H1.out _).mono ?_
    rintro e w' ⟨rfl, hw⟩
    have hw := hw.symm
    subst hw
    go_wp2
    go_ret
    exact ⟨rfl, 0, rfl⟩

end Go.Proofs.YtncgpfapepminaaDoor
/- The first code among questions that are asked one behind the other. -/
namespace Go.Proofs.YtncgpfapepminaaDoor

/-- The first code of n questions, from the k-th on. -/
def cfr (g : Nat → Int) : Nat → Nat → Int
  | 0, _ => 0
  | n + 1, k => if g k = 0 then cfr g n (k + 1) else g k
theorem cfr_ok {g : Nat → Int} {m j : Nat} (hj : j < m) (h : g j = 0) : cfr g (m - j) j = cfr g (m - (j + 1)) (j + 1) := by
  rw [show m - j = (m - (j + 1)) + 1 by omega, cfr, if_pos h]
theorem cfr_no {g : Nat → Int} {m j : Nat} (hj : j < m) (h : g j ≠ 0) : cfr g (m - j) j = g j := by
  rw [show m - j = (m - (j + 1)) + 1 by omega, cfr, if_neg h]
theorem cfr_end {g : Nat → Int} {m j : Nat} (hj : ¬ j < m) : cfr g (m - j) j = 0 := by
  rw [show m - j = 0 by omega, cfr]
theorem cfr_all {g : Nat → Int} : ∀ (n k : Nat), cfr g n k = 0 ↔ ∀ i, k ≤ i → i < k + n → g i = 0
  | 0, k => ⟨fun _ i h1 h2 => by omega, fun _ => rfl⟩
  | n + 1, k => by
    rw [cfr]
    by_cases hs : g k = 0
    · rw [if_pos hs, cfr_all n (k + 1)]
      constructor
      · intro h i h1 h2
        by_cases e : i = k
        · rw [e]; exact hs
        · exact h i (by omega) (by omega)
      · intro h i h1 h2
        exact h i (by omega) (by omega)
    · rw [if_neg hs]
      exact ⟨fun h => absurd h hs, fun h => h k (Nat.le_refl _) (by omega)⟩
end Go.Proofs.YtncgpfapepminaaDoor
