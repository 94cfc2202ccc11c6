/- 'impl.picksFault', 'impl.pickAt' and 'impl.CrashDisk', walked. Made by program in part. -/
import Derived.Test.YtaccllclihbpfaaTears
import Derived.Test.YtaccllclihbpfaaKeep
namespace Go.Proofs.Ytaccllclihbpfaa
open Go.RowKit

/-- The fault of picks. -/
def picksF (qs : List Int) : Int := if 200 < qs.length then 2 else if (∀ i, i < qs.length → 0 ≤ qs.getD i 0 ∧ qs.getD i 0 ≤ 3) then 0 else 3
theorem picksF_many {qs : List Int} (h : 200 < qs.length) : picksF qs = 2 := by unfold picksF; rw [if_pos h]
theorem picksF_ok {qs : List Int} (h : ¬ 200 < qs.length) (h' : ∀ i, i < qs.length → 0 ≤ qs.getD i 0 ∧ qs.getD i 0 ≤ 3) : picksF qs = 0 := by unfold picksF; rw [if_neg h, if_pos h']
theorem picksF_range {qs : List Int} (h : ¬ 200 < qs.length) {i : Nat} (hi : i < qs.length) (h' : ¬ (0 ≤ qs.getD i 0 ∧ qs.getD i 0 ≤ 3)) : picksF qs = 3 := by
  unfold picksF; rw [if_neg h, if_neg (fun k => h' (k i hi))]
theorem picksF_zero {qs : List Int} (h : picksF qs = 0) : qs.length ≤ 200 ∧ ∀ i, i < qs.length → 0 ≤ qs.getD i 0 ∧ qs.getD i 0 ≤ 3 := by
  unfold picksF at h
  split at h
  · exact absurd h (by decide)
  · split at h
    · rename_i h1 h2; exact ⟨by omega, h2⟩
    · exact absurd h (by decide)
theorem picks_pk {qs : List Int} (h : picksF qs = 0) (k : Nat) : 0 ≤ pkOf false qs k ∧ pkOf false qs k ≤ 3 := by
  unfold pkOf
  rw [if_neg (by decide)]
  by_cases hk : k < qs.length
  · exact (picksF_zero h).2 k hk
  · simp [List.getD, List.getElem?_eq_none (Nat.le_of_not_lt hk)]

set_option maxRecDepth 4000 in
theorem picksFault {S : Nat → Prop} {w : World} {v : Value} {qs : List Int} (hv : RdI S w v qs) :
    Calls Try.prog 59 #[v] w fun e w' => e = .returned (.int .i64 (picksF qs)) ∧ w' = w := by
  have HV := hide hv
  obtain ⟨ao, c, rfl⟩ := hv.shape
  obtain ⟨n, hn⟩ : ∃ n, qs.length = n := ⟨_, rfl⟩
  have HN := hide hn
  rw [hn] at HV ⊢
  obtain ⟨_, _, _, hm, _⟩ := id hv
  rw [hn] at hm
  clear hv hn
  by_cases hbig : 200 < n
  · have HZ := hide (picksF_many (qs := qs) (by rw [HN.out]; exact hbig))
    go_enter Try.func59, Try.ntmps59
    go_wp2
    go_ret
    exact ⟨ret_int HZ.out.symm, rfl⟩
  · go_enter Try.func59, Try.ntmps59
    go_wp2
    go_loopw [10] (fun i wr => ∃ k : Nat, k ≤ n ∧ i = .int .i64 k ∧ Hid (∀ j, j < k → 0 ≤ qs.getD j 0 ∧ qs.getD j 0 ≤ 3) ∧ wr = w) (fun i _ => n - (intOf i).toNat)
    case atStart => exact ⟨0, Nat.zero_le _, rfl, fun j hj => absurd hj (Nat.not_lt_zero _), rfl⟩
    case round =>
      obtain ⟨k, hk, rfl, HA, rfl⟩ := hrel
      by_cases hlt : k < n
      · obtain ⟨b, off, rfl, g1⟩ := HV.out.at (k := k) (by rw [HN.out]; exact hlt)
        obtain ⟨x, hx⟩ : ∃ x, qs.getD k 0 = x := ⟨_, rfl⟩
        have HX := hide hx
        rw [hx] at g1
        clear hx
        by_cases hp : 0 ≤ x ∧ x ≤ 3
        · go_wp2_with fail
          refine (isPick_yes x _ hp.1 hp.2).mono ?_
          rintro e w1 ⟨rfl, rfl⟩
          go_wp2
          go_roundw
          case rel => exact ⟨k + 1, by omega, by go_num, fun j hj => (by by_cases e : j = k; · subst e; rw [HX.out]; exact hp
                                                                         · exact HA.out j (by omega)), by simp⟩
          case measure => simp [intOf]; omega
        · have HZ := hide (picksF_range (qs := qs) (by rw [HN.out]; exact hbig) (i := k) (by rw [HN.out]; exact hlt) (by rw [HX.out]; exact hp))
          go_wp2_with fail
          refine (isPick_no x _ hp).mono ?_
          rintro e w1 ⟨rfl, rfl⟩
          go_wp2
          go_ret
          exact ⟨ret_int HZ.out.symm, rfl⟩
      · have HZ := hide (picksF_ok (qs := qs) (by rw [HN.out]; exact hbig) (fun i hi => HA.out i (by rw [HN.out] at hi; omega)))
        go_wp2
        go_ret
        exact ⟨ret_int HZ.out.symm, rfl⟩

theorem pickAt {S : Nat → Prop} {w : World} {v : Value} {qs : List Int} (k : Nat) (hv : RdI S w v qs) :
    Calls Try.prog 62 #[v, .int .i64 k] w fun e w' => e = .returned (.int .i64 (pkOf false qs k)) ∧ w' = w := by
  have HV := hide hv
  obtain ⟨ao, c, rfl⟩ := hv.shape
  obtain ⟨n, hn⟩ : ∃ n, qs.length = n := ⟨_, rfl⟩
  have HN := hide hn
  rw [hn] at HV ⊢
  obtain ⟨_, _, _, hm, _⟩ := id hv
  rw [hn] at hm
  clear hv hn
  have hp : pkOf false qs k = qs.getD k 0 := by unfold pkOf; rw [if_neg (by decide)]
  rw [hp]
  clear hp
  by_cases hlt : k < n
  · obtain ⟨b, off, rfl, g1⟩ := HV.out.at (k := k) (by rw [HN.out]; exact hlt)
    obtain ⟨x, hx⟩ : ∃ x, qs.getD k 0 = x := ⟨_, rfl⟩
    rw [hx] at g1 ⊢
    clear hx
    go_enter Try.func62, Try.ntmps62
    go_wp2
    go_ret
    exact ⟨rfl, rfl⟩
  · have e : qs.getD k 0 = 0 := by simp [List.getD, List.getElem?_eq_none (show qs.length ≤ k by rw [HN.out]; omega)]
    rw [e]
    clear e
    go_enter Try.func62, Try.ntmps62
    go_wp2
    go_ret
    exact ⟨rfl, rfl⟩

theorem wordsF_iff {xs : List Int} : wordsF xs = 0 ↔ xs.length ≤ 64 ∧ ∀ x ∈ xs, 0 ≤ x ∧ x ≤ 65535 := by
  constructor
  · intro h
    obtain ⟨h1, h2⟩ := wordsF_zero h
    refine ⟨h1, fun x hx => ?_⟩
    obtain ⟨i, hi, rfl⟩ := List.mem_iff_getElem.1 hx
    have := h2 i hi
    simpa [List.getD, hi] using this
  · rintro ⟨h1, h2⟩
    refine wF_ok h1 fun i hi => ?_
    have := h2 xs[i] (List.getElem_mem hi)
    simpa [List.getD, hi] using this

theorem tear_words {old next : List Int} {p : Int} (h1 : wordsF old = 0) (h2 : wordsF next = 0) : wordsF (tear old next p) = 0 := by
  refine wordsF_iff.2 ⟨tear_len (wordsF_zero h1).1 (wordsF_zero h2).1, fun x hx => ?_⟩
  have a1 := (wordsF_iff.1 h1).2
  have a2 := (wordsF_iff.1 h2).2
  have hA : ∀ x ∈ tearA old next p, 0 ≤ x ∧ x ≤ 65535 := by
    intro x hx
    unfold tearA at hx
    split at hx
    · exact a2 x (List.mem_of_mem_take hx)
    · exact a1 x (List.mem_of_mem_take hx)
  have hB : ∀ x ∈ tearB old next p, 0 ≤ x ∧ x ≤ 65535 := by
    intro x hx
    unfold tearB at hx
    split at hx
    · exact a2 x (List.mem_of_mem_drop hx)
    · exact a1 x (List.mem_of_mem_drop hx)
  unfold tear joinT at hx
  split at hx
  · exact hA x hx
  · rcases List.mem_append.1 hx with hx | hx
    · rcases List.mem_append.1 hx with hx | hx
      · exact hA x hx
      · have := (List.mem_replicate.1 hx).2
        omega
    · exact hB x hx

theorem keepTo_words {xss : List (List Int)} {ps : List (Int × List Int)} (h : Sound xss ps) (pk : Nat → Int) : ∀ k, k ≤ ps.length → ∀ i, wordsF ((keepTo xss ps pk k).getD i []) = 0 := by
  intro k
  have hnil : wordsF [] = 0 := wF_ok (by simp) (by simp)
  induction k with
  | zero =>
    intro _ i
    by_cases hi : i < xss.length
    · exact h.row i hi
    · have : (keepTo xss ps pk 0).getD i [] = [] := by simp only [keepTo, List.getD]; rw [List.getElem?_eq_none (by omega)]; rfl
      rw [this]; exact hnil
  | succ k ih =>
    intro hk i
    have ih := ih (by omega)
    unfold keepTo
    by_cases e : i = (ps.getD k (0, [])).1.toNat
    · by_cases hi : i < (keepTo xss ps pk k).length
      · rw [← e, getD_set_same _ _ _ hi]
        exact tear_words (ih _) (h.put k (by omega))
      · simp only [List.getD]
        rw [List.getElem?_eq_none (by rw [List.length_set]; omega)]
        exact hnil
    · rw [getD_set_other _ _ _ _ e]
      exact ih i

/-- The code of a crash. -/
def crashF (xss : List (List Int)) (ps : List (Int × List Int)) (qs : List Int) : Int := if diskF xss ps = 0 then picksF qs else diskF xss ps
/-- The rows behind a crash. -/
def crashXs (xss : List (List Int)) (ps : List (Int × List Int)) (qs : List Int) : List (List Int) := if crashF xss ps qs = 0 then keepTo xss ps (pkOf false qs) ps.length else []
theorem crash_bound (xss : List (List Int)) (ps : List (Int × List Int)) (qs : List Int) : tot (crashXs xss ps qs) (crashXs xss ps qs).length + totP [] ([] : List (Int × List Int)).length ≤ 16777216 := by
  unfold crashXs
  split
  · rename_i h
    unfold crashF at h
    split at h
    · rename_i h1
      exact keep_bound (diskF_zero h1) _
    · rename_i h1
      exact absurd h h1
  · simp [tot, totP]

end Go.Proofs.Ytaccllclihbpfaa
