/- Chapter 2, the program's side: 'impl.HeaderFault', walked. -/
import Derived.Test.YtkdbkkhmaiomkaaSpec2
namespace Go.Proofs.Ytkdbkkhmaiomkaa
open Go.RowKit

theorem isHome_yes (v : Int) (h1 : 0 ≤ v) (h2 : v < 40) (w : World) : Calls Try.prog 43 #[.int .i64 v] w fun e w' => e = .returned (.bool true) ∧ w' = w := by
  have h3 : ¬ v < 0 := by omega
  go_enter Try.func43, Try.ntmps43
  go_wp2
  go_ret
  exact ⟨rfl, rfl⟩
theorem isHome_no (v : Int) (h : ¬ (0 ≤ v ∧ v < 40)) (w : World) : Calls Try.prog 43 #[.int .i64 v] w fun e w' => e = .returned (.bool false) ∧ w' = w := by
  by_cases h1 : v < 0
  · have h2 : ¬ 0 ≤ v := by omega
    clear h
    go_enter Try.func43, Try.ntmps43
    go_wp2
    go_ret
    exact ⟨rfl, rfl⟩
  · have h2 : 0 ≤ v := by omega
    have h3 : 40 ≤ v := by omega
    have h4 : ¬ v < 40 := by omega
    clear h
    go_enter Try.func43, Try.ntmps43
    go_wp2
    go_ret
    exact ⟨rfl, rfl⟩

set_option maxHeartbeats 2000000 in
set_option maxRecDepth 4000 in
theorem implHeaderFault {S : Nat → Prop} {w : World} {y : Value} {xs : List Int} (s t : Int) (hy : RdI S w y xs) :
    Calls Try.prog 27 #[.agg #[.int .i64 s, .int .i64 t, y]] w fun e w' => e = .returned (.int .i64 (headF s t xs)) ∧ Below w.heap.size w w' := by
  have HY := hide hy
  have hyl : xs.length ≤ 9223372036854775807 := by obtain ⟨_, _, _, h, _⟩ := hy; exact h
  obtain ⟨ay, cy, rfl⟩ := hy.shape
  obtain ⟨n, hn⟩ : ∃ n, xs.length = n := ⟨_, rfl⟩
  have HN := hide hn
  rw [hn] at HY hyl ⊢
  clear hy hn
  obtain ⟨z, hz⟩ : ∃ z, headF s t xs = z := ⟨_, rfl⟩
  have HZ := hide hz
  rw [hz]
  clear hz
  have A0 := hide (below_alloc w (.cells #[.int .i64 s, .int .i64 t, .slice ay n cy] 49))
  by_cases h1 : s < 1
  · have hz3 : z = 3 := HZ.out.symm.trans (headF_range (fun h => by omega))
    subst hz3
    go_enter Try.func27, Try.ntmps27
    go_wp2
    go_ret
    exact ⟨rfl, A0.out⟩
  by_cases h2 : 65000 < s
  · have hz3 : z = 3 := HZ.out.symm.trans (headF_range (fun h => by omega))
    subst hz3
    go_enter Try.func27, Try.ntmps27
    go_wp2
    go_ret
    exact ⟨rfl, A0.out⟩
  by_cases h3 : t < 0
  · have hz3 : z = 3 := HZ.out.symm.trans (headF_range (fun h => by omega))
    subst hz3
    go_enter Try.func27, Try.ntmps27
    go_wp2
    go_ret
    exact ⟨rfl, A0.out⟩
  by_cases h4 : 24 ≤ t
  · have hz3 : z = 3 := HZ.out.symm.trans (headF_range (fun h => by omega))
    subst hz3
    go_enter Try.func27, Try.ntmps27
    go_wp2
    go_ret
    exact ⟨rfl, A0.out⟩
  have hr : 1 ≤ s ∧ s ≤ 65000 ∧ 0 ≤ t ∧ t ≤ 23 := by omega
  have HRg := hide hr
  clear hr
  by_cases hb : 24 < n
  · have hz2 : z = 2 := HZ.out.symm.trans (headF_many HRg.out (by rw [HN.out]; exact hb))
    subst hz2
    go_enter Try.func27, Try.ntmps27
    go_wp2
    go_ret
    exact ⟨rfl, A0.out⟩
  go_enter Try.func27, Try.ntmps27
  go_wp2
  go_loopw [30] (fun i wr => ∃ k : Nat, k ≤ n ∧ i = .int .i64 k ∧ Hid (∀ j, j < k → 0 ≤ xs.getD j 0 ∧ xs.getD j 0 ≤ 39) ∧ wr = w.alloc (.cells #[.int .i64 s, .int .i64 t, .slice ay n cy] 49)) (fun i _ => n - (intOf i).toNat)
  case atStart => exact ⟨0, Nat.zero_le _, rfl, fun j hj => absurd hj (Nat.not_lt_zero _), rfl⟩
  case round =>
    obtain ⟨k, hk, rfl, HA, rfl⟩ := hrel
    by_cases hlt : k < n
    · obtain ⟨b2, off, rfl, p1⟩ := HY.out.at (k := k) (by rw [HN.out]; exact hlt)
      have g1 := cell_later A0.out p1
      obtain ⟨x, hx⟩ : ∃ x, xs.getD k 0 = x := ⟨_, rfl⟩
      have HX := hide hx
      rw [hx] at g1
      clear hx p1
      by_cases hp : 0 ≤ x ∧ x < 40
      · obtain ⟨hp1, hp2⟩ := hp
        go_wp2_with fail
        refine (isHome_yes x hp1 hp2 _).mono ?_
        rintro e w' ⟨rfl, rfl⟩
        go_wp2
        go_roundw
        case rel => exact ⟨k + 1, by omega, by go_num, fun j hj => (by by_cases e : j = k; · subst e; rw [HX.out]; omega
                                                                       · exact HA.out j (by omega)), by simp⟩
        case measure => simp [intOf]; omega
      · have hz3 : z = 3 := HZ.out.symm.trans (headF_at HRg.out (by rw [HN.out]; exact hb) (i := k) (by rw [HN.out]; exact hlt) (by rw [HX.out]; omega))
        subst hz3
        have HP := hide hp
        clear hp
        go_wp2_with fail
        refine (isHome_no x HP.out _).mono ?_
        rintro e w' ⟨rfl, rfl⟩
        go_wp2
        go_ret
        exact ⟨rfl, A0.out⟩
    · have hz0 : z = 0 := HZ.out.symm.trans (headF_ok HRg.out (by rw [HN.out]; exact hb) (fun i hi => HA.out i (by rw [HN.out] at hi; omega)))
      subst hz0
      go_wp2
      go_ret
      exact ⟨rfl, A0.out⟩
end Go.Proofs.Ytkdbkkhmaiomkaa
