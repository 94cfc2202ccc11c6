/- 'impl.TearWords' and 'spec.TearWords', walked. Made by program. -/
import Derived.Test.YtojcjipelgjglaaTorn2
import Derived.Test.YtojcjipelgjglaaRet
namespace Go.Proofs.Ytojcjipelgjglaa
open Go.RowKit

theorem isPick_yes (p : Int) (w : World) (h0 : 0 ≤ p) (h3 : p ≤ 3) : Calls Try.prog 52 #[.int .i64 p] w fun e w' => e = .returned (.bool true) ∧ w' = w := by
  go_enter Try.func52, Try.ntmps52
  go_wp2
  go_ret
  exact ⟨by simp, rfl⟩
theorem isPick_no (p : Int) (w : World) (h : ¬ (0 ≤ p ∧ p ≤ 3)) : Calls Try.prog 52 #[.int .i64 p] w fun e w' => e = .returned (.bool false) ∧ w' = w := by
  by_cases h0 : 0 ≤ p
  · have h3 : ¬ p ≤ 3 := by omega
    clear h
    go_enter Try.func52, Try.ntmps52
    go_wp2
    go_ret
    exact ⟨by simp, rfl⟩
  · clear h
    go_enter Try.func52, Try.ntmps52
    go_wp2
    go_ret
    exact ⟨by simp, rfl⟩

/-- The code of a tear. -/
def tearF (old next : List Int) (p : Int) : Int := if wordsF old = 0 then (if wordsF next = 0 then (if 0 ≤ p ∧ p ≤ 3 then 0 else 3) else wordsF next) else wordsF old
def tearXs (old next : List Int) (p : Int) : List Int := if tearF old next p = 0 then tear old next p else []
theorem tearXs_len (old next : List Int) (p : Int) : (tearXs old next p).length ≤ 1048576 := by
  unfold tearXs
  split
  · rename_i h
    unfold tearF at h
    split at h
    · rename_i h1
      split at h
      · rename_i h2
        have := tear_len (old := old) (next := next) (p := p) (wordsF_zero h1).1 (wordsF_zero h2).1
        omega
      · rename_i h2
        exact absurd h h2
    · rename_i h1
      exact absurd h h1
  · simp

set_option maxHeartbeats 2000000 in
set_option maxRecDepth 4000 in
theorem implTear {S T : Nat → Prop} {w : World} {u v : Value} {old next : List Int} (p : Int) (hu : RdI S w u old) (hv : RdI T w v next) :
    Calls Try.prog 18 #[u, v, .int .i64 p] w (EndsI (tearF old next p) (tearXs old next p) w) := by
  unfold EndsI tearXs
  have HU := hide hu
  have HV := hide hv
  obtain ⟨ao, c, rfl⟩ := hu.shape
  obtain ⟨ao', c', rfl⟩ := hv.shape
  clear hu hv
  have v0 : (w.alloc (.cells #[.int .i64 0, .slice none 0 0] 33)).cell? ⟨w.heap.size, 0, none⟩ = some (.int .i64 0) := by simp [go_sem]
  have HA := hide (below_alloc w (.cells #[.int .i64 0, .slice none 0 0] 33))
  obtain ⟨z, hz⟩ : ∃ z, wordsF old = z := ⟨_, rfl⟩
  by_cases h1 : wordsF old = 0
  · rw [hz] at h1
    subst h1
    have h1 := hz
    obtain ⟨y, hy⟩ : ∃ y, wordsF next = y := ⟨_, rfl⟩
    by_cases h2 : y = 0
    · subst h2
      have h2 := hy
      by_cases hp : 0 ≤ p ∧ p ≤ 3
      · have hc : tearF old next p = 0 := by unfold tearF; rw [if_pos h1, if_pos h2, if_pos hp]
        rw [if_pos hc, hc]
        have HZ := hide hz
        have HY := hide hy
        clear hz hy hc v0
        go_enter Try.func18, Try.ntmps18
        go_wp2_with fail
        refine (wordsFault (HU.out.later HA.out)).mono ?_
        rintro e w1 ⟨he, q, rfl⟩
        rw [HZ.out] at he
        subst he
        go_wp2_with fail
        refine (wordsFault (HV.out.later (below_on HA.out (below_drewN _ q)))).mono ?_
        rintro e w1 ⟨he, q2, rfl⟩
        rw [HY.out] at he
        subst he
        go_wp2_with fail
        refine (isPick_yes p _ hp.1 hp.2).mono ?_
        rintro e w1 ⟨rfl, rfl⟩
        have HB := hide (below_on HA.out (below_drewN _ (q + q2)))
        go_wp2_with fail
        refine (tornWords (HU.out.later HB.out) (HV.out.later HB.out) h1 h2 hp.1 hp.2).mono ?_
        rintro e w1 ⟨zt, rfl, hb1, ho1⟩
        obtain ⟨at1, ct, hsh⟩ := ho1.shape
        obtain ⟨l, hl⟩ : ∃ l, (tear old next p).length = l := ⟨_, rfl⟩
        rw [hl] at hsh
        subst hsh
        clear hl
        have HB1 := hide (below_on HB.out hb1)
        have HO1 := hide ho1
        have v0 : w1.cell? ⟨w.heap.size, 0, none⟩ = some (.int .i64 0) := cell_later hb1 (by simp [go_sem])
        have v1 : w1.cell? ⟨w.heap.size, 1, none⟩ = some (.slice none 0 0) := cell_later hb1 (by simp [go_sem])
        have f0 : w1.frozen? ⟨w.heap.size, 0, none⟩ = false := ((bcell hb1).2 _ _ (by simp)).trans (by simp [go_sem])
        have f1 : w1.frozen? ⟨w.heap.size, 1, none⟩ = false := ((bcell hb1).2 _ _ (by simp)).trans (by simp [go_sem])
        clear hb1 ho1
        go_wp2
        have hfin := ret_ints (x := .int .i64 0) HB1.out (r := w.heap.size) (Nat.le_refl _) HO1.out (by simp)
        refine bodyPost_ret (v := .agg #[.int .i64 0, .slice at1 l ct]) (by simp [results, Try.results18, go_sem, v0, v1]) rfl ⟨_, rfl, hfin.1, hfin.2⟩
      · have hc : tearF old next p = 3 := by unfold tearF; rw [if_pos h1, if_pos h2, if_neg hp]
        rw [if_neg (by rw [hc]; decide), hc]
        have HZ := hide hz
        have HY := hide hy
        clear hz hy hc v0
        go_enter Try.func18, Try.ntmps18
        go_wp2_with fail
        refine (wordsFault (HU.out.later HA.out)).mono ?_
        rintro e w1 ⟨he, q, rfl⟩
        rw [HZ.out] at he
        subst he
        go_wp2_with fail
        refine (wordsFault (HV.out.later (below_on HA.out (below_drewN _ q)))).mono ?_
        rintro e w1 ⟨he, q2, rfl⟩
        rw [HY.out] at he
        subst he
        go_wp2_with fail
        refine (isPick_no p _ hp).mono ?_
        rintro e w1 ⟨rfl, rfl⟩
        have HB := hide (below_on HA.out (below_drewN _ (q + q2)))
        go_wp2
        refine bodyPost_ret (v := .agg #[.int .i64 3, .slice none 0 0]) (by simp [results, Try.results18, go_sem]) rfl ⟨_, rfl, ?_, OwI_nil _ _⟩
        exact (HB.out.setCell (by simp) _).setCell (by simp) _
    · have hc : tearF old next p = y := by unfold tearF; rw [if_pos h1, if_neg (by rw [hy]; exact h2), hy]
      rw [if_neg (by rw [hc]; exact h2), hc]
      have HZ := hide hz
      have HY := hide hy
      clear hz hy hc v0
      go_enter Try.func18, Try.ntmps18
      go_wp2_with fail
      refine (wordsFault (HU.out.later HA.out)).mono ?_
      rintro e w1 ⟨he, q, rfl⟩
      rw [HZ.out] at he
      subst he
      go_wp2_with fail
      refine (wordsFault (HV.out.later (below_on HA.out (below_drewN _ q)))).mono ?_
      rintro e w1 ⟨he, q2, rfl⟩
      rw [HY.out] at he
      subst he
      have HB := hide (below_on HA.out (below_drewN _ (q + q2)))
      go_wp2
      refine bodyPost_ret (v := .agg #[.int .i64 y, .slice none 0 0]) (by simp [results, Try.results18, go_sem]) rfl ⟨_, rfl, ?_, OwI_nil _ _⟩
      exact (HB.out.setCell (by simp) _).setCell (by simp) _
  · have hc : tearF old next p = z := by unfold tearF; rw [if_neg h1, hz]
    rw [hz] at h1
    rw [if_neg (by rw [hc]; exact h1), hc]
    have HZ := hide hz
    clear hz hc v0
    go_enter Try.func18, Try.ntmps18
    go_wp2_with fail
    refine (wordsFault (HU.out.later HA.out)).mono ?_
    rintro e w1 ⟨he, q, rfl⟩
    rw [HZ.out] at he
    subst he
    have HB := hide (below_on HA.out (below_drewN _ q))
    go_wp2
    refine bodyPost_ret (v := .agg #[.int .i64 z, .slice none 0 0]) (by simp [results, Try.results18, go_sem]) rfl ⟨_, rfl, ?_, OwI_nil _ _⟩
    exact (HB.out.setCell (by simp) _).setCell (by simp) _

end Go.Proofs.Ytojcjipelgjglaa
