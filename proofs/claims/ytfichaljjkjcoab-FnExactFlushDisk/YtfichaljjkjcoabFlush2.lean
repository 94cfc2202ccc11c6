/- 'spec.FlushDisk', walked. -/
import Derived.Test.YtfichaljjkjcoabFlush
import Derived.Test.YtfichaljjkjcoabKeep
namespace Go.Proofs.Ytfichaljjkjcoab
open Go.RowKit

set_option maxHeartbeats 4000000 in
set_option maxRecDepth 4000 in
theorem specFlush {S T : Nat → Prop} {w : World} {u v : Value} {xss : List (List Int)} {ps : List (Int × List Int)} (hu : RdII S w u xss) (hv : RdP T w v ps) (hs : Small xss ps) :
    Calls Try.prog 7 #[.agg #[u, v]] w (EndsD (diskF xss ps) (flushXs xss ps) [] w) := by
  unfold EndsD flushXs
  have HU := hide hu
  have HV := hide hv
  have HS := hide hs
  obtain ⟨ao, c, rfl, hn⟩ := hu.shape
  obtain ⟨ao', c', rfl, hm⟩ := hv.shape
  clear hu hv hs
  obtain ⟨z, hz⟩ : ∃ z, diskF xss ps = z := ⟨_, rfl⟩
  by_cases h0 : z = 0
  · subst h0
    rw [if_pos hz, hz]
    have HSo := hide (diskF_zero hz)
    have HZ := hide hz
    clear hz
    go_enter Try.func7, Try.ntmps7
    go_wp2_with fail
    refine (l1Fault (u := .slice ao xss.length c) (v := .slice ao' ps.length c') (by simp [go_sem]) (by simp [go_sem]) ((HU.out.later (below_alloc _ _)).later (below_alloc _ _)) ((HV.out.later (below_alloc _ _)).later (below_alloc _ _))).mono ?_
    rintro e w1 ⟨he, q, rfl⟩
    rw [HZ.out] at he
    subst he
    go_wp2_with fail
    refine (l1Keep (all := true) (qs := []) ((HU.out.later (below_alloc _ _)).later (below_on (below_alloc _ _) (below_drewN _ _))) ((HV.out.later (below_alloc _ _)).later (below_on (below_alloc _ _) (below_drewN _ _))) (RdI_nil (fun _ => True) _ none 0) HS.out HSo.out (fun k _ => by simp [pkOf])).mono ?_
    rintro e w1 ⟨z1, z2, rfl, hb1, hD⟩
    rw [pkOf_all] at hD
    obtain ⟨a1, k1, a2, k2, rfl, rfl⟩ := hD.shape
    have v0 : w1.cell? ⟨w.heap.size + 1, 0, none⟩ = some (.int .i64 0) := cell_later hb1 (by simp [go_sem])
    have v1 : w1.cell? ⟨w.heap.size + 1, 1, none⟩ = some (.slice none 0 0) := cell_later hb1 (by simp [go_sem])
    have v2 : w1.cell? ⟨w.heap.size + 1, 2, none⟩ = some (.slice none 0 0) := cell_later hb1 (by simp [go_sem])
    have f : ∀ o, w1.frozen? ⟨w.heap.size + 1, o, none⟩ = false := fun o => ((bcell hb1).2 _ _ (by simp)).trans (by simp [go_sem])
    have f0 := f 0
    have f1 := f 1
    have f2 := f 2
    have HB1 := hide (below_on (below_on (below_alloc _ _) (below_on (below_alloc _ _) (below_drewN _ _))) hb1)
    have HD := hide hD
    clear hb1 hD f
    go_wp2
    have hfin := ret_disk (x := .int .i64 0) HB1.out (r := w.heap.size + 1) (by omega) HD.out (by simp)
    refine bodyPost_ret (v := .agg #[.int .i64 0, .slice a1 (keepTo xss ps (fun _ => 1) ps.length).length k1, .slice a2 0 k2]) (by simp [results, Try.results7, go_sem, v0, v1, v2]) rfl ⟨_, _, rfl, hfin.1, hfin.2⟩
  · rw [if_neg (by rw [hz]; exact h0), hz]
    have HZ := hide hz
    clear hz
    go_enter Try.func7, Try.ntmps7
    go_wp2_with fail
    refine (l1Fault (u := .slice ao xss.length c) (v := .slice ao' ps.length c') (by simp [go_sem]) (by simp [go_sem]) ((HU.out.later (below_alloc _ _)).later (below_alloc _ _)) ((HV.out.later (below_alloc _ _)).later (below_alloc _ _))).mono ?_
    rintro e w1 ⟨he, q, rfl⟩
    rw [HZ.out] at he
    subst he
    go_wp2
    refine bodyPost_ret (v := .agg #[.int .i64 z, .slice none 0 0, .slice none 0 0]) (by simp [results, Try.results7, go_sem]) rfl ⟨_, _, rfl, ?_, OwD_nil _ _⟩
    exact (((below_on (below_on (below_alloc _ _) (below_alloc _ _)) (below_drewN _ _)).setCell (by simp) _).setCell (by simp) _).setCell (by simp) _
theorem flush_bound (xss : List (List Int)) (ps : List (Int × List Int)) : tot (flushXs xss ps) (flushXs xss ps).length + totP [] ([] : List (Int × List Int)).length ≤ 16777216 := by
  unfold flushXs
  split
  · rename_i h
    exact keep_bound (diskF_zero h) _
  · simp [tot, totP]
end Go.Proofs.Ytfichaljjkjcoab
