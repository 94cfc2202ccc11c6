/- 'spec.CrashDisk', walked. -/
import Derived.Test.YtaccllclihbpfaaCrash0
namespace Go.Proofs.Ytaccllclihbpfaa
open Go.RowKit

set_option maxHeartbeats 4000000 in
set_option maxRecDepth 4000 in
theorem specCrash {S T S2 : Nat → Prop} {w : World} {u v y : Value} {xss : List (List Int)} {ps : List (Int × List Int)} {qs : List Int} (hu : RdII S w u xss) (hv : RdP T w v ps) (hy : RdI S2 w y qs) (hs : Small xss ps) :
    Calls Try.prog 13 #[.agg #[u, v], y] w (EndsD (crashF xss ps qs) (crashXs xss ps qs) [] w) := by
  unfold EndsD crashXs
  have HU := hide hu
  have HV := hide hv
  have HY := hide hy
  have HS := hide hs
  obtain ⟨ao, c, rfl, hn⟩ := hu.shape
  obtain ⟨ao', c', rfl, hm⟩ := hv.shape
  have hyl : qs.length ≤ 9223372036854775807 := by obtain ⟨_, _, _, h, _⟩ := hy; exact h
  obtain ⟨ay, cy, rfl⟩ := hy.shape
  clear hu hv hs hy
  obtain ⟨z, hz⟩ : ∃ z, diskF xss ps = z := ⟨_, rfl⟩
  by_cases h0 : z = 0
  · subst h0
    have hc : crashF xss ps qs = picksF qs := by unfold crashF; rw [if_pos hz]
    rw [hc]
    obtain ⟨R, hR⟩ : ∃ R, (if picksF qs = 0 then keepTo xss ps (pkOf false qs) ps.length else []) = R := ⟨_, rfl⟩
    obtain ⟨f, hf⟩ : ∃ f, picksF qs = f := ⟨_, rfl⟩
    rw [hR, hf]
    have HRs := hide hR
    have HFs := hide hf
    clear hR hf
    have HSo := hide (diskF_zero hz)
    have HZ := hide hz
    obtain ⟨m, hm'⟩ : ∃ m, qs.length = m := ⟨_, rfl⟩
    have HM := hide hm'
    rw [hm'] at HY hyl ⊢
    clear hz hc hm'
    go_enter Try.func13, Try.ntmps13
    go_wp2_with fail
    refine (l1Fault (u := .slice ao xss.length c) (v := .slice ao' ps.length c') (by simp [go_sem]) (by simp [go_sem]) ((HU.out.later (below_alloc _ _)).later (below_alloc _ _)) ((HV.out.later (below_alloc _ _)).later (below_alloc _ _))).mono ?_
    rintro e w1 ⟨he, q, hw1⟩
    rw [HZ.out] at he
    subst he
    have HB : Hid (Below w.heap.size w w1) := by rw [hw1]; exact below_on (below_on (below_alloc _ _) (below_alloc _ _)) (below_drewN _ _)
    have q0 : w1.cell? ⟨w.heap.size, 0, none⟩ = some (.slice ao xss.length c) := by rw [hw1]; simp [go_sem]
    have q1 : w1.cell? ⟨w.heap.size, 1, none⟩ = some (.slice ao' ps.length c') := by rw [hw1]; simp [go_sem]
    have v0 : w1.cell? ⟨w.heap.size + 1, 0, none⟩ = some (.int .i64 0) := by rw [hw1]; simp [go_sem]
    have v1 : w1.cell? ⟨w.heap.size + 1, 1, none⟩ = some (.slice none 0 0) := by rw [hw1]; simp [go_sem]
    have v2 : w1.cell? ⟨w.heap.size + 1, 2, none⟩ = some (.slice none 0 0) := by rw [hw1]; simp [go_sem]
    have f : ∀ o, w1.frozen? ⟨w.heap.size + 1, o, none⟩ = false := by rw [hw1]; intro o; simp [go_sem]
    have hs1 : w1.heap.size = w.heap.size + 2 := by rw [hw1]; simp
    have f0 := f 0
    have f1 := f 1
    have f2 := f 2
    have HF := hide f
    clear hw1 f
    by_cases hbig : 200 < m
    · have hp := picksF_many (qs := qs) (by rw [HM.out]; exact hbig)
      have HP := hide hp
      clear hp
      go_wp2
      refine bodyPost_ret (v := .agg #[.int .i64 2, .slice none 0 0, .slice none 0 0]) (by simp [results, Try.results13, go_sem, v0, v1, v2]) rfl ⟨.slice none 0 0, .slice none 0 0, by rw [← HFs.out, HP.out], ?_, by rw [← HRs.out, if_neg (by rw [HP.out]; decide)]; exact OwD_nil _ _⟩
      exact ((HB.out.setCell (by simp) _).setCell (by simp) _).setCell (by simp) _
    · go_wp2
      go_loopw [6] (fun i wr => ∃ k : Nat, k ≤ m ∧ i = .int .i64 k ∧ Hid (∀ j, j < k → 0 ≤ qs.getD j 0 ∧ qs.getD j 0 ≤ 3) ∧ wr = w1) (fun i _ => m - (intOf i).toNat)
      case atStart => exact ⟨0, Nat.zero_le _, rfl, fun j hj => absurd hj (Nat.not_lt_zero _), rfl⟩
      case round =>
        obtain ⟨k, hk, rfl, HA, rfl⟩ := hrel
        by_cases hlt : k < m
        · obtain ⟨b, off, rfl, p1⟩ := HY.out.at (k := k) (by rw [HM.out]; exact hlt)
          have g1 := cell_later HB.out p1
          obtain ⟨x, hx⟩ : ∃ x, qs.getD k 0 = x := ⟨_, rfl⟩
          have HX := hide hx
          rw [hx] at g1
          clear hx p1
          by_cases hp : 0 ≤ x ∧ x ≤ 3
          · go_wp2_with fail
            refine (l1In_yes x 0 3 hp.1 hp.2 _).mono ?_
            rintro e w2 ⟨rfl, rfl⟩
            go_wp2
            go_roundw
            case rel => exact ⟨k + 1, by omega, by go_num, fun j hj => (by by_cases e : j = k; · subst e; rw [HX.out]; exact hp
                                                                           · exact HA.out j (by omega)), by simp⟩
            case measure => simp [intOf]; omega
          · have hz := picksF_range (qs := qs) (by rw [HM.out]; exact hbig) (i := k) (by rw [HM.out]; exact hlt) (by rw [HX.out]; exact hp)
            have HP := hide hz
            clear hz
            go_wp2_with fail
            refine (l1In_no x 0 3 (by omega) _).mono ?_
            rintro e w2 ⟨rfl, rfl⟩
            go_wp2
            refine bodyPost_ret (v := .agg #[.int .i64 3, .slice none 0 0, .slice none 0 0]) (by simp [results, Try.results13, go_sem, v0, v1, v2]) rfl ⟨.slice none 0 0, .slice none 0 0, by rw [← HFs.out, HP.out], ?_, by rw [← HRs.out, if_neg (by rw [HP.out]; decide)]; exact OwD_nil _ _⟩
            exact ((HB.out.setCell (by simp) _).setCell (by simp) _).setCell (by simp) _
        · have hp := picksF_ok (qs := qs) (by rw [HM.out]; exact hbig) (fun i hi => HA.out i (by rw [HM.out] at hi; omega))
          have HP := hide hp
          clear hp
          go_wp2_with fail
          refine (l1Keep (all := false) (qs := qs) (HU.out.later HB.out) (HV.out.later HB.out) (HY.out.later HB.out) HS.out HSo.out (fun k _ => picks_pk HP.out k)).mono ?_
          rintro e w3 ⟨z1, z2, rfl, hb1, hD⟩
          obtain ⟨a1, k1, a2, k2, rfl, rfl⟩ := hD.shape
          have k0 := cell_later hb1 v0
          have k1' := cell_later hb1 v1
          have k2' := cell_later hb1 v2
          have g0 := ((bcell hb1).2 _ _ (by omega)).trans (HF.out 0)
          have g1 := ((bcell hb1).2 _ _ (by omega)).trans (HF.out 1)
          have g2 := ((bcell hb1).2 _ _ (by omega)).trans (HF.out 2)
          have HB1 := hide (below_on HB.out hb1)
          have HD := hide hD
          obtain ⟨lk, hlk⟩ : ∃ lk, (keepTo xss ps (pkOf false qs) ps.length).length = lk := ⟨_, rfl⟩
          rw [hlk] at HD ⊢
          clear hb1 hD hlk v0 v1 v2 f0 f1 f2
          go_wp2
          have hfin := ret_disk (x := .int .i64 0) HB1.out (r := w.heap.size + 1) (by omega) HD.out (by omega)
          refine bodyPost_ret (v := .agg #[.int .i64 0, .slice a1 lk k1, .slice a2 0 k2]) (by simp [results, Try.results13, go_sem, k0, k1', k2']) rfl ⟨.slice a1 lk k1, .slice a2 0 k2, by rw [← HFs.out, HP.out], hfin.1, by rw [← HRs.out, if_pos HP.out]; exact hfin.2⟩
  · have hc : crashF xss ps qs = z := by unfold crashF; rw [if_neg (by rw [hz]; exact h0), hz]
    rw [if_neg (by rw [hc]; exact h0), hc]
    have HZ := hide hz
    clear hz hc
    go_enter Try.func13, Try.ntmps13
    go_wp2_with fail
    refine (l1Fault (u := .slice ao xss.length c) (v := .slice ao' ps.length c') (by simp [go_sem]) (by simp [go_sem]) ((HU.out.later (below_alloc _ _)).later (below_alloc _ _)) ((HV.out.later (below_alloc _ _)).later (below_alloc _ _))).mono ?_
    rintro e w1 ⟨he, q, rfl⟩
    rw [HZ.out] at he
    subst he
    go_wp2
    refine bodyPost_ret (v := .agg #[.int .i64 z, .slice none 0 0, .slice none 0 0]) (by simp [results, Try.results13, go_sem]) rfl ⟨_, _, rfl, ?_, OwD_nil _ _⟩
    exact (((below_on (below_on (below_alloc _ _) (below_alloc _ _)) (below_drewN _ _)).setCell (by simp) _).setCell (by simp) _).setCell (by simp) _
end Go.Proofs.Ytaccllclihbpfaa
