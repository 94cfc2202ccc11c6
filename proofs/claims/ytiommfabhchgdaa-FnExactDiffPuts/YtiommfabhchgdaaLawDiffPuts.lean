/- The law 'FnExactDiffPuts' walked, out of what the program's function and the model's leave. Made by program (gendfp.py, out of ApplyPuts'). -/
import Derived.Test.YtiommfabhchgdaaIvP
namespace Go.Proofs.Ytiommfabhchgdaa
open Go.RowKit

set_option maxHeartbeats 4000000 in
theorem lawDiffPuts_small {S0 S1 : Nat → Prop} {w : World} {y0 : Value} {qs0 : List (Int × List Int)} {y1 : Value} {qs1 : List (Int × List Int)} (hy0 : RdP S0 w y0 qs0) (hy1 : RdP S1 w y1 qs1) (code : Int) (rs : List (Int × List Int)) (hres : totP rs rs.length ≤ 1073741824)
    (hq0 : szQ qs0 ≤ 1048576) (hq1 : szQ qs0 + szQ qs1 ≤ 1048576)
    (hspec : ∀ (S0 S1 : Nat → Prop) (w : World) (y0 y1 : Value), RdP S0 w y0 qs0 → RdP S1 w y1 qs1 → Calls Try.prog 15 #[y0, y1] w (EndsP code rs w))
    (himpl : ∀ (S0 S1 : Nat → Prop) (w : World) (y0 y1 : Value), RdP S0 w y0 qs0 → RdP S1 w y1 qs1 → Calls Try.prog 17 #[y0, y1] w (EndsP code rs w)) :
    Calls Try.prog 4 #[y0, y1] w fun e w' => e = .returned (.bool true) ∧ Below w.heap.size w w' := by
  have HS := hide hspec
  have HI := hide himpl
  clear hspec himpl
  obtain ⟨ay0, cy0, hyv0, _⟩ := id hy0
  subst hyv0
  have HY0 := hide hy0
  clear hy0
  have HZ0 := hide (szv_yes (left := (1048576 : Int)) (s := szQ qs0) (by omega))
  have hp0 : ¬ ((1048576 : Int) - szQ qs0 < 0) := by omega
  have HQ0 := hide (smallQ (by have := szQ_nonneg qs0; omega : szQ qs0 ≤ 1048576))
  have hsd0 : 0 ≤ (1048576 : Int) ∧ (1048576 : Int) ≤ 1048576 := by have := szQ_nonneg qs0; omega
  obtain ⟨ay1, cy1, hyv1, _⟩ := id hy1
  subst hyv1
  have HY1 := hide hy1
  clear hy1
  have HZ1 := hide (szv_yes (left := (1048576 : Int) - szQ qs0) (s := szQ qs1) (by omega))
  have hp1 : ¬ ((1048576 : Int) - szQ qs0 - szQ qs1 < 0) := by omega
  have HQ1 := hide (smallQ (by have := szQ_nonneg qs0; have := szQ_nonneg qs1; omega : szQ qs1 ≤ 1048576))
  have hsd1 : 0 ≤ (1048576 : Int) - szQ qs0 ∧ (1048576 : Int) - szQ qs0 ≤ 1048576 := by have := szQ_nonneg qs0; have := szQ_nonneg qs1; omega
  clear hq0 hq1
  have HRB := hide (show (1 : Int) + (totP rs rs.length : Int) ≤ 9223372036854775807 by omega)
  have hM : 0 ≤ (1 : Int) + (totP rs rs.length : Int) := by omega
  obtain ⟨M, hMe⟩ : ∃ M : Int, (1 : Int) + (totP rs rs.length : Int) = M := ⟨_, rfl⟩
  rw [hMe] at hM
  have HMe := hide hMe
  clear hMe hres
  go_enter Try.func4, Try.ntmps4
  have BB := hide (Below.refl w.heap.size w)
  go_wp2_with fail
  refine (szP (HY0.out.later BB.out) hsd0.1 hsd0.2).mono ?_
  rintro e w1 ⟨he, hb⟩
  rw [show ((qs0.length : Int) + (totW qs0 qs0.length : Int)) = szQ qs0 from rfl, HZ0.out] at he
  subst he
  have BC := hide (below_on BB.out hb)
  have z1 : w.heap.size ≤ w1.heap.size := by have := hb.size; simpa using this
  clear hb
  clear BB
  have BB := BC
  clear BC
  go_wp2_with fail
  refine (szP (HY1.out.later BB.out) hsd1.1 hsd1.2).mono ?_
  rintro e w2 ⟨he, hb⟩
  rw [show ((qs1.length : Int) + (totW qs1 qs1.length : Int)) = szQ qs1 from rfl, HZ1.out] at he
  subst he
  have BC := hide (below_on BB.out hb)
  have z2 : w1.heap.size ≤ w2.heap.size := by have := hb.size; simpa using this
  clear hb
  clear BB
  have BB := BC
  clear BC
  go_wp2_with fail
  refine (toP (HY0.out.later BB.out) HQ0.out.1 HQ0.out.2.1).mono ?_
  rintro e w3 ⟨zpI0, rfl, hb, ho⟩
  obtain ⟨apI0, cpI0, rfl⟩ := ho.shape
  have BC := hide (below_on BB.out hb)
  have z3 : w2.heap.size ≤ w3.heap.size := by have := hb.size; simpa using this
  have N_pI0 := hide (ho.iv)
  clear hb
  clear ho
  clear BB
  have BB := BC
  clear BC
  have F_pI0 := N_pI0
  clear N_pI0
  go_wp2_with fail
  refine (toP (HY1.out.later BB.out) HQ1.out.1 HQ1.out.2.1).mono ?_
  rintro e w4 ⟨zpI1, rfl, hb, ho⟩
  obtain ⟨apI1, cpI1, rfl⟩ := ho.shape
  have G_pI0 := hide (F_pI0.out.later hb)
  have BC := hide (below_on BB.out hb)
  have z4 : w3.heap.size ≤ w4.heap.size := by have := hb.size; simpa using this
  have N_pI1 := hide (ho.iv)
  clear hb
  clear ho
  clear F_pI0
  have F_pI0 := G_pI0
  clear G_pI0
  clear BB
  have BB := BC
  clear BC
  have F_pI1 := N_pI1
  clear N_pI1
  go_wp2_with fail
  refine (HS.out _ _ _ _ _ F_pI0.out.rd F_pI1.out.rd).mono ?_
  rintro e w5 ⟨rW, rfl, hb, ho⟩
  obtain ⟨aoW, cW, rfl⟩ := ho.shape
  have G_pI0 := hide (F_pI0.out.later hb)
  have G_pI1 := hide (F_pI1.out.later hb)
  have BC := hide (below_on BB.out hb)
  have z5 : w4.heap.size ≤ w5.heap.size := by have := hb.size; simpa using this
  have N_W := hide (ho.iv)
  clear hb
  clear ho
  clear F_pI0
  have F_pI0 := G_pI0
  clear G_pI0
  clear F_pI1
  have F_pI1 := G_pI1
  clear G_pI1
  clear BB
  have BB := BC
  clear BC
  have F_W := N_W
  clear N_W
  clear F_pI0
  clear F_pI1
  go_wp2_with fail
  refine (toP (HY0.out.later (below_on BB.out (below_alloc _ (.cells #[.int .i64 code, .slice aoW rs.length cW] 29)))) HQ0.out.1 HQ0.out.2.1).mono ?_
  rintro e w6 ⟨zxI0, rfl, hb, ho⟩
  obtain ⟨axI0, cxI0, rfl⟩ := ho.shape
  have G_W := hide ((F_W.out.later (below_alloc _ (.cells #[.int .i64 code, .slice aoW rs.length cW] 29))).later hb)
  have BC := hide (below_on (below_on BB.out (below_alloc _ (.cells #[.int .i64 code, .slice aoW rs.length cW] 29))) hb)
  have z6 : w5.heap.size + 1 ≤ w6.heap.size := by have := hb.size; simpa using this
  have N_xI0 := hide (ho.iv)
  have N_vW := hide ((Var2_new w5 (.int .i64 code) (.slice aoW rs.length cW) 29).later hb)
  clear hb
  clear ho
  clear F_W
  have F_W := G_W
  clear G_W
  clear BB
  have BB := BC
  clear BC
  have F_xI0 := N_xI0
  clear N_xI0
  have F_vW := N_vW
  clear N_vW
  go_wp2_with fail
  refine (toP (HY1.out.later BB.out) HQ1.out.1 HQ1.out.2.1).mono ?_
  rintro e w7 ⟨zxI1, rfl, hb, ho⟩
  obtain ⟨axI1, cxI1, rfl⟩ := ho.shape
  have G_W := hide (F_W.out.later hb)
  have G_xI0 := hide (F_xI0.out.later hb)
  have G_vW := hide (F_vW.out.later hb)
  have BC := hide (below_on BB.out hb)
  have z7 : w6.heap.size ≤ w7.heap.size := by have := hb.size; simpa using this
  have N_xI1 := hide (ho.iv)
  clear hb
  clear ho
  clear F_W
  have F_W := G_W
  clear G_W
  clear F_xI0
  have F_xI0 := G_xI0
  clear G_xI0
  clear F_vW
  have F_vW := G_vW
  clear G_vW
  clear BB
  have BB := BC
  clear BC
  have F_xI1 := N_xI1
  clear N_xI1
  go_wp2_with fail
  refine (HI.out _ _ _ _ _ F_xI0.out.rd F_xI1.out.rd).mono ?_
  rintro e w8 ⟨rG, rfl, hb, ho⟩
  obtain ⟨aoG, cG, rfl⟩ := ho.shape
  have G_W := hide (F_W.out.later hb)
  have G_xI0 := hide (F_xI0.out.later hb)
  have G_vW := hide (F_vW.out.later hb)
  have G_xI1 := hide (F_xI1.out.later hb)
  have BC := hide (below_on BB.out hb)
  have z8 : w7.heap.size ≤ w8.heap.size := by have := hb.size; simpa using this
  have N_G := hide (ho.iv)
  clear hb
  clear ho
  clear F_W
  have F_W := G_W
  clear G_W
  clear F_xI0
  have F_xI0 := G_xI0
  clear G_xI0
  clear F_vW
  have F_vW := G_vW
  clear G_vW
  clear F_xI1
  have F_xI1 := G_xI1
  clear G_xI1
  clear BB
  have BB := BC
  clear BC
  have F_G := N_G
  clear N_G
  have vWlt := F_vW.out.lt
  obtain ⟨vWc0, vWc1⟩ := F_vW.out
  go_wp2_with fail
  refine (eqPutsResult (F_G.out.later (below_alloc _ _)).rd (F_W.out.later (below_alloc _ _)).rd).mono ?_
  rintro e w9 ⟨rfl, hb⟩
  have G_W := hide ((F_W.out.later (below_alloc _ (.cells #[.int .i64 code, .slice aoG rs.length cG] 29))).later hb)
  have G_xI0 := hide ((F_xI0.out.later (below_alloc _ (.cells #[.int .i64 code, .slice aoG rs.length cG] 29))).later hb)
  have G_vW := hide ((F_vW.out.later (below_alloc _ (.cells #[.int .i64 code, .slice aoG rs.length cG] 29))).later hb)
  have G_xI1 := hide ((F_xI1.out.later (below_alloc _ (.cells #[.int .i64 code, .slice aoG rs.length cG] 29))).later hb)
  have G_G := hide ((F_G.out.later (below_alloc _ (.cells #[.int .i64 code, .slice aoG rs.length cG] 29))).later hb)
  have BC := hide (below_on (below_on BB.out (below_alloc _ (.cells #[.int .i64 code, .slice aoG rs.length cG] 29))) hb)
  have z9 : w8.heap.size + 1 ≤ w9.heap.size := by have := hb.size; simpa using this
  have N_vG := hide ((Var2_new w8 (.int .i64 code) (.slice aoG rs.length cG) 29).later hb)
  clear hb
  clear vWlt vWc0 vWc1
  clear F_W
  have F_W := G_W
  clear G_W
  clear F_xI0
  have F_xI0 := G_xI0
  clear G_xI0
  clear F_vW
  have F_vW := G_vW
  clear G_vW
  clear F_xI1
  have F_xI1 := G_xI1
  clear G_xI1
  clear F_G
  have F_G := G_G
  clear G_G
  clear BB
  have BB := BC
  clear BC
  have F_vG := N_vG
  clear N_vG
  go_wp2_with fail
  refine (toP (HY0.out.later BB.out) HQ0.out.1 HQ0.out.2.1).mono ?_
  rintro e w10 ⟨zt0, rfl, hb, ho⟩
  have G_W := hide (F_W.out.later hb)
  have G_xI0 := hide (F_xI0.out.later hb)
  have G_vW := hide (F_vW.out.later hb)
  have G_xI1 := hide (F_xI1.out.later hb)
  have G_G := hide (F_G.out.later hb)
  have G_vG := hide (F_vG.out.later hb)
  have BC := hide (below_on BB.out hb)
  have z10 : w9.heap.size ≤ w10.heap.size := by have := hb.size; simpa using this
  have N_t0 := hide (ho.iv)
  clear hb
  clear ho
  clear F_W
  have F_W := G_W
  clear G_W
  clear F_xI0
  have F_xI0 := G_xI0
  clear G_xI0
  clear F_vW
  have F_vW := G_vW
  clear G_vW
  clear F_xI1
  have F_xI1 := G_xI1
  clear G_xI1
  clear F_G
  have F_G := G_G
  clear G_G
  clear F_vG
  have F_vG := G_vG
  clear G_vG
  clear BB
  have BB := BC
  clear BC
  have F_t0 := N_t0
  clear N_t0
  go_wp2_with fail
  refine (eqP F_xI0.out.rd F_t0.out.rd).mono ?_
  rintro e w11 ⟨rfl, hb⟩
  have G_W := hide (F_W.out.later hb)
  have G_xI0 := hide (F_xI0.out.later hb)
  have G_vW := hide (F_vW.out.later hb)
  have G_xI1 := hide (F_xI1.out.later hb)
  have G_G := hide (F_G.out.later hb)
  have G_vG := hide (F_vG.out.later hb)
  have G_t0 := hide (F_t0.out.later hb)
  have BC := hide (below_on BB.out hb)
  have z11 : w10.heap.size ≤ w11.heap.size := by have := hb.size; simpa using this
  clear hb
  clear F_W
  have F_W := G_W
  clear G_W
  clear F_xI0
  have F_xI0 := G_xI0
  clear G_xI0
  clear F_vW
  have F_vW := G_vW
  clear G_vW
  clear F_xI1
  have F_xI1 := G_xI1
  clear G_xI1
  clear F_G
  have F_G := G_G
  clear G_G
  clear F_vG
  have F_vG := G_vG
  clear G_vG
  clear F_t0
  have F_t0 := G_t0
  clear G_t0
  clear BB
  have BB := BC
  clear BC
  clear F_t0
  go_wp2_with fail
  refine (toP (HY1.out.later BB.out) HQ1.out.1 HQ1.out.2.1).mono ?_
  rintro e w12 ⟨zt1, rfl, hb, ho⟩
  have G_W := hide (F_W.out.later hb)
  have G_xI0 := hide (F_xI0.out.later hb)
  have G_vW := hide (F_vW.out.later hb)
  have G_xI1 := hide (F_xI1.out.later hb)
  have G_G := hide (F_G.out.later hb)
  have G_vG := hide (F_vG.out.later hb)
  have BC := hide (below_on BB.out hb)
  have z12 : w11.heap.size ≤ w12.heap.size := by have := hb.size; simpa using this
  have N_t1 := hide (ho.iv)
  clear hb
  clear ho
  clear F_W
  have F_W := G_W
  clear G_W
  clear F_xI0
  have F_xI0 := G_xI0
  clear G_xI0
  clear F_vW
  have F_vW := G_vW
  clear G_vW
  clear F_xI1
  have F_xI1 := G_xI1
  clear G_xI1
  clear F_G
  have F_G := G_G
  clear G_G
  clear F_vG
  have F_vG := G_vG
  clear G_vG
  clear BB
  have BB := BC
  clear BC
  have F_t1 := N_t1
  clear N_t1
  go_wp2_with fail
  refine (eqP F_xI1.out.rd F_t1.out.rd).mono ?_
  rintro e w13 ⟨rfl, hb⟩
  have G_W := hide (F_W.out.later hb)
  have G_xI0 := hide (F_xI0.out.later hb)
  have G_vW := hide (F_vW.out.later hb)
  have G_xI1 := hide (F_xI1.out.later hb)
  have G_G := hide (F_G.out.later hb)
  have G_vG := hide (F_vG.out.later hb)
  have G_t1 := hide (F_t1.out.later hb)
  have BC := hide (below_on BB.out hb)
  have z13 : w12.heap.size ≤ w13.heap.size := by have := hb.size; simpa using this
  clear hb
  clear F_W
  have F_W := G_W
  clear G_W
  clear F_xI0
  have F_xI0 := G_xI0
  clear G_xI0
  clear F_vW
  have F_vW := G_vW
  clear G_vW
  clear F_xI1
  have F_xI1 := G_xI1
  clear G_xI1
  clear F_G
  have F_G := G_G
  clear G_G
  clear F_vG
  have F_vG := G_vG
  clear G_vG
  clear F_t1
  have F_t1 := G_t1
  clear G_t1
  clear BB
  have BB := BC
  clear BC
  clear F_t1
  have hK0 : (0 : Int) ≤ 1 := by omega
  go_wp2_with fail
  refine (markPIv F_xI0.out (by omega) (by have := HQ0.out.2.2; omega)).mono ?_
  rintro e w14 ⟨he, hw⟩
  obtain ⟨K1, hK⟩ : ∃ K : Int, 1 + (totP qs0 qs0.length : Int) = K := ⟨_, rfl⟩
  rw [hK] at he
  subst he
  have hK1 : 0 ≤ K1 := by omega
  have hKb1 : K1 ≤ 8388608 := by have := HQ0.out.2.2; omega
  clear hK
  clear F_xI0
  have z14 : w13.heap.size ≤ w14.heap.size := hw.size
  have G_W := hide (F_W.out.wr hw (by intro b; simp <;> omega))
  have G_vW := hide (F_vW.out.wr hw (by have := F_vW.out.lt; simp <;> omega))
  have G_xI1 := hide (F_xI1.out.wr hw (by intro b; simp <;> omega))
  have G_G := hide (F_G.out.wr hw (by intro b; simp <;> omega))
  have G_vG := hide (F_vG.out.wr hw (by have := F_vG.out.lt; simp <;> omega))
  have BC := hide (BB.out.trans (hw.below (by omega) (by intro b hb; (try simp at hb); omega)))
  clear hw
  clear F_W
  have F_W := G_W
  clear G_W
  clear F_vW
  have F_vW := G_vW
  clear G_vW
  clear F_xI1
  have F_xI1 := G_xI1
  clear G_xI1
  clear F_G
  have F_G := G_G
  clear G_G
  clear F_vG
  have F_vG := G_vG
  clear G_vG
  clear BB
  have BB := BC
  clear BC
  go_wp2_with fail
  refine (markPIv F_xI1.out (by omega) (by have := HQ1.out.2.2; omega)).mono ?_
  rintro e w15 ⟨he, hw⟩
  obtain ⟨K2, hK⟩ : ∃ K : Int, K1 + (totP qs1 qs1.length : Int) = K := ⟨_, rfl⟩
  rw [hK] at he
  subst he
  have hK2 : 0 ≤ K2 := by omega
  have hKb2 : K2 ≤ 16777216 := by have := HQ1.out.2.2; omega
  clear hK
  clear F_xI1
  have z15 : w14.heap.size ≤ w15.heap.size := hw.size
  have G_W := hide (F_W.out.wr hw (by intro b; simp <;> omega))
  have G_vW := hide (F_vW.out.wr hw (by have := F_vW.out.lt; simp <;> omega))
  have G_G := hide (F_G.out.wr hw (by intro b; simp <;> omega))
  have G_vG := hide (F_vG.out.wr hw (by have := F_vG.out.lt; simp <;> omega))
  have BC := hide (BB.out.trans (hw.below (by omega) (by intro b hb; (try simp at hb); omega)))
  clear hw
  clear F_W
  have F_W := G_W
  clear G_W
  clear F_vW
  have F_vW := G_vW
  clear G_vW
  clear F_G
  have F_G := G_G
  clear G_G
  clear F_vG
  have F_vG := G_vG
  clear G_vG
  clear BB
  have BB := BC
  clear BC
  have vGlt := F_vG.out.lt
  obtain ⟨vGc0, vGc1⟩ := F_vG.out
  have vWlt := F_vW.out.lt
  obtain ⟨vWc0, vWc1⟩ := F_vW.out
  go_wp2_with fail
  refine (eqPutsResult F_G.out.rd F_W.out.rd).mono ?_
  rintro e w16 ⟨rfl, hb⟩
  have G_W := hide (F_W.out.later hb)
  have G_vW := hide (F_vW.out.later hb)
  have G_G := hide (F_G.out.later hb)
  have G_vG := hide (F_vG.out.later hb)
  have BC := hide (below_on BB.out hb)
  have z16 : w15.heap.size ≤ w16.heap.size := by have := hb.size; simpa using this
  clear hb
  clear vGlt vGc0 vGc1
  clear vWlt vWc0 vWc1
  clear F_W
  have F_W := G_W
  clear G_W
  clear F_vW
  have F_vW := G_vW
  clear G_vW
  clear F_G
  have F_G := G_G
  clear G_G
  clear F_vG
  have F_vG := G_vG
  clear G_vG
  clear BB
  have BB := BC
  clear BC
  have vGlt := F_vG.out.lt
  obtain ⟨vGc0, vGc1⟩ := F_vG.out
  go_wp2_with fail
  refine (markPutsResult F_G.out (by omega) HRB.out).mono ?_
  rintro e w17 ⟨he, hr, hw⟩
  rw [HMe.out] at he
  subst he
  have N_R := hide hr
  clear vGlt vGc0 vGc1
  clear F_G
  have z17 : w16.heap.size ≤ w17.heap.size := hw.size
  have G_W := hide (F_W.out.wr hw (by intro b; simp <;> omega))
  have G_vW := hide (F_vW.out.wr hw (by have := F_vW.out.lt; simp <;> omega))
  have G_vG := hide (F_vG.out.wr hw (by have := F_vG.out.lt; simp <;> omega))
  have BC := hide (BB.out.trans (hw.below (by omega) (by intro b hb; (try simp at hb); omega)))
  clear hw hr
  clear F_W
  have F_W := G_W
  clear G_W
  clear F_vW
  have F_vW := G_vW
  clear G_vW
  clear F_vG
  have F_vG := G_vG
  clear G_vG
  clear BB
  have BB := BC
  clear BC
  have F_R := N_R
  clear N_R
  have vGlt := F_vG.out.lt
  obtain ⟨vGc0, vGc1⟩ := F_vG.out
  go_wp2_with fail
  refine (heldPutsResult F_R.out (by omega) HRB.out).mono ?_
  rintro e w18 ⟨he, hb⟩
  rw [HMe.out] at he
  subst he
  have G_W := hide (F_W.out.later hb)
  have G_vW := hide (F_vW.out.later hb)
  have G_vG := hide (F_vG.out.later hb)
  have G_R := hide (F_R.out.later hb)
  have BC := hide (below_on BB.out hb)
  have z18 : w17.heap.size ≤ w18.heap.size := by have := hb.size; simpa using this
  clear hb
  clear vGlt vGc0 vGc1
  clear F_W
  have F_W := G_W
  clear G_W
  clear F_vW
  have F_vW := G_vW
  clear G_vW
  clear F_vG
  have F_vG := G_vG
  clear G_vG
  clear F_R
  have F_R := G_R
  clear G_R
  clear BB
  have BB := BC
  clear BC
  go_wp2_with fail
  refine (toP (HY0.out.later BB.out) HQ0.out.1 HQ0.out.2.1).mono ?_
  rintro e w19 ⟨zqI0, rfl, hb, ho⟩
  obtain ⟨aqI0, cqI0, rfl⟩ := ho.shape
  have G_W := hide (F_W.out.later hb)
  have G_vW := hide (F_vW.out.later hb)
  have G_vG := hide (F_vG.out.later hb)
  have G_R := hide (F_R.out.later hb)
  have BC := hide (below_on BB.out hb)
  have z19 : w18.heap.size ≤ w19.heap.size := by have := hb.size; simpa using this
  have N_qI0 := hide (ho.iv)
  clear hb
  clear ho
  clear F_W
  have F_W := G_W
  clear G_W
  clear F_vW
  have F_vW := G_vW
  clear G_vW
  clear F_vG
  have F_vG := G_vG
  clear G_vG
  clear F_R
  have F_R := G_R
  clear G_R
  clear BB
  have BB := BC
  clear BC
  have F_qI0 := N_qI0
  clear N_qI0
  go_wp2_with fail
  refine (toP (HY1.out.later BB.out) HQ1.out.1 HQ1.out.2.1).mono ?_
  rintro e w20 ⟨zqI1, rfl, hb, ho⟩
  obtain ⟨aqI1, cqI1, rfl⟩ := ho.shape
  have G_W := hide (F_W.out.later hb)
  have G_vW := hide (F_vW.out.later hb)
  have G_vG := hide (F_vG.out.later hb)
  have G_R := hide (F_R.out.later hb)
  have G_qI0 := hide (F_qI0.out.later hb)
  have BC := hide (below_on BB.out hb)
  have z20 : w19.heap.size ≤ w20.heap.size := by have := hb.size; simpa using this
  have N_qI1 := hide (ho.iv)
  clear hb
  clear ho
  clear F_W
  have F_W := G_W
  clear G_W
  clear F_vW
  have F_vW := G_vW
  clear G_vW
  clear F_vG
  have F_vG := G_vG
  clear G_vG
  clear F_R
  have F_R := G_R
  clear G_R
  clear F_qI0
  have F_qI0 := G_qI0
  clear G_qI0
  clear BB
  have BB := BC
  clear BC
  have F_qI1 := N_qI1
  clear N_qI1
  go_wp2_with fail
  refine (HI.out _ _ _ _ _ F_qI0.out.rd F_qI1.out.rd).mono ?_
  rintro e w21 ⟨rH, rfl, hb, ho⟩
  obtain ⟨aoH, cH, rfl⟩ := ho.shape
  have G_W := hide (F_W.out.later hb)
  have G_vW := hide (F_vW.out.later hb)
  have G_vG := hide (F_vG.out.later hb)
  have G_R := hide (F_R.out.later hb)
  have G_qI0 := hide (F_qI0.out.later hb)
  have G_qI1 := hide (F_qI1.out.later hb)
  have BC := hide (below_on BB.out hb)
  have z21 : w20.heap.size ≤ w21.heap.size := by have := hb.size; simpa using this
  have N_H := hide (ho.iv)
  clear hb
  clear ho
  clear F_W
  have F_W := G_W
  clear G_W
  clear F_vW
  have F_vW := G_vW
  clear G_vW
  clear F_vG
  have F_vG := G_vG
  clear G_vG
  clear F_R
  have F_R := G_R
  clear G_R
  clear F_qI0
  have F_qI0 := G_qI0
  clear G_qI0
  clear F_qI1
  have F_qI1 := G_qI1
  clear G_qI1
  clear BB
  have BB := BC
  clear BC
  have F_H := N_H
  clear N_H
  clear F_qI0
  clear F_qI1
  have vWlt := F_vW.out.lt
  obtain ⟨vWc0, vWc1⟩ := F_vW.out
  go_wp2_with fail
  refine (eqPutsResult (F_H.out.later (below_alloc _ _)).rd (F_W.out.later (below_alloc _ _)).rd).mono ?_
  rintro e w22 ⟨rfl, hb⟩
  have G_W := hide ((F_W.out.later (below_alloc _ (.cells #[.int .i64 code, .slice aoH rs.length cH] 29))).later hb)
  have G_vW := hide ((F_vW.out.later (below_alloc _ (.cells #[.int .i64 code, .slice aoH rs.length cH] 29))).later hb)
  have G_vG := hide ((F_vG.out.later (below_alloc _ (.cells #[.int .i64 code, .slice aoH rs.length cH] 29))).later hb)
  have G_R := hide ((F_R.out.later (below_alloc _ (.cells #[.int .i64 code, .slice aoH rs.length cH] 29))).later hb)
  have G_H := hide ((F_H.out.later (below_alloc _ (.cells #[.int .i64 code, .slice aoH rs.length cH] 29))).later hb)
  have BC := hide (below_on (below_on BB.out (below_alloc _ (.cells #[.int .i64 code, .slice aoH rs.length cH] 29))) hb)
  have z22 : w21.heap.size + 1 ≤ w22.heap.size := by have := hb.size; simpa using this
  have N_vH := hide ((Var2_new w21 (.int .i64 code) (.slice aoH rs.length cH) 29).later hb)
  clear hb
  clear vWlt vWc0 vWc1
  clear F_W
  have F_W := G_W
  clear G_W
  clear F_vW
  have F_vW := G_vW
  clear G_vW
  clear F_vG
  have F_vG := G_vG
  clear G_vG
  clear F_R
  have F_R := G_R
  clear G_R
  clear F_H
  have F_H := G_H
  clear G_H
  clear BB
  have BB := BC
  clear BC
  have F_vH := N_vH
  clear N_vH
  clear F_H
  clear F_W
  clear F_vH
  clear F_vW
  have vGlt := F_vG.out.lt
  obtain ⟨vGc0, vGc1⟩ := F_vG.out
  go_wp2_with fail
  refine (heldPutsResult F_R.out (by omega) HRB.out).mono ?_
  rintro e w23 ⟨he, hb⟩
  rw [HMe.out] at he
  subst he
  have G_vG := hide (F_vG.out.later hb)
  have G_R := hide (F_R.out.later hb)
  have BC := hide (below_on BB.out hb)
  have z23 : w22.heap.size ≤ w23.heap.size := by have := hb.size; simpa using this
  clear hb
  clear vGlt vGc0 vGc1
  clear F_vG
  have F_vG := G_vG
  clear G_vG
  clear F_R
  have F_R := G_R
  clear G_R
  clear BB
  have BB := BC
  clear BC
  go_wp2
  go_ret
  exact ⟨rfl, BB.out⟩
end Go.Proofs.Ytiommfabhchgdaa
