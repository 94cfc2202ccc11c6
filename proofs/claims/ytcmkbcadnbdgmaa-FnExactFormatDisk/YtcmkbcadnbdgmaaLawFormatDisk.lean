/- The law 'FnExactFormatDisk' walked, out of what the program's function and the model's leave. Made by program (genlaw.py). -/
import Derived.Test.YtcmkbcadnbdgmaaIv
namespace Go.Proofs.Ytcmkbcadnbdgmaa
open Go.RowKit

set_option maxHeartbeats 4000000 in
theorem lawFormatDisk_small {w : World} (a0 : Int)  (code : Int) (rss : List (List Int)) (rps : List (Int × List Int)) (hres : tot rss rss.length + totP rps rps.length ≤ 16777216)
    
    (hspec : ∀ (w : World), Calls Try.prog 38 #[.int .i64 a0] w (EndsD code rss rps w))
    (himpl : ∀ (w : World), Calls Try.prog 39 #[.int .i64 a0] w (EndsD code rss rps w)) :
    Calls Try.prog 8 #[.int .i64 a0] w fun e w' => e = .returned (.bool true) ∧ Below w.heap.size w w' := by
  have HS := hide hspec
  have HI := hide himpl
  clear hspec himpl
  have HRB := hide (show (1 : Int) + (tot rss rss.length : Int) + (totP rps rps.length : Int) ≤ 9223372036854775807 by omega)
  have hM : 0 ≤ (1 : Int) + (tot rss rss.length : Int) + (totP rps rps.length : Int) := by omega
  obtain ⟨M, hMe⟩ : ∃ M : Int, (1 : Int) + (tot rss rss.length : Int) + (totP rps rps.length : Int) = M := ⟨_, rfl⟩
  rw [hMe] at hM
  have HMe := hide hMe
  clear hMe hres
  go_enter Try.func8, Try.ntmps8
  have BB := hide (Below.refl w.heap.size w)
  go_wp2_with fail
  refine (HS.out  _  ).mono ?_
  rintro e w1 ⟨rW, sW, rfl, hb, ho⟩
  obtain ⟨aoW, cW, aoW', cW', rfl, rfl⟩ := ho.shape
  have BC := hide (below_on BB.out hb)
  have z1 : w.heap.size ≤ w1.heap.size := by have := hb.size; simpa using this
  have N_W := hide (ho.iv)
  clear hb
  clear ho
  clear BB
  have BB := BC
  clear BC
  have F_W := N_W
  clear N_W
  go_wp2_with fail
  refine (HI.out  _  ).mono ?_
  rintro e w2 ⟨rG, sG, rfl, hb, ho⟩
  obtain ⟨aoG, cG, aoG', cG', rfl, rfl⟩ := ho.shape
  have G_W := hide ((F_W.out.later (below_alloc _ (.cells #[.int .i64 code, .slice aoW rss.length cW, .slice aoW' rps.length cW'] 66))).later hb)
  have BC := hide (below_on (below_on BB.out (below_alloc _ (.cells #[.int .i64 code, .slice aoW rss.length cW, .slice aoW' rps.length cW'] 66))) hb)
  have z2 : w1.heap.size + 1 ≤ w2.heap.size := by have := hb.size; simpa using this
  have N_G := hide (ho.iv)
  have N_vW := hide ((Var3_new w1 (.int .i64 code) (.slice aoW rss.length cW) (.slice aoW' rps.length cW') 66).later hb)
  clear hb
  clear ho
  clear F_W
  have F_W := G_W
  clear G_W
  clear BB
  have BB := BC
  clear BC
  have F_G := N_G
  clear N_G
  have F_vW := N_vW
  clear N_vW
  have vWlt := F_vW.out.lt
  obtain ⟨vWc0, vWc1, vWc2⟩ := F_vW.out
  go_wp2_with fail
  refine (eqDiskResult (F_G.out.later (below_alloc _ _)).rdII (F_G.out.later (below_alloc _ _)).rdP (F_W.out.later (below_alloc _ _)).rdII (F_W.out.later (below_alloc _ _)).rdP).mono ?_
  rintro e w3 ⟨rfl, hb⟩
  have G_W := hide ((F_W.out.later (below_alloc _ (.cells #[.int .i64 code, .slice aoG rss.length cG, .slice aoG' rps.length cG'] 66))).later hb)
  have G_G := hide ((F_G.out.later (below_alloc _ (.cells #[.int .i64 code, .slice aoG rss.length cG, .slice aoG' rps.length cG'] 66))).later hb)
  have G_vW := hide ((F_vW.out.later (below_alloc _ (.cells #[.int .i64 code, .slice aoG rss.length cG, .slice aoG' rps.length cG'] 66))).later hb)
  have BC := hide (below_on (below_on BB.out (below_alloc _ (.cells #[.int .i64 code, .slice aoG rss.length cG, .slice aoG' rps.length cG'] 66))) hb)
  have z3 : w2.heap.size + 1 ≤ w3.heap.size := by have := hb.size; simpa using this
  have N_vG := hide ((Var3_new w2 (.int .i64 code) (.slice aoG rss.length cG) (.slice aoG' rps.length cG') 66).later hb)
  clear hb
  clear vWlt vWc0 vWc1 vWc2
  clear F_W
  have F_W := G_W
  clear G_W
  clear F_G
  have F_G := G_G
  clear G_G
  clear F_vW
  have F_vW := G_vW
  clear G_vW
  clear BB
  have BB := BC
  clear BC
  have F_vG := N_vG
  clear N_vG
  have vGlt := F_vG.out.lt
  obtain ⟨vGc0, vGc1, vGc2⟩ := F_vG.out
  go_wp2_with fail
  refine (markDiskResultIv F_G.out (by omega) HRB.out).mono ?_
  rintro e w4 ⟨he, hr, hw⟩
  rw [HMe.out] at he
  subst he
  have N_R := hide hr
  clear vGlt vGc0 vGc1 vGc2
  clear F_G
  have z4 : w3.heap.size ≤ w4.heap.size := hw.size
  have G_W := hide (F_W.out.wr hw (by intro b; simp <;> omega))
  have G_vW := hide (F_vW.out.wr hw (by have := F_vW.out.lt; simp <;> omega))
  have G_vG := hide (F_vG.out.wr hw (by have := F_vG.out.lt; simp <;> omega))
  have BC := hide (BB.out.trans (hw.below (by omega) (by intro b hb; (try simp at hb); omega)))
  clear hw hr
  clear F_W
  have F_W := G_W
  clear G_W
  clear F_vW
  have F_vW := G_vW
  clear G_vW
  clear F_vG
  have F_vG := G_vG
  clear G_vG
  clear BB
  have BB := BC
  clear BC
  have F_R := N_R
  clear N_R
  have vGlt := F_vG.out.lt
  obtain ⟨vGc0, vGc1, vGc2⟩ := F_vG.out
  go_wp2_with fail
  refine (heldDiskResultIv F_R.out (by omega) HRB.out).mono ?_
  rintro e w5 ⟨he, hb⟩
  rw [HMe.out] at he
  subst he
  have G_W := hide (F_W.out.later hb)
  have G_vW := hide (F_vW.out.later hb)
  have G_vG := hide (F_vG.out.later hb)
  have G_R := hide (F_R.out.later hb)
  have BC := hide (below_on BB.out hb)
  have z5 : w4.heap.size ≤ w5.heap.size := by have := hb.size; simpa using this
  clear hb
  clear vGlt vGc0 vGc1 vGc2
  clear F_W
  have F_W := G_W
  clear G_W
  clear F_vW
  have F_vW := G_vW
  clear G_vW
  clear F_vG
  have F_vG := G_vG
  clear G_vG
  clear F_R
  have F_R := G_R
  clear G_R
  clear BB
  have BB := BC
  clear BC
  go_wp2_with fail
  refine (HI.out  _  ).mono ?_
  rintro e w6 ⟨rH, sH, rfl, hb, ho⟩
  obtain ⟨aoH, cH, aoH', cH', rfl, rfl⟩ := ho.shape
  have G_W := hide (F_W.out.later hb)
  have G_vW := hide (F_vW.out.later hb)
  have G_vG := hide (F_vG.out.later hb)
  have G_R := hide (F_R.out.later hb)
  have BC := hide (below_on BB.out hb)
  have z6 : w5.heap.size ≤ w6.heap.size := by have := hb.size; simpa using this
  have N_H := hide (ho.iv)
  clear hb
  clear ho
  clear F_W
  have F_W := G_W
  clear G_W
  clear F_vW
  have F_vW := G_vW
  clear G_vW
  clear F_vG
  have F_vG := G_vG
  clear G_vG
  clear F_R
  have F_R := G_R
  clear G_R
  clear BB
  have BB := BC
  clear BC
  have F_H := N_H
  clear N_H
  have vWlt := F_vW.out.lt
  obtain ⟨vWc0, vWc1, vWc2⟩ := F_vW.out
  go_wp2_with fail
  refine (eqDiskResult (F_H.out.later (below_alloc _ _)).rdII (F_H.out.later (below_alloc _ _)).rdP (F_W.out.later (below_alloc _ _)).rdII (F_W.out.later (below_alloc _ _)).rdP).mono ?_
  rintro e w7 ⟨rfl, hb⟩
  have G_W := hide ((F_W.out.later (below_alloc _ (.cells #[.int .i64 code, .slice aoH rss.length cH, .slice aoH' rps.length cH'] 66))).later hb)
  have G_vW := hide ((F_vW.out.later (below_alloc _ (.cells #[.int .i64 code, .slice aoH rss.length cH, .slice aoH' rps.length cH'] 66))).later hb)
  have G_vG := hide ((F_vG.out.later (below_alloc _ (.cells #[.int .i64 code, .slice aoH rss.length cH, .slice aoH' rps.length cH'] 66))).later hb)
  have G_R := hide ((F_R.out.later (below_alloc _ (.cells #[.int .i64 code, .slice aoH rss.length cH, .slice aoH' rps.length cH'] 66))).later hb)
  have G_H := hide ((F_H.out.later (below_alloc _ (.cells #[.int .i64 code, .slice aoH rss.length cH, .slice aoH' rps.length cH'] 66))).later hb)
  have BC := hide (below_on (below_on BB.out (below_alloc _ (.cells #[.int .i64 code, .slice aoH rss.length cH, .slice aoH' rps.length cH'] 66))) hb)
  have z7 : w6.heap.size + 1 ≤ w7.heap.size := by have := hb.size; simpa using this
  have N_vH := hide ((Var3_new w6 (.int .i64 code) (.slice aoH rss.length cH) (.slice aoH' rps.length cH') 66).later hb)
  clear hb
  clear vWlt vWc0 vWc1 vWc2
  clear F_W
  have F_W := G_W
  clear G_W
  clear F_vW
  have F_vW := G_vW
  clear G_vW
  clear F_vG
  have F_vG := G_vG
  clear G_vG
  clear F_R
  have F_R := G_R
  clear G_R
  clear F_H
  have F_H := G_H
  clear G_H
  clear BB
  have BB := BC
  clear BC
  have F_vH := N_vH
  clear N_vH
  clear F_H
  clear F_W
  clear F_vH
  clear F_vW
  have vGlt := F_vG.out.lt
  obtain ⟨vGc0, vGc1, vGc2⟩ := F_vG.out
  go_wp2_with fail
  refine (heldDiskResultIv F_R.out (by omega) HRB.out).mono ?_
  rintro e w8 ⟨he, hb⟩
  rw [HMe.out] at he
  subst he
  have G_vG := hide (F_vG.out.later hb)
  have G_R := hide (F_R.out.later hb)
  have BC := hide (below_on BB.out hb)
  have z8 : w7.heap.size ≤ w8.heap.size := by have := hb.size; simpa using this
  clear hb
  clear vGlt vGc0 vGc1 vGc2
  clear F_vG
  have F_vG := G_vG
  clear G_vG
  clear F_R
  have F_R := G_R
  clear G_R
  clear BB
  have BB := BC
  clear BC
  go_wp2
  go_ret
  exact ⟨rfl, BB.out⟩
end Go.Proofs.Ytcmkbcadnbdgmaa
