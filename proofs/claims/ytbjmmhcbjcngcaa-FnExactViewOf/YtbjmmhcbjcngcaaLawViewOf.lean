/- The law 'FnExactViewOf' walked, out of what the program's function and the model's leave. Made by program (genlaw.py). -/
import Derived.Test.YtbjmmhcbjcngcaaIvP
namespace Go.Proofs.Ytbjmmhcbjcngcaa
open Go.RowKit

set_option maxHeartbeats 4000000 in
theorem lawViewOf_small {S T : Nat → Prop} {w : World} {u v : Value} {xss : List (List Int)} {ps : List (Int × List Int)} (hu : RdII S w u xss) (hv : RdP T w v ps) (code : Int) (rs : List (Int × List Int)) (hres : totP rs rs.length ≤ 1073741824)
    (hsz : szD xss ps ≤ 1048576)
    (hspec : ∀ (S T : Nat → Prop) (w : World) (u v : Value), RdII S w u xss → RdP T w v ps → Calls Try.prog 5 #[.agg #[u, v]] w (EndsP code rs w))
    (himpl : ∀ (S T : Nat → Prop) (w : World) (u v : Value), RdII S w u xss → RdP T w v ps → Calls Try.prog 7 #[.agg #[u, v]] w (EndsP code rs w)) :
    Calls Try.prog 3 #[.agg #[u, v]] w fun e w' => e = .returned (.bool true) ∧ Below w.heap.size w w' := by
  have HS := hide hspec
  have HI := hide himpl
  clear hspec himpl
  have HU := hide hu
  have HV := hide hv
  have HY := hide (szv_yes hsz)
  have HM := hide (Small.of hsz)
  have hp : ¬ (1048576 - szD xss ps < 0) := by omega
  have hbd : (tot xss xss.length : Int) + (totP ps ps.length : Int) ≤ 4194304 := by have h1 := (Small.of hsz).all; have h2 := (Small.of hsz).puts; have h3 := totP_eq ps ps.length (Nat.le_refl _); omega
  have HBD := hide hbd
  have HN0 := hide (show 0 ≤ szD xss ps ∧ szD xss ps ≤ 1048576 from ⟨szD_nonneg xss ps, hsz⟩)
  clear hu hv hsz hbd
  have HRB := hide (show (1 : Int) + (totP rs rs.length : Int) ≤ 9223372036854775807 by omega)
  have hM : 0 ≤ (1 : Int) + (totP rs rs.length : Int) := by omega
  obtain ⟨M, hMe⟩ : ∃ M : Int, (1 : Int) + (totP rs rs.length : Int) = M := ⟨_, rfl⟩
  rw [hMe] at hM
  have HMe := hide hMe
  clear hMe hres
  go_enter Try.func3, Try.ntmps3
  go_wp2_with fail
  refine (szDisk (HU.out.later (below_alloc _ _)) (HV.out.later (below_alloc _ _)) (by omega) (by omega)).mono ?_
  rintro e w1 ⟨he, hb⟩
  rw [HY.out] at he
  subst he
  have BB := hide (below_on (below_alloc w (.cells #[u, v] 25)) hb)
  have F_box := hide ((Var2_new w u v 25).later hb)
  have z1 : w.heap.size + 1 ≤ w1.heap.size := by have := hb.size; simpa using this
  clear hb
  have boxlt := F_box.out.lt
  obtain ⟨boxc0, boxc1⟩ := F_box.out
  go_wp2_with fail
  refine (toDisk' (HU.out.later BB.out) (HV.out.later BB.out) HM.out).mono ?_
  rintro e w2 ⟨upD, vpD, rfl, hb, ho⟩
  obtain ⟨aopD, cpD, aopD', cpD', rfl, rfl⟩ := ho.shape
  have G_box := hide (F_box.out.later hb)
  have BC := hide (below_on BB.out hb)
  have z2 : w1.heap.size ≤ w2.heap.size := by have := hb.size; simpa using this
  have N_pD := hide (ho.iv)
  clear hb
  clear ho
  clear boxlt boxc0 boxc1
  clear F_box
  have F_box := G_box
  clear G_box
  clear BB
  have BB := BC
  clear BC
  have F_pD := N_pD
  clear N_pD
  go_wp2_with fail
  refine (HS.out _ _ _ _ _ F_pD.out.rdII F_pD.out.rdP).mono ?_
  rintro e w3 ⟨rW, rfl, hb, ho⟩
  obtain ⟨aoW, cW, rfl⟩ := ho.shape
  have G_box := hide (F_box.out.later hb)
  have G_pD := hide (F_pD.out.later hb)
  have BC := hide (below_on BB.out hb)
  have z3 : w2.heap.size ≤ w3.heap.size := by have := hb.size; simpa using this
  have N_W := hide (ho.iv)
  clear hb
  clear ho
  clear F_box
  have F_box := G_box
  clear G_box
  clear F_pD
  have F_pD := G_pD
  clear G_pD
  clear BB
  have BB := BC
  clear BC
  have F_W := N_W
  clear N_W
  clear F_pD
  have boxlt := F_box.out.lt
  obtain ⟨boxc0, boxc1⟩ := F_box.out
  go_wp2_with fail
  refine (toDisk' (HU.out.later (below_on BB.out (below_alloc _ (.cells #[.int .i64 code, .slice aoW rs.length cW] 29)))) (HV.out.later (below_on BB.out (below_alloc _ (.cells #[.int .i64 code, .slice aoW rs.length cW] 29)))) HM.out).mono ?_
  rintro e w4 ⟨ux, vx, rfl, hb, ho⟩
  obtain ⟨aox, cx, aox', cx', rfl, rfl⟩ := ho.shape
  have G_box := hide ((F_box.out.later (below_alloc _ (.cells #[.int .i64 code, .slice aoW rs.length cW] 29))).later hb)
  have G_W := hide ((F_W.out.later (below_alloc _ (.cells #[.int .i64 code, .slice aoW rs.length cW] 29))).later hb)
  have BC := hide (below_on (below_on BB.out (below_alloc _ (.cells #[.int .i64 code, .slice aoW rs.length cW] 29))) hb)
  have z4 : w3.heap.size + 1 ≤ w4.heap.size := by have := hb.size; simpa using this
  have N_xD := hide (ho.iv)
  have N_vW := hide ((Var2_new w3 (.int .i64 code) (.slice aoW rs.length cW) 29).later hb)
  clear hb
  clear ho
  clear boxlt boxc0 boxc1
  clear F_box
  have F_box := G_box
  clear G_box
  clear F_W
  have F_W := G_W
  clear G_W
  clear BB
  have BB := BC
  clear BC
  have F_xD := N_xD
  clear N_xD
  have F_vW := N_vW
  clear N_vW
  go_wp2_with fail
  refine (HI.out _ _ _ _ _ (F_xD.out.later (below_alloc _ _)).rdII (F_xD.out.later (below_alloc _ _)).rdP).mono ?_
  rintro e w5 ⟨rG, rfl, hb, ho⟩
  obtain ⟨aoG, cG, rfl⟩ := ho.shape
  have G_box := hide ((F_box.out.later (below_alloc _ (.cells #[.slice aox xss.length cx, .slice aox' ps.length cx'] 32))).later hb)
  have G_W := hide ((F_W.out.later (below_alloc _ (.cells #[.slice aox xss.length cx, .slice aox' ps.length cx'] 32))).later hb)
  have G_xD := hide ((F_xD.out.later (below_alloc _ (.cells #[.slice aox xss.length cx, .slice aox' ps.length cx'] 32))).later hb)
  have G_vW := hide ((F_vW.out.later (below_alloc _ (.cells #[.slice aox xss.length cx, .slice aox' ps.length cx'] 32))).later hb)
  have BC := hide (below_on (below_on BB.out (below_alloc _ (.cells #[.slice aox xss.length cx, .slice aox' ps.length cx'] 32))) hb)
  have z5 : w4.heap.size + 1 ≤ w5.heap.size := by have := hb.size; simpa using this
  have N_G := hide (ho.iv)
  have N_vX := hide ((Var2_new w4 (.slice aox xss.length cx) (.slice aox' ps.length cx') 32).later hb)
  clear hb
  clear ho
  clear F_box
  have F_box := G_box
  clear G_box
  clear F_W
  have F_W := G_W
  clear G_W
  clear F_xD
  have F_xD := G_xD
  clear G_xD
  clear F_vW
  have F_vW := G_vW
  clear G_vW
  clear BB
  have BB := BC
  clear BC
  have F_G := N_G
  clear N_G
  have F_vX := N_vX
  clear N_vX
  have vWlt := F_vW.out.lt
  obtain ⟨vWc0, vWc1⟩ := F_vW.out
  go_wp2_with fail
  refine (eqPutsResult (F_G.out.later (below_alloc _ _)).rd (F_W.out.later (below_alloc _ _)).rd).mono ?_
  rintro e w6 ⟨rfl, hb⟩
  have G_box := hide ((F_box.out.later (below_alloc _ (.cells #[.int .i64 code, .slice aoG rs.length cG] 29))).later hb)
  have G_W := hide ((F_W.out.later (below_alloc _ (.cells #[.int .i64 code, .slice aoG rs.length cG] 29))).later hb)
  have G_xD := hide ((F_xD.out.later (below_alloc _ (.cells #[.int .i64 code, .slice aoG rs.length cG] 29))).later hb)
  have G_vW := hide ((F_vW.out.later (below_alloc _ (.cells #[.int .i64 code, .slice aoG rs.length cG] 29))).later hb)
  have G_G := hide ((F_G.out.later (below_alloc _ (.cells #[.int .i64 code, .slice aoG rs.length cG] 29))).later hb)
  have G_vX := hide ((F_vX.out.later (below_alloc _ (.cells #[.int .i64 code, .slice aoG rs.length cG] 29))).later hb)
  have BC := hide (below_on (below_on BB.out (below_alloc _ (.cells #[.int .i64 code, .slice aoG rs.length cG] 29))) hb)
  have z6 : w5.heap.size + 1 ≤ w6.heap.size := by have := hb.size; simpa using this
  have N_vG := hide ((Var2_new w5 (.int .i64 code) (.slice aoG rs.length cG) 29).later hb)
  clear hb
  clear vWlt vWc0 vWc1
  clear F_box
  have F_box := G_box
  clear G_box
  clear F_W
  have F_W := G_W
  clear G_W
  clear F_xD
  have F_xD := G_xD
  clear G_xD
  clear F_vW
  have F_vW := G_vW
  clear G_vW
  clear F_G
  have F_G := G_G
  clear G_G
  clear F_vX
  have F_vX := G_vX
  clear G_vX
  clear BB
  have BB := BC
  clear BC
  have F_vG := N_vG
  clear N_vG
  have boxlt := F_box.out.lt
  obtain ⟨boxc0, boxc1⟩ := F_box.out
  have vXlt := F_vX.out.lt
  obtain ⟨vXc0, vXc1⟩ := F_vX.out
  go_wp2_with fail
  go_region_held3 (fun w' => w'.cell? ⟨w.heap.size, 0, none⟩ = some u ∧ w'.cell? ⟨w.heap.size, 1, none⟩ = some v ∧ w'.cell? ⟨w4.heap.size, 0, none⟩ = some (.slice aox xss.length cx) ∧ w'.cell? ⟨w4.heap.size, 1, none⟩ = some (.slice aox' ps.length cx')) (simp [*, go_sem])
    (first | (go_at_call 6; refine (toDisk' (HU.out.later (below_on BB.out (below_drewN _ 1))) (HV.out.later (below_on BB.out (below_drewN _ 1))) HM.out).mono ?_; rintro e w7 ⟨u6, v6, rfl, hb6, ho6⟩; have e0 := cell_later hb6 boxc0; have e1 := cell_later hb6 boxc1; have e2 := cell_later hb6 vXc0; have e3 := cell_later hb6 vXc1; have HO6 := hide ho6.iv; have HB6 := hide (below_on (below_drewN w6 1) hb6); clear hb6 ho6) | (go_at_call 9; refine (eqDisk (F_xD.out.later HB6.out).rdII (F_xD.out.later HB6.out).rdP HO6.out.rdII HO6.out.rdP).mono ?_; rintro e w8 ⟨rfl, hb7⟩; have i0 := cell_later hb7 e0; have i1 := cell_later hb7 e1; have i2 := cell_later hb7 e2; have i3 := cell_later hb7 e3; have HB7 := hide (below_on HB6.out hb7); clear hb7))
  have hb := HB7.out
  have G_box := hide (F_box.out.later hb)
  have G_W := hide (F_W.out.later hb)
  have G_xD := hide (F_xD.out.later hb)
  have G_vW := hide (F_vW.out.later hb)
  have G_G := hide (F_G.out.later hb)
  have G_vX := hide (F_vX.out.later hb)
  have G_vG := hide (F_vG.out.later hb)
  have BC := hide (below_on BB.out hb)
  have z8 : w6.heap.size ≤ w8.heap.size := hb.size
  clear hb HB6 HB7 HO6 e0 e1 e2 e3 i0 i1 i2 i3
  clear boxlt boxc0 boxc1
  clear vXlt vXc0 vXc1
  clear F_box
  have F_box := G_box
  clear G_box
  clear F_W
  have F_W := G_W
  clear G_W
  clear F_xD
  have F_xD := G_xD
  clear G_xD
  clear F_vW
  have F_vW := G_vW
  clear G_vW
  clear F_G
  have F_G := G_G
  clear G_G
  clear F_vX
  have F_vX := G_vX
  clear G_vX
  clear F_vG
  have F_vG := G_vG
  clear G_vG
  clear BB
  have BB := BC
  clear BC
  have hK0 : (0 : Int) ≤ 1 := by omega
  have vXlt := F_vX.out.lt
  obtain ⟨vXc0, vXc1⟩ := F_vX.out
  go_wp2_with fail
  refine (markDiskIv F_xD.out (by omega) (by have := HBD.out; omega)).mono ?_
  rintro e w9 ⟨he, hw⟩
  obtain ⟨K1, hK⟩ : ∃ K : Int, 1 + (tot xss xss.length : Int) + (totP ps ps.length : Int) = K := ⟨_, rfl⟩
  rw [hK] at he
  subst he
  have hK1 : 0 ≤ K1 := by omega
  have hKb1 : K1 ≤ 4194305 := by have := HBD.out; omega
  clear hK
  clear vXlt vXc0 vXc1
  clear F_xD
  clear F_vX
  have z9 : w8.heap.size ≤ w9.heap.size := hw.size
  have G_box := hide (F_box.out.wr hw (by have := F_box.out.lt; simp <;> omega))
  have G_W := hide (F_W.out.wr hw (by intro b; simp <;> omega))
  have G_vW := hide (F_vW.out.wr hw (by have := F_vW.out.lt; simp <;> omega))
  have G_G := hide (F_G.out.wr hw (by intro b; simp <;> omega))
  have G_vG := hide (F_vG.out.wr hw (by have := F_vG.out.lt; simp <;> omega))
  have BC := hide (BB.out.trans (hw.below (by omega) (by intro b hb; (try simp at hb); omega)))
  clear hw
  clear F_box
  have F_box := G_box
  clear G_box
  clear F_W
  have F_W := G_W
  clear G_W
  clear F_vW
  have F_vW := G_vW
  clear G_vW
  clear F_G
  have F_G := G_G
  clear G_G
  clear F_vG
  have F_vG := G_vG
  clear G_vG
  clear BB
  have BB := BC
  clear BC
  have vGlt := F_vG.out.lt
  obtain ⟨vGc0, vGc1⟩ := F_vG.out
  have vWlt := F_vW.out.lt
  obtain ⟨vWc0, vWc1⟩ := F_vW.out
  go_wp2_with fail
  refine (eqPutsResult F_G.out.rd F_W.out.rd).mono ?_
  rintro e w10 ⟨rfl, hb⟩
  have G_box := hide (F_box.out.later hb)
  have G_W := hide (F_W.out.later hb)
  have G_vW := hide (F_vW.out.later hb)
  have G_G := hide (F_G.out.later hb)
  have G_vG := hide (F_vG.out.later hb)
  have BC := hide (below_on BB.out hb)
  have z10 : w9.heap.size ≤ w10.heap.size := by have := hb.size; simpa using this
  clear hb
  clear vGlt vGc0 vGc1
  clear vWlt vWc0 vWc1
  clear F_box
  have F_box := G_box
  clear G_box
  clear F_W
  have F_W := G_W
  clear G_W
  clear F_vW
  have F_vW := G_vW
  clear G_vW
  clear F_G
  have F_G := G_G
  clear G_G
  clear F_vG
  have F_vG := G_vG
  clear G_vG
  clear BB
  have BB := BC
  clear BC
  have vGlt := F_vG.out.lt
  obtain ⟨vGc0, vGc1⟩ := F_vG.out
  go_wp2_with fail
  refine (markPutsResult F_G.out (by omega) HRB.out).mono ?_
  rintro e w11 ⟨he, hr, hw⟩
  rw [HMe.out] at he
  subst he
  have N_R := hide hr
  clear vGlt vGc0 vGc1
  clear F_G
  have z11 : w10.heap.size ≤ w11.heap.size := hw.size
  have G_box := hide (F_box.out.wr hw (by have := F_box.out.lt; simp <;> omega))
  have G_W := hide (F_W.out.wr hw (by intro b; simp <;> omega))
  have G_vW := hide (F_vW.out.wr hw (by have := F_vW.out.lt; simp <;> omega))
  have G_vG := hide (F_vG.out.wr hw (by have := F_vG.out.lt; simp <;> omega))
  have BC := hide (BB.out.trans (hw.below (by omega) (by intro b hb; (try simp at hb); omega)))
  clear hw hr
  clear F_box
  have F_box := G_box
  clear G_box
  clear F_W
  have F_W := G_W
  clear G_W
  clear F_vW
  have F_vW := G_vW
  clear G_vW
  clear F_vG
  have F_vG := G_vG
  clear G_vG
  clear BB
  have BB := BC
  clear BC
  have F_R := N_R
  clear N_R
  have vGlt := F_vG.out.lt
  obtain ⟨vGc0, vGc1⟩ := F_vG.out
  go_wp2_with fail
  refine (heldPutsResult F_R.out (by omega) HRB.out).mono ?_
  rintro e w12 ⟨he, hb⟩
  rw [HMe.out] at he
  subst he
  have G_box := hide (F_box.out.later hb)
  have G_W := hide (F_W.out.later hb)
  have G_vW := hide (F_vW.out.later hb)
  have G_vG := hide (F_vG.out.later hb)
  have G_R := hide (F_R.out.later hb)
  have BC := hide (below_on BB.out hb)
  have z12 : w11.heap.size ≤ w12.heap.size := by have := hb.size; simpa using this
  clear hb
  clear vGlt vGc0 vGc1
  clear F_box
  have F_box := G_box
  clear G_box
  clear F_W
  have F_W := G_W
  clear G_W
  clear F_vW
  have F_vW := G_vW
  clear G_vW
  clear F_vG
  have F_vG := G_vG
  clear G_vG
  clear F_R
  have F_R := G_R
  clear G_R
  clear BB
  have BB := BC
  clear BC
  have boxlt := F_box.out.lt
  obtain ⟨boxc0, boxc1⟩ := F_box.out
  go_wp2_with fail
  refine (toDisk' (HU.out.later BB.out) (HV.out.later BB.out) HM.out).mono ?_
  rintro e w13 ⟨uqD, vqD, rfl, hb, ho⟩
  obtain ⟨aoqD, cqD, aoqD', cqD', rfl, rfl⟩ := ho.shape
  have G_box := hide (F_box.out.later hb)
  have G_W := hide (F_W.out.later hb)
  have G_vW := hide (F_vW.out.later hb)
  have G_vG := hide (F_vG.out.later hb)
  have G_R := hide (F_R.out.later hb)
  have BC := hide (below_on BB.out hb)
  have z13 : w12.heap.size ≤ w13.heap.size := by have := hb.size; simpa using this
  have N_qD := hide (ho.iv)
  clear hb
  clear ho
  clear boxlt boxc0 boxc1
  clear F_box
  have F_box := G_box
  clear G_box
  clear F_W
  have F_W := G_W
  clear G_W
  clear F_vW
  have F_vW := G_vW
  clear G_vW
  clear F_vG
  have F_vG := G_vG
  clear G_vG
  clear F_R
  have F_R := G_R
  clear G_R
  clear BB
  have BB := BC
  clear BC
  have F_qD := N_qD
  clear N_qD
  go_wp2_with fail
  refine (HI.out _ _ _ _ _ F_qD.out.rdII F_qD.out.rdP).mono ?_
  rintro e w14 ⟨rH, rfl, hb, ho⟩
  obtain ⟨aoH, cH, rfl⟩ := ho.shape
  have G_box := hide (F_box.out.later hb)
  have G_W := hide (F_W.out.later hb)
  have G_vW := hide (F_vW.out.later hb)
  have G_vG := hide (F_vG.out.later hb)
  have G_R := hide (F_R.out.later hb)
  have G_qD := hide (F_qD.out.later hb)
  have BC := hide (below_on BB.out hb)
  have z14 : w13.heap.size ≤ w14.heap.size := by have := hb.size; simpa using this
  have N_H := hide (ho.iv)
  clear hb
  clear ho
  clear F_box
  have F_box := G_box
  clear G_box
  clear F_W
  have F_W := G_W
  clear G_W
  clear F_vW
  have F_vW := G_vW
  clear G_vW
  clear F_vG
  have F_vG := G_vG
  clear G_vG
  clear F_R
  have F_R := G_R
  clear G_R
  clear F_qD
  have F_qD := G_qD
  clear G_qD
  clear BB
  have BB := BC
  clear BC
  have F_H := N_H
  clear N_H
  clear F_qD
  have vWlt := F_vW.out.lt
  obtain ⟨vWc0, vWc1⟩ := F_vW.out
  go_wp2_with fail
  refine (eqPutsResult (F_H.out.later (below_alloc _ _)).rd (F_W.out.later (below_alloc _ _)).rd).mono ?_
  rintro e w15 ⟨rfl, hb⟩
  have G_box := hide ((F_box.out.later (below_alloc _ (.cells #[.int .i64 code, .slice aoH rs.length cH] 29))).later hb)
  have G_W := hide ((F_W.out.later (below_alloc _ (.cells #[.int .i64 code, .slice aoH rs.length cH] 29))).later hb)
  have G_vW := hide ((F_vW.out.later (below_alloc _ (.cells #[.int .i64 code, .slice aoH rs.length cH] 29))).later hb)
  have G_vG := hide ((F_vG.out.later (below_alloc _ (.cells #[.int .i64 code, .slice aoH rs.length cH] 29))).later hb)
  have G_R := hide ((F_R.out.later (below_alloc _ (.cells #[.int .i64 code, .slice aoH rs.length cH] 29))).later hb)
  have G_H := hide ((F_H.out.later (below_alloc _ (.cells #[.int .i64 code, .slice aoH rs.length cH] 29))).later hb)
  have BC := hide (below_on (below_on BB.out (below_alloc _ (.cells #[.int .i64 code, .slice aoH rs.length cH] 29))) hb)
  have z15 : w14.heap.size + 1 ≤ w15.heap.size := by have := hb.size; simpa using this
  have N_vH := hide ((Var2_new w14 (.int .i64 code) (.slice aoH rs.length cH) 29).later hb)
  clear hb
  clear vWlt vWc0 vWc1
  clear F_box
  have F_box := G_box
  clear G_box
  clear F_W
  have F_W := G_W
  clear G_W
  clear F_vW
  have F_vW := G_vW
  clear G_vW
  clear F_vG
  have F_vG := G_vG
  clear G_vG
  clear F_R
  have F_R := G_R
  clear G_R
  clear F_H
  have F_H := G_H
  clear G_H
  clear BB
  have BB := BC
  clear BC
  have F_vH := N_vH
  clear N_vH
  clear F_H
  clear F_W
  clear F_vH
  clear F_vW
  have vGlt := F_vG.out.lt
  obtain ⟨vGc0, vGc1⟩ := F_vG.out
  go_wp2_with fail
  refine (heldPutsResult F_R.out (by omega) HRB.out).mono ?_
  rintro e w16 ⟨he, hb⟩
  rw [HMe.out] at he
  subst he
  have G_box := hide (F_box.out.later hb)
  have G_vG := hide (F_vG.out.later hb)
  have G_R := hide (F_R.out.later hb)
  have BC := hide (below_on BB.out hb)
  have z16 : w15.heap.size ≤ w16.heap.size := by have := hb.size; simpa using this
  clear hb
  clear vGlt vGc0 vGc1
  clear F_box
  have F_box := G_box
  clear G_box
  clear F_vG
  have F_vG := G_vG
  clear G_vG
  clear F_R
  have F_R := G_R
  clear G_R
  clear BB
  have BB := BC
  clear BC
  go_wp2
  go_ret
  exact ⟨rfl, BB.out⟩
end Go.Proofs.Ytbjmmhcbjcngcaa
