/- The law 'FnExactUnpackEntry' walked, out of what the program's function and the model's leave. Made by program (lawgen.py). -/
import Derived.Test.YtbgbenfabepgkaaEnV
import Derived.Test.YtbgbenfabepgkaaIv5
import Derived.Deep.CutRange
namespace Go.Proofs.Ytbgbenfabepgkaa
open Go.RowKit

set_option linter.unusedSimpArgs false in
set_option maxHeartbeats 8000000 in
set_option maxRecDepth 4000 in
theorem lawUnpackEntry_small {S0 : Nat → Prop} {w : World} {y0 : Value} {xs0 : List Int} (hy0 : RdI S0 w y0 xs0) (code : Int) (rs : List Oj) (hres : totJ rs rs.length ≤ 1048576)
    (hl0 : xs0.length ≤ 1048576)
    (hspec : ∀ (S0 : Nat → Prop) (w : World) (y0 : Value), RdI S0 w y0 xs0 → Calls Try.prog 25 #[y0] w (EndsEn code rs w))
    (himpl : ∀ (S0 : Nat → Prop) (w : World) (y0 : Value), RdI S0 w y0 xs0 → Calls Try.prog 27 #[y0] w (EndsEn code rs w)) :
    Calls Try.prog 6 #[y0] w fun e w' => e = .returned (.bool true) ∧ Below w.heap.size w w' := by
  have HS := hide hspec
  have HI := hide himpl
  clear hspec himpl
  obtain ⟨ay0, cy0, rfl⟩ := hy0.shape
  obtain ⟨l0, hll0⟩ : ∃ l, xs0.length = l := ⟨_, rfl⟩
  have HL0 := hide hll0
  rw [hll0] at hl0 hy0 ⊢
  have HY0 := hide hy0
  clear hy0 hll0
  obtain ⟨lr, hlr⟩ : ∃ l, rs.length = l := ⟨_, rfl⟩
  have HLr := hide hlr
  clear hlr
  have HRB := hide (show (1 : Int) + (totJ rs rs.length : Int) ≤ 9223372036854775807 by omega)
  have hM : 0 ≤ (1 : Int) + (totJ rs rs.length : Int) := by omega
  obtain ⟨M, hMe⟩ : ∃ M : Int, (1 : Int) + (totJ rs rs.length : Int) = M := ⟨_, rfl⟩
  rw [hMe] at hM
  have HMe := hide hMe
  clear hMe hres
  go_enter Try.func6, Try.ntmps6
  have BB := hide (Below.refl w.heap.size w)
  go_wp2_with fail
  refine (toI' (HY0.out.later BB.out) (by rw [HL0.out]; exact hl0)).mono ?_
  rintro e w1 ⟨zW0, rfl, hb, ho⟩
  obtain ⟨aoW0, cW0, hzW0⟩ := ho.shape
  rw [HL0.out] at hzW0
  subst hzW0
  have BC := hide (below_on BB.out hb)
  have z_w1 : w.heap.size ≤ w1.heap.size := by have := hb.size; simpa using this
  have N_t0 := hide (ho.iv)
  clear BB
  have BB := BC
  clear BC
  have F_t0 := N_t0
  clear N_t0
  clear hb
  clear ho
  go_wp2_with fail
  refine (HS.out _ _ _ F_t0.out.rd).mono ?_
  rintro e w2 ⟨zW, rfl, hb, ho⟩
  obtain ⟨aoW, cW, hzW⟩ := ho.shape
  rw [HLr.out] at hzW
  subst hzW
  have G_t0 := hide (F_t0.out.later hb)
  have BC := hide (below_on BB.out hb)
  have z_w2 : w1.heap.size ≤ w2.heap.size := by have := hb.size; simpa using this
  have N_W := hide (ho.iv)
  clear F_t0
  have F_t0 := G_t0
  clear G_t0
  clear BB
  have BB := BC
  clear BC
  have F_W := N_W
  clear N_W
  clear hb
  clear ho
  clear F_t0
  go_wp2_with fail
  refine (toI' (HY0.out.later (below_on BB.out (below_alloc _ (.cells #[.int .i64 code, .slice aoW lr cW] 45)))) (by rw [HL0.out]; exact hl0)).mono ?_
  rintro e w3 ⟨zx0, rfl, hb, ho⟩
  obtain ⟨aox0, cx0, hzx0⟩ := ho.shape
  rw [HL0.out] at hzx0
  subst hzx0
  have G_W := hide ((F_W.out.later (below_alloc _ (.cells #[.int .i64 code, .slice aoW lr cW] 45))).later hb)
  have BC := hide (below_on (below_on BB.out (below_alloc _ (.cells #[.int .i64 code, .slice aoW lr cW] 45))) hb)
  have z_w3 : w2.heap.size + 1 ≤ w3.heap.size := by have := hb.size; simpa using this
  have N_x0 := hide (ho.iv)
  have N_vW := hide ((Var2_new w2 (.int .i64 code) (.slice aoW lr cW) 45).later hb)
  clear F_W
  have F_W := G_W
  clear G_W
  clear BB
  have BB := BC
  clear BC
  have F_x0 := N_x0
  clear N_x0
  have F_vW := N_vW
  clear N_vW
  clear hb
  clear ho
  go_wp2_with fail
  refine (HI.out _ _ _ F_x0.out.rd).mono ?_
  rintro e w4 ⟨zG, rfl, hb, ho⟩
  obtain ⟨aoG, cG, hzG⟩ := ho.shape
  rw [HLr.out] at hzG
  subst hzG
  have G_W := hide (F_W.out.later hb)
  have G_x0 := hide (F_x0.out.later hb)
  have G_vW := hide (F_vW.out.later hb)
  have BC := hide (below_on BB.out hb)
  have z_w4 : w3.heap.size ≤ w4.heap.size := by have := hb.size; simpa using this
  have N_G := hide (ho.iv)
  clear F_W
  have F_W := G_W
  clear G_W
  clear F_x0
  have F_x0 := G_x0
  clear G_x0
  clear F_vW
  have F_vW := G_vW
  clear G_vW
  clear BB
  have BB := BC
  clear BC
  have F_G := N_G
  clear N_G
  clear hb
  clear ho
  have qlt := F_vW.out.lt
  obtain ⟨q0, q1⟩ := F_vW.out
  (try simp only [Nat.add_zero] at qlt)
  go_wp2_with fail
  refine (eqEntriesResult (F_G.out.later (below_alloc _ (.cells #[.int .i64 code, .slice aoG lr cG] 45))).rd (F_W.out.later (below_alloc _ (.cells #[.int .i64 code, .slice aoG lr cG] 45))).rd).mono ?_
  rintro e w5 ⟨rfl, hb⟩
  have G_W := hide ((F_W.out.later (below_alloc _ (.cells #[.int .i64 code, .slice aoG lr cG] 45))).later hb)
  have G_x0 := hide ((F_x0.out.later (below_alloc _ (.cells #[.int .i64 code, .slice aoG lr cG] 45))).later hb)
  have G_vW := hide ((F_vW.out.later (below_alloc _ (.cells #[.int .i64 code, .slice aoG lr cG] 45))).later hb)
  have G_G := hide ((F_G.out.later (below_alloc _ (.cells #[.int .i64 code, .slice aoG lr cG] 45))).later hb)
  have BC := hide (below_on (below_on BB.out (below_alloc _ (.cells #[.int .i64 code, .slice aoG lr cG] 45))) hb)
  have z_w5 : w4.heap.size + 1 ≤ w5.heap.size := by have := hb.size; simpa using this
  have N_vG := hide ((Var2_new w4 (.int .i64 code) (.slice aoG lr cG) 45).later hb)
  clear qlt q0 q1
  clear F_W
  have F_W := G_W
  clear G_W
  clear F_x0
  have F_x0 := G_x0
  clear G_x0
  clear F_vW
  have F_vW := G_vW
  clear G_vW
  clear F_G
  have F_G := G_G
  clear G_G
  clear BB
  have BB := BC
  clear BC
  have F_vG := N_vG
  clear N_vG
  clear hb
  go_wp2_with fail
  refine (toI' (HY0.out.later BB.out) (by rw [HL0.out]; exact hl0)).mono ?_
  rintro e w6 ⟨ze0, rfl, hb, ho⟩
  obtain ⟨aoe0, ce0, hze0⟩ := ho.shape
  rw [HL0.out] at hze0
  subst hze0
  have G_W := hide (F_W.out.later hb)
  have G_x0 := hide (F_x0.out.later hb)
  have G_vW := hide (F_vW.out.later hb)
  have G_G := hide (F_G.out.later hb)
  have G_vG := hide (F_vG.out.later hb)
  have BC := hide (below_on BB.out hb)
  have z_w6 : w5.heap.size ≤ w6.heap.size := by have := hb.size; simpa using this
  have N_t0 := hide (ho.iv)
  clear F_W
  have F_W := G_W
  clear G_W
  clear F_x0
  have F_x0 := G_x0
  clear G_x0
  clear F_vW
  have F_vW := G_vW
  clear G_vW
  clear F_G
  have F_G := G_G
  clear G_G
  clear F_vG
  have F_vG := G_vG
  clear G_vG
  clear BB
  have BB := BC
  clear BC
  have F_t0 := N_t0
  clear N_t0
  clear hb
  clear ho
  go_wp2_with fail
  refine (eqI' F_x0.out.rd F_t0.out.rd).mono ?_
  rintro e w7 ⟨rfl, hb⟩
  have G_W := hide (F_W.out.later hb)
  have G_x0 := hide (F_x0.out.later hb)
  have G_vW := hide (F_vW.out.later hb)
  have G_G := hide (F_G.out.later hb)
  have G_vG := hide (F_vG.out.later hb)
  have G_t0 := hide (F_t0.out.later hb)
  have BC := hide (below_on BB.out hb)
  have z_w7 : w6.heap.size ≤ w7.heap.size := by have := hb.size; simpa using this
  clear F_W
  have F_W := G_W
  clear G_W
  clear F_x0
  have F_x0 := G_x0
  clear G_x0
  clear F_vW
  have F_vW := G_vW
  clear G_vW
  clear F_G
  have F_G := G_G
  clear G_G
  clear F_vG
  have F_vG := G_vG
  clear G_vG
  clear F_t0
  have F_t0 := G_t0
  clear G_t0
  clear BB
  have BB := BC
  clear BC
  clear hb
  clear F_t0
  have hK0 : (0 : Int) ≤ 1 := by omega
  go_wp2_with fail
  refine (markIIv F_x0.out (by omega) (by rw [HL0.out]; omega)).mono ?_
  rintro e w8 ⟨he, hw⟩
  obtain ⟨K1, hK⟩ : ∃ K : Int, 1 + (xs0.length : Int) = K := ⟨_, rfl⟩
  rw [hK] at he
  subst he
  rw [HL0.out] at hK
  have hK1 : 0 ≤ K1 := by omega
  have hKb1 : K1 ≤ 8388608 := by omega
  clear hK
  clear F_x0
  have z_w8 : w7.heap.size ≤ w8.heap.size := hw.size
  have G_W := hide (F_W.out.wr hw (by intro b; simp <;> omega))
  have G_vW := hide (F_vW.out.wr hw (by have := F_vW.out.lt; simp <;> omega))
  have G_G := hide (F_G.out.wr hw (by intro b; simp <;> omega))
  have G_vG := hide (F_vG.out.wr hw (by have := F_vG.out.lt; simp <;> omega))
  have BC := hide (BB.out.trans (hw.below (by omega) (by intro b hb; (try simp at hb); omega)))
  clear F_W
  have F_W := G_W
  clear G_W
  clear F_vW
  have F_vW := G_vW
  clear G_vW
  clear F_G
  have F_G := G_G
  clear G_G
  clear F_vG
  have F_vG := G_vG
  clear G_vG
  clear BB
  have BB := BC
  clear BC
  clear hw
  have plt := F_vG.out.lt
  obtain ⟨p0, p1⟩ := F_vG.out
  (try simp only [Nat.add_zero] at plt)
  have qlt := F_vW.out.lt
  obtain ⟨q0, q1⟩ := F_vW.out
  (try simp only [Nat.add_zero] at qlt)
  go_wp2_with fail
  refine (eqEntriesResult F_G.out.rd F_W.out.rd).mono ?_
  rintro e w9 ⟨rfl, hb⟩
  have G_W := hide (F_W.out.later hb)
  have G_vW := hide (F_vW.out.later hb)
  have G_G := hide (F_G.out.later hb)
  have G_vG := hide (F_vG.out.later hb)
  have BC := hide (below_on BB.out hb)
  have z_w9 : w8.heap.size ≤ w9.heap.size := by have := hb.size; simpa using this
  clear plt p0 p1
  clear qlt q0 q1
  clear F_W
  have F_W := G_W
  clear G_W
  clear F_vW
  have F_vW := G_vW
  clear G_vW
  clear F_G
  have F_G := G_G
  clear G_G
  clear F_vG
  have F_vG := G_vG
  clear G_vG
  clear BB
  have BB := BC
  clear BC
  clear hb
  have plt := F_vG.out.lt
  obtain ⟨p0, p1⟩ := F_vG.out
  (try simp only [Nat.add_zero] at plt)
  go_wp2_with fail
  refine (markEntriesResult F_G.out (by omega) HRB.out).mono ?_
  rintro e w10 ⟨he, hr, hw⟩
  rw [HMe.out] at he
  subst he
  have N_R := hide hr
  clear plt p0 p1
  clear F_G
  have z_w10 : w9.heap.size ≤ w10.heap.size := hw.size
  clear hr
  have G_W := hide (F_W.out.wr hw (by intro b; simp <;> omega))
  have G_vW := hide (F_vW.out.wr hw (by have := F_vW.out.lt; simp <;> omega))
  have G_vG := hide (F_vG.out.wr hw (by have := F_vG.out.lt; simp <;> omega))
  have BC := hide (BB.out.trans (hw.below (by omega) (by intro b hb; (try simp at hb); omega)))
  clear F_W
  have F_W := G_W
  clear G_W
  clear F_vW
  have F_vW := G_vW
  clear G_vW
  clear F_vG
  have F_vG := G_vG
  clear G_vG
  clear BB
  have BB := BC
  clear BC
  clear hw
  have F_R := N_R
  clear N_R
  have plt := F_vG.out.lt
  obtain ⟨p0, p1⟩ := F_vG.out
  (try simp only [Nat.add_zero] at plt)
  go_wp2_with fail
  refine (heldEntriesResult F_R.out (by omega) HRB.out).mono ?_
  rintro e w11 ⟨he, hb⟩
  rw [HMe.out] at he
  subst he
  have G_W := hide (F_W.out.later hb)
  have G_vW := hide (F_vW.out.later hb)
  have G_vG := hide (F_vG.out.later hb)
  have G_R := hide (F_R.out.later hb)
  have BC := hide (below_on BB.out hb)
  have z_w11 : w10.heap.size ≤ w11.heap.size := by have := hb.size; simpa using this
  clear plt p0 p1
  clear F_W
  have F_W := G_W
  clear G_W
  clear F_vW
  have F_vW := G_vW
  clear G_vW
  clear F_vG
  have F_vG := G_vG
  clear G_vG
  clear F_R
  have F_R := G_R
  clear G_R
  clear BB
  have BB := BC
  clear BC
  clear hb
  go_wp2_with fail
  refine (toI' (HY0.out.later BB.out) (by rw [HL0.out]; exact hl0)).mono ?_
  rintro e w12 ⟨zH0, rfl, hb, ho⟩
  obtain ⟨aoH0, cH0, hzH0⟩ := ho.shape
  rw [HL0.out] at hzH0
  subst hzH0
  have G_W := hide (F_W.out.later hb)
  have G_vW := hide (F_vW.out.later hb)
  have G_vG := hide (F_vG.out.later hb)
  have G_R := hide (F_R.out.later hb)
  have BC := hide (below_on BB.out hb)
  have z_w12 : w11.heap.size ≤ w12.heap.size := by have := hb.size; simpa using this
  have N_t0 := hide (ho.iv)
  clear F_W
  have F_W := G_W
  clear G_W
  clear F_vW
  have F_vW := G_vW
  clear G_vW
  clear F_vG
  have F_vG := G_vG
  clear G_vG
  clear F_R
  have F_R := G_R
  clear G_R
  clear BB
  have BB := BC
  clear BC
  have F_t0 := N_t0
  clear N_t0
  clear hb
  clear ho
  go_wp2_with fail
  refine (HI.out _ _ _ F_t0.out.rd).mono ?_
  rintro e w13 ⟨zH, rfl, hb, ho⟩
  obtain ⟨aoH, cH, hzH⟩ := ho.shape
  rw [HLr.out] at hzH
  subst hzH
  have G_W := hide (F_W.out.later hb)
  have G_vW := hide (F_vW.out.later hb)
  have G_vG := hide (F_vG.out.later hb)
  have G_R := hide (F_R.out.later hb)
  have G_t0 := hide (F_t0.out.later hb)
  have BC := hide (below_on BB.out hb)
  have z_w13 : w12.heap.size ≤ w13.heap.size := by have := hb.size; simpa using this
  have N_H := hide (ho.iv)
  clear F_W
  have F_W := G_W
  clear G_W
  clear F_vW
  have F_vW := G_vW
  clear G_vW
  clear F_vG
  have F_vG := G_vG
  clear G_vG
  clear F_R
  have F_R := G_R
  clear G_R
  clear F_t0
  have F_t0 := G_t0
  clear G_t0
  clear BB
  have BB := BC
  clear BC
  have F_H := N_H
  clear N_H
  clear hb
  clear ho
  clear F_t0
  have qlt := F_vW.out.lt
  obtain ⟨q0, q1⟩ := F_vW.out
  (try simp only [Nat.add_zero] at qlt)
  go_wp2_with fail
  refine (eqEntriesResult (F_H.out.later (below_alloc _ (.cells #[.int .i64 code, .slice aoH lr cH] 45))).rd (F_W.out.later (below_alloc _ (.cells #[.int .i64 code, .slice aoH lr cH] 45))).rd).mono ?_
  rintro e w14 ⟨rfl, hb⟩
  have G_W := hide ((F_W.out.later (below_alloc _ (.cells #[.int .i64 code, .slice aoH lr cH] 45))).later hb)
  have G_vW := hide ((F_vW.out.later (below_alloc _ (.cells #[.int .i64 code, .slice aoH lr cH] 45))).later hb)
  have G_vG := hide ((F_vG.out.later (below_alloc _ (.cells #[.int .i64 code, .slice aoH lr cH] 45))).later hb)
  have G_R := hide ((F_R.out.later (below_alloc _ (.cells #[.int .i64 code, .slice aoH lr cH] 45))).later hb)
  have G_H := hide ((F_H.out.later (below_alloc _ (.cells #[.int .i64 code, .slice aoH lr cH] 45))).later hb)
  have BC := hide (below_on (below_on BB.out (below_alloc _ (.cells #[.int .i64 code, .slice aoH lr cH] 45))) hb)
  have z_w14 : w13.heap.size + 1 ≤ w14.heap.size := by have := hb.size; simpa using this
  have N_vH := hide ((Var2_new w13 (.int .i64 code) (.slice aoH lr cH) 45).later hb)
  clear qlt q0 q1
  clear F_W
  have F_W := G_W
  clear G_W
  clear F_vW
  have F_vW := G_vW
  clear G_vW
  clear F_vG
  have F_vG := G_vG
  clear G_vG
  clear F_R
  have F_R := G_R
  clear G_R
  clear F_H
  have F_H := G_H
  clear G_H
  clear BB
  have BB := BC
  clear BC
  have F_vH := N_vH
  clear N_vH
  clear hb
  clear F_H
  clear F_W
  clear F_vH
  clear F_vW
  have plt := F_vG.out.lt
  obtain ⟨p0, p1⟩ := F_vG.out
  (try simp only [Nat.add_zero] at plt)
  go_wp2_with fail
  refine (heldEntriesResult F_R.out (by omega) HRB.out).mono ?_
  rintro e w15 ⟨he, hb⟩
  rw [HMe.out] at he
  subst he
  have G_vG := hide (F_vG.out.later hb)
  have G_R := hide (F_R.out.later hb)
  have BC := hide (below_on BB.out hb)
  have z_w15 : w14.heap.size ≤ w15.heap.size := by have := hb.size; simpa using this
  clear plt p0 p1
  clear F_vG
  have F_vG := G_vG
  clear G_vG
  clear F_R
  have F_R := G_R
  clear G_R
  clear BB
  have BB := BC
  clear BC
  clear hb
  go_wp2
  go_ret
  exact ⟨rfl, BB.out⟩
end Go.Proofs.Ytbgbenfabepgkaa
