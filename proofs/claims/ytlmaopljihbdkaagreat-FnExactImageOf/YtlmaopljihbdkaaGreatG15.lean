/- LawImageOf in one text: what each says stands at its head below. -/
import Derived.Test.YtlmaopljihbdkaaGreatG14
import Derived.Test.YtlmaopljihbdkaaGreatG08
import Derived.Test.YtlmaopljihbdkaaGreatG12
import Derived.Deep.CutRange
/- The law 'FnExactImageOf' walked, out of what the program's function and the model's leave. Made by program (lawgen.py). -/
namespace Go.Proofs.YtlmaopljihbdkaaGreat
open Go.RowKit

set_option linter.unusedSimpArgs false in
set_option maxHeartbeats 8000000 in
set_option maxRecDepth 4000 in
theorem lawImageOf_small {S0 T0 : Nat → Prop} {w : World} (n0_0 n0_1 n0_2 n0_3 : Int) {y0 z0 : Value} {xs0 : List Int} {ps0 : List Oj} (hy0 : RdI S0 w y0 xs0) (hz0 : RdJ T0 w z0 ps0) (code : Int) (rs : List (Int × List Int)) (hres : totP rs rs.length ≤ 1048576)
    (hsz : ((xs0.length : Int) + szU ps0) ≤ 1048576)
    (hspec : ∀ (S0 T0 : Nat → Prop) (w : World) (y0 z0 : Value), RdI S0 w y0 xs0 → RdJ T0 w z0 ps0 → Calls Tryz.prog 7 #[.agg #[.int .i64 n0_0, .int .i64 n0_1, .int .i64 n0_2, .int .i64 n0_3, y0, z0]] w (EndsP code rs w))
    (himpl : ∀ (S0 T0 : Nat → Prop) (w : World) (y0 z0 : Value), RdI S0 w y0 xs0 → RdJ T0 w z0 ps0 → Calls Tryz.prog 9 #[.agg #[.int .i64 n0_0, .int .i64 n0_1, .int .i64 n0_2, .int .i64 n0_3, y0, z0]] w (EndsP code rs w)) :
    Calls Tryz.prog 3 #[.agg #[.int .i64 n0_0, .int .i64 n0_1, .int .i64 n0_2, .int .i64 n0_3, y0, z0]] w fun e w' => e = .returned (.bool true) ∧ Below w.heap.size w w' := by
  have HS := hide hspec
  have HI := hide himpl
  clear hspec himpl
  obtain ⟨ay0, cy0, rfl⟩ := hy0.shape
  obtain ⟨az0, cz0, rfl, _⟩ := hz0.shape
  have hsn0 := szU_nonneg ps0
  have HQ0 := hide (smallU (qs := ps0) (by omega))
  have hxl0 : xs0.length ≤ 1048576 := by omega
  obtain ⟨s0, hs0⟩ : ∃ s, (xs0.length : Int) + szU ps0 = s := ⟨_, rfl⟩
  have hs00 : 0 ≤ s0 := by omega
  rw [hs0] at hsz
  have HSz0 := hide hs0
  clear hs0 hsn0
  obtain ⟨l0, hll0⟩ : ∃ l, xs0.length = l := ⟨_, rfl⟩
  have HL0 := hide hll0
  rw [hll0] at hy0 hxl0 ⊢
  obtain ⟨m0, hmm0⟩ : ∃ l, ps0.length = l := ⟨_, rfl⟩
  have HM0 := hide hmm0
  rw [hmm0] at hz0 ⊢
  have HY0 := hide hy0
  have HZZ0 := hide hz0
  clear hy0 hz0 hll0 hmm0
  obtain ⟨T_0, hT0⟩ : ∃ T : Nat, totJ ps0 ps0.length = T := ⟨_, rfl⟩
  have hTb0 : (T_0 : Int) ≤ 4194304 := by have := HQ0.out.2.2; rw [hT0] at this; exact this
  have HT0 := hide hT0
  clear hT0
  have HZ0 := hide (szv_yes (left := (1048576 : Int)) (s := s0) (by omega))
  have hp0 : ¬ ((1048576 : Int) - s0 < 0) := by omega
  obtain ⟨lr, hlr⟩ : ∃ l, rs.length = l := ⟨_, rfl⟩
  have HLr := hide hlr
  clear hlr
  have HRB := hide (show (1 : Int) + (totP rs rs.length : Int) ≤ 9223372036854775807 by omega)
  have hM : 0 ≤ (1 : Int) + (totP rs rs.length : Int) := by omega
  obtain ⟨M, hMe⟩ : ∃ M : Int, (1 : Int) + (totP rs rs.length : Int) = M := ⟨_, rfl⟩
  rw [hMe] at hM
  have HMe := hide hMe
  clear hMe hres
  go_enter Tryz.func3, Tryz.ntmps3
  have BB := hide (Below.refl w.heap.size w)
  have F_b0 : Hid (Var6 (w.alloc (.cells #[.int .i64 n0_0, .int .i64 n0_1, .int .i64 n0_2, .int .i64 n0_3, .slice ay0 l0 cy0, .slice az0 m0 cz0] 25)) (w.heap.size) (.int .i64 n0_0) (.int .i64 n0_1) (.int .i64 n0_2) (.int .i64 n0_3) (.slice ay0 l0 cy0) (.slice az0 m0 cz0)) := by have h := Var6_new w (.int .i64 n0_0) (.int .i64 n0_1) (.int .i64 n0_2) (.int .i64 n0_3) (.slice ay0 l0 cy0) (.slice az0 m0 cz0) 25; (try simp at h); unfold Hid; exact h
  clear BB
  have BB := hide (below_on (Below.refl w.heap.size w) (below_alloc _ (.cells #[.int .i64 n0_0, .int .i64 n0_1, .int .i64 n0_2, .int .i64 n0_3, .slice ay0 l0 cy0, .slice az0 m0 cz0] 25)))
  have p0_lt := F_b0.out.lt
  obtain ⟨p0_0, p0_1, p0_2, p0_3, p0_4, p0_5⟩ := F_b0.out
  (try simp only [Nat.add_zero] at p0_lt)
  go_wp2_with fail
  refine (szRaft n0_0 n0_1 n0_2 n0_3 (HY0.out.later BB.out) (HZZ0.out.later BB.out) (by omega) (by omega)).mono ?_
  rintro e w1 ⟨he, hb⟩
  rw [HSz0.out, HZ0.out] at he
  subst he
  have G_b0 := hide (F_b0.out.later hb)
  have BC := hide (below_on BB.out hb)
  have z_w1 : w.heap.size + 1 ≤ w1.heap.size := by have := hb.size; simpa using this
  clear p0_lt p0_0 p0_1 p0_2 p0_3 p0_4 p0_5
  clear F_b0
  have F_b0 := G_b0
  clear G_b0
  clear BB
  have BB := BC
  clear BC
  clear hb
  have p0_lt := F_b0.out.lt
  obtain ⟨p0_0, p0_1, p0_2, p0_3, p0_4, p0_5⟩ := F_b0.out
  (try simp only [Nat.add_zero] at p0_lt)
  go_wp2_with fail
  refine (toRaft n0_0 n0_1 n0_2 n0_3 (HY0.out.later BB.out) (HZZ0.out.later BB.out) (by rw [HL0.out]; exact hxl0) HQ0.out.1 HQ0.out.2.1).mono ?_
  rintro e w2 ⟨yW0, zW0, rfl, hb, ho⟩
  obtain ⟨aoW0, cW0, boW0, dW0, hyW0, hzW0⟩ := ho.shape
  rw [HL0.out] at hyW0
  rw [HM0.out] at hzW0
  subst hyW0
  subst hzW0
  have G_b0 := hide (F_b0.out.later hb)
  have BC := hide (below_on BB.out hb)
  have z_w2 : w1.heap.size ≤ w2.heap.size := by have := hb.size; simpa using this
  have N_t0 := hide (ho)
  clear p0_lt p0_0 p0_1 p0_2 p0_3 p0_4 p0_5
  clear F_b0
  have F_b0 := G_b0
  clear G_b0
  clear BB
  have BB := BC
  clear BC
  have F_t0 := N_t0
  clear N_t0
  clear hb
  clear ho
  go_wp2_with fail
  refine (HS.out _ _ _ _ _ F_t0.out.rdI F_t0.out.rdJ).mono ?_
  rintro e w3 ⟨zW, rfl, hb, ho⟩
  obtain ⟨aoW, cW, hzW⟩ := ho.shape
  rw [HLr.out] at hzW
  subst hzW
  have G_b0 := hide (F_b0.out.later hb)
  have G_t0 := hide (F_t0.out.later hb)
  have BC := hide (below_on BB.out hb)
  have z_w3 : w2.heap.size ≤ w3.heap.size := by have := hb.size; simpa using this
  have N_W := hide (ho.iv)
  clear F_b0
  have F_b0 := G_b0
  clear G_b0
  clear F_t0
  have F_t0 := G_t0
  clear G_t0
  clear BB
  have BB := BC
  clear BC
  have F_W := N_W
  clear N_W
  clear hb
  clear ho
  clear F_t0
  have p0_lt := F_b0.out.lt
  obtain ⟨p0_0, p0_1, p0_2, p0_3, p0_4, p0_5⟩ := F_b0.out
  (try simp only [Nat.add_zero] at p0_lt)
  go_wp2_with fail
  refine (toRaft n0_0 n0_1 n0_2 n0_3 (HY0.out.later (below_on BB.out (below_alloc _ (.cells #[.int .i64 code, .slice aoW lr cW] 29)))) (HZZ0.out.later (below_on BB.out (below_alloc _ (.cells #[.int .i64 code, .slice aoW lr cW] 29)))) (by rw [HL0.out]; exact hxl0) HQ0.out.1 HQ0.out.2.1).mono ?_
  rintro e w4 ⟨yx0, zx0, rfl, hb, ho⟩
  obtain ⟨aox0, cx0, box0, dx0, hyx0, hzx0⟩ := ho.shape
  rw [HL0.out] at hyx0
  rw [HM0.out] at hzx0
  subst hyx0
  subst hzx0
  have G_b0 := hide ((F_b0.out.later (below_alloc _ (.cells #[.int .i64 code, .slice aoW lr cW] 29))).later hb)
  have G_W := hide ((F_W.out.later (below_alloc _ (.cells #[.int .i64 code, .slice aoW lr cW] 29))).later hb)
  have BC := hide (below_on (below_on BB.out (below_alloc _ (.cells #[.int .i64 code, .slice aoW lr cW] 29))) hb)
  have z_w4 : w3.heap.size + 1 ≤ w4.heap.size := by have := hb.size; simpa using this
  have N_x0 := hide (ho)
  have N_vW := hide ((Var2_new w3 (.int .i64 code) (.slice aoW lr cW) 29).later hb)
  clear p0_lt p0_0 p0_1 p0_2 p0_3 p0_4 p0_5
  clear F_b0
  have F_b0 := G_b0
  clear G_b0
  clear F_W
  have F_W := G_W
  clear G_W
  clear BB
  have BB := BC
  clear BC
  have F_x0 := N_x0
  clear N_x0
  have F_vW := N_vW
  clear N_vW
  clear hb
  clear ho
  go_wp2_with fail
  refine (HI.out _ _ _ _ _ (F_x0.out.later (below_alloc _ (.cells #[.int .i64 n0_0, .int .i64 n0_1, .int .i64 n0_2, .int .i64 n0_3, .slice aox0 l0 cx0, .slice box0 m0 dx0] 33))).rdI (F_x0.out.later (below_alloc _ (.cells #[.int .i64 n0_0, .int .i64 n0_1, .int .i64 n0_2, .int .i64 n0_3, .slice aox0 l0 cx0, .slice box0 m0 dx0] 33))).rdJ).mono ?_
  rintro e w5 ⟨zG, rfl, hb, ho⟩
  obtain ⟨aoG, cG, hzG⟩ := ho.shape
  rw [HLr.out] at hzG
  subst hzG
  have G_b0 := hide ((F_b0.out.later (below_alloc _ (.cells #[.int .i64 n0_0, .int .i64 n0_1, .int .i64 n0_2, .int .i64 n0_3, .slice aox0 l0 cx0, .slice box0 m0 dx0] 33))).later hb)
  have G_W := hide ((F_W.out.later (below_alloc _ (.cells #[.int .i64 n0_0, .int .i64 n0_1, .int .i64 n0_2, .int .i64 n0_3, .slice aox0 l0 cx0, .slice box0 m0 dx0] 33))).later hb)
  have G_x0 := hide ((F_x0.out.later (below_alloc _ (.cells #[.int .i64 n0_0, .int .i64 n0_1, .int .i64 n0_2, .int .i64 n0_3, .slice aox0 l0 cx0, .slice box0 m0 dx0] 33))).later hb)
  have G_vW := hide ((F_vW.out.later (below_alloc _ (.cells #[.int .i64 n0_0, .int .i64 n0_1, .int .i64 n0_2, .int .i64 n0_3, .slice aox0 l0 cx0, .slice box0 m0 dx0] 33))).later hb)
  have BC := hide (below_on (below_on BB.out (below_alloc _ (.cells #[.int .i64 n0_0, .int .i64 n0_1, .int .i64 n0_2, .int .i64 n0_3, .slice aox0 l0 cx0, .slice box0 m0 dx0] 33))) hb)
  have z_w5 : w4.heap.size + 1 ≤ w5.heap.size := by have := hb.size; simpa using this
  have N_G := hide (ho.iv)
  have N_v0 := hide ((Var6_new w4 (.int .i64 n0_0) (.int .i64 n0_1) (.int .i64 n0_2) (.int .i64 n0_3) (.slice aox0 l0 cx0) (.slice box0 m0 dx0) 33).later hb)
  clear F_b0
  have F_b0 := G_b0
  clear G_b0
  clear F_W
  have F_W := G_W
  clear G_W
  clear F_x0
  have F_x0 := G_x0
  clear G_x0
  clear F_vW
  have F_vW := G_vW
  clear G_vW
  clear BB
  have BB := BC
  clear BC
  have F_G := N_G
  clear N_G
  have F_v0 := N_v0
  clear N_v0
  clear hb
  clear ho
  have qlt := F_vW.out.lt
  obtain ⟨q0, q1⟩ := F_vW.out
  (try simp only [Nat.add_zero] at qlt)
  go_wp2_with fail
  refine (eqPutsResult (F_G.out.later (below_alloc _ (.cells #[.int .i64 code, .slice aoG lr cG] 29))).rd (F_W.out.later (below_alloc _ (.cells #[.int .i64 code, .slice aoG lr cG] 29))).rd).mono ?_
  rintro e w6 ⟨rfl, hb⟩
  have G_b0 := hide ((F_b0.out.later (below_alloc _ (.cells #[.int .i64 code, .slice aoG lr cG] 29))).later hb)
  have G_W := hide ((F_W.out.later (below_alloc _ (.cells #[.int .i64 code, .slice aoG lr cG] 29))).later hb)
  have G_x0 := hide ((F_x0.out.later (below_alloc _ (.cells #[.int .i64 code, .slice aoG lr cG] 29))).later hb)
  have G_vW := hide ((F_vW.out.later (below_alloc _ (.cells #[.int .i64 code, .slice aoG lr cG] 29))).later hb)
  have G_G := hide ((F_G.out.later (below_alloc _ (.cells #[.int .i64 code, .slice aoG lr cG] 29))).later hb)
  have G_v0 := hide ((F_v0.out.later (below_alloc _ (.cells #[.int .i64 code, .slice aoG lr cG] 29))).later hb)
  have BC := hide (below_on (below_on BB.out (below_alloc _ (.cells #[.int .i64 code, .slice aoG lr cG] 29))) hb)
  have z_w6 : w5.heap.size + 1 ≤ w6.heap.size := by have := hb.size; simpa using this
  have N_vG := hide ((Var2_new w5 (.int .i64 code) (.slice aoG lr cG) 29).later hb)
  clear qlt q0 q1
  clear F_b0
  have F_b0 := G_b0
  clear G_b0
  clear F_W
  have F_W := G_W
  clear G_W
  clear F_x0
  have F_x0 := G_x0
  clear G_x0
  clear F_vW
  have F_vW := G_vW
  clear G_vW
  clear F_G
  have F_G := G_G
  clear G_G
  clear F_v0
  have F_v0 := G_v0
  clear G_v0
  clear BB
  have BB := BC
  clear BC
  have F_vG := N_vG
  clear N_vG
  clear hb
  have plt := F_b0.out.lt
  obtain ⟨p0, p1, p2, p3, p4, p5⟩ := F_b0.out
  (try simp only [Nat.add_zero] at plt)
  have qlt := F_v0.out.lt
  obtain ⟨q0, q1, q2, q3, q4, q5⟩ := F_v0.out
  (try simp only [Nat.add_zero] at qlt)
  go_wp2_with fail
  go_region_held3 (fun w' => w'.cell? ⟨w.heap.size, 0, none⟩ = some (.int .i64 n0_0) ∧ w'.cell? ⟨w.heap.size, 1, none⟩ = some (.int .i64 n0_1) ∧ w'.cell? ⟨w.heap.size, 2, none⟩ = some (.int .i64 n0_2) ∧ w'.cell? ⟨w.heap.size, 3, none⟩ = some (.int .i64 n0_3) ∧ w'.cell? ⟨w.heap.size, 4, none⟩ = some (.slice ay0 l0 cy0) ∧ w'.cell? ⟨w.heap.size, 5, none⟩ = some (.slice az0 m0 cz0) ∧ w'.cell? ⟨w4.heap.size, 0, none⟩ = some (.int .i64 n0_0) ∧ w'.cell? ⟨w4.heap.size, 1, none⟩ = some (.int .i64 n0_1) ∧ w'.cell? ⟨w4.heap.size, 2, none⟩ = some (.int .i64 n0_2) ∧ w'.cell? ⟨w4.heap.size, 3, none⟩ = some (.int .i64 n0_3) ∧ w'.cell? ⟨w4.heap.size, 4, none⟩ = some (.slice aox0 l0 cx0) ∧ w'.cell? ⟨w4.heap.size, 5, none⟩ = some (.slice box0 m0 dx0)) (first | exact ⟨p0, p1, p2, p3, p4, p5, q0, q1, q2, q3, q4, q5⟩ | exact ⟨e0, e1, e2, e3, e4, e5, e6, e7, e8, e9, e10, e11⟩ | exact ⟨i0, i1, i2, i3, i4, i5, i6, i7, i8, i9, i10, i11⟩)
    (first | (go_at_call 11; refine (eqRaft n0_0 n0_1 n0_2 n0_3 (F_x0.out.later HB6.out).rdI (F_x0.out.later HB6.out).rdJ HO6.out.rdI HO6.out.rdJ).mono ?_; rintro e w8 ⟨rfl, hb7⟩; have i0 := cell_later hb7 e0; have i1 := cell_later hb7 e1; have i2 := cell_later hb7 e2; have i3 := cell_later hb7 e3; have i4 := cell_later hb7 e4; have i5 := cell_later hb7 e5; have i6 := cell_later hb7 e6; have i7 := cell_later hb7 e7; have i8 := cell_later hb7 e8; have i9 := cell_later hb7 e9; have i10 := cell_later hb7 e10; have i11 := cell_later hb7 e11; have HB7 := hide (below_on HB6.out hb7); clear hb7) | (go_at_call 8; refine (toRaft n0_0 n0_1 n0_2 n0_3 (HY0.out.later (below_on BB.out (below_drewN _ 1))) (HZZ0.out.later (below_on BB.out (below_drewN _ 1))) (by rw [HL0.out]; exact hxl0) HQ0.out.1 HQ0.out.2.1).mono ?_; rintro e w7 ⟨ye0, ze0, rfl, hb, ho⟩; have e0 := cell_later hb p0; have e1 := cell_later hb p1; have e2 := cell_later hb p2; have e3 := cell_later hb p3; have e4 := cell_later hb p4; have e5 := cell_later hb p5; have e6 := cell_later hb q0; have e7 := cell_later hb q1; have e8 := cell_later hb q2; have e9 := cell_later hb q3; have e10 := cell_later hb q4; have e11 := cell_later hb q5; have HO6 := hide (ho); have HB6 := hide (below_on (below_drewN w6 1) hb); clear hb ho))
  have hb := HB7.out
  clear plt p0 p1 p2 p3 p4 p5
  clear qlt q0 q1 q2 q3 q4 q5
  have G_b0 := hide (F_b0.out.later hb)
  have G_W := hide (F_W.out.later hb)
  have G_x0 := hide (F_x0.out.later hb)
  have G_vW := hide (F_vW.out.later hb)
  have G_G := hide (F_G.out.later hb)
  have G_v0 := hide (F_v0.out.later hb)
  have G_vG := hide (F_vG.out.later hb)
  have BC := hide (below_on BB.out hb)
  clear F_b0
  have F_b0 := G_b0
  clear G_b0
  clear F_W
  have F_W := G_W
  clear G_W
  clear F_x0
  have F_x0 := G_x0
  clear G_x0
  clear F_vW
  have F_vW := G_vW
  clear G_vW
  clear F_G
  have F_G := G_G
  clear G_G
  clear F_v0
  have F_v0 := G_v0
  clear G_v0
  clear F_vG
  have F_vG := G_vG
  clear G_vG
  clear BB
  have BB := BC
  clear BC
  have z_w8 : w6.heap.size ≤ w8.heap.size := hb.size
  clear hb HB6 HB7 HO6 e0 i0 e1 i1 e2 i2 e3 i3 e4 i4 e5 i5 e6 i6 e7 i7 e8 i8 e9 i9 e10 i10 e11 i11
  have hK0 : (0 : Int) ≤ 1 := by omega
  have plt := F_v0.out.lt
  obtain ⟨p0, p1, p2, p3, p4, p5⟩ := F_v0.out
  (try simp only [Nat.add_zero] at plt)
  go_wp2_with fail
  refine (markRaft n0_0 n0_1 n0_2 n0_3 F_x0.out (by omega) (by rw [HL0.out, HT0.out]; omega)).mono ?_
  rintro e w9 ⟨he, _, hw⟩
  obtain ⟨K1, hK⟩ : ∃ K : Int, 1 + ((xs0.length : Int) + (totJ ps0 ps0.length : Int)) = K := ⟨_, rfl⟩
  rw [hK] at he
  subst he
  rw [HL0.out, HT0.out] at hK
  have hK1 : 0 ≤ K1 := by omega
  have hKb1 : K1 ≤ 8388608 := by omega
  clear hK
  clear plt p0 p1 p2 p3 p4 p5
  clear F_v0
  clear F_x0
  have z_w9 : w8.heap.size ≤ w9.heap.size := hw.size
  have G_b0 := hide (F_b0.out.wr hw (by have := F_b0.out.lt; simp <;> omega))
  have G_W := hide (F_W.out.wr hw (by intro b; simp <;> omega))
  have G_vW := hide (F_vW.out.wr hw (by have := F_vW.out.lt; simp <;> omega))
  have G_G := hide (F_G.out.wr hw (by intro b; simp <;> omega))
  have G_vG := hide (F_vG.out.wr hw (by have := F_vG.out.lt; simp <;> omega))
  have BC := hide (BB.out.trans (hw.below (by omega) (by intro b hb; (try simp at hb); omega)))
  clear F_b0
  have F_b0 := G_b0
  clear G_b0
  clear F_W
  have F_W := G_W
  clear G_W
  clear F_vW
  have F_vW := G_vW
  clear G_vW
  clear F_G
  have F_G := G_G
  clear G_G
  clear F_vG
  have F_vG := G_vG
  clear G_vG
  clear BB
  have BB := BC
  clear BC
  clear hw
  have plt := F_vG.out.lt
  obtain ⟨p0, p1⟩ := F_vG.out
  (try simp only [Nat.add_zero] at plt)
  have qlt := F_vW.out.lt
  obtain ⟨q0, q1⟩ := F_vW.out
  (try simp only [Nat.add_zero] at qlt)
  go_wp2_with fail
  refine (eqPutsResult F_G.out.rd F_W.out.rd).mono ?_
  rintro e w10 ⟨rfl, hb⟩
  have G_b0 := hide (F_b0.out.later hb)
  have G_W := hide (F_W.out.later hb)
  have G_vW := hide (F_vW.out.later hb)
  have G_G := hide (F_G.out.later hb)
  have G_vG := hide (F_vG.out.later hb)
  have BC := hide (below_on BB.out hb)
  have z_w10 : w9.heap.size ≤ w10.heap.size := by have := hb.size; simpa using this
  clear plt p0 p1
  clear qlt q0 q1
  clear F_b0
  have F_b0 := G_b0
  clear G_b0
  clear F_W
  have F_W := G_W
  clear G_W
  clear F_vW
  have F_vW := G_vW
  clear G_vW
  clear F_G
  have F_G := G_G
  clear G_G
  clear F_vG
  have F_vG := G_vG
  clear G_vG
  clear BB
  have BB := BC
  clear BC
  clear hb
  have plt := F_vG.out.lt
  obtain ⟨p0, p1⟩ := F_vG.out
  (try simp only [Nat.add_zero] at plt)
  go_wp2_with fail
  refine (markPutsResult F_G.out (by omega) HRB.out).mono ?_
  rintro e w11 ⟨he, hr, hw⟩
  rw [HMe.out] at he
  subst he
  have N_R := hide hr
  clear plt p0 p1
  clear F_G
  have z_w11 : w10.heap.size ≤ w11.heap.size := hw.size
  clear hr
  have G_b0 := hide (F_b0.out.wr hw (by have := F_b0.out.lt; simp <;> omega))
  have G_W := hide (F_W.out.wr hw (by intro b; simp <;> omega))
  have G_vW := hide (F_vW.out.wr hw (by have := F_vW.out.lt; simp <;> omega))
  have G_vG := hide (F_vG.out.wr hw (by have := F_vG.out.lt; simp <;> omega))
  have BC := hide (BB.out.trans (hw.below (by omega) (by intro b hb; (try simp at hb); omega)))
  clear F_b0
  have F_b0 := G_b0
  clear G_b0
  clear F_W
  have F_W := G_W
  clear G_W
  clear F_vW
  have F_vW := G_vW
  clear G_vW
  clear F_vG
  have F_vG := G_vG
  clear G_vG
  clear BB
  have BB := BC
  clear BC
  clear hw
  have F_R := N_R
  clear N_R
  have plt := F_vG.out.lt
  obtain ⟨p0, p1⟩ := F_vG.out
  (try simp only [Nat.add_zero] at plt)
  go_wp2_with fail
  refine (heldPutsResult F_R.out (by omega) HRB.out).mono ?_
  rintro e w12 ⟨he, hb⟩
  rw [HMe.out] at he
  subst he
  have G_b0 := hide (F_b0.out.later hb)
  have G_W := hide (F_W.out.later hb)
  have G_vW := hide (F_vW.out.later hb)
  have G_vG := hide (F_vG.out.later hb)
  have G_R := hide (F_R.out.later hb)
  have BC := hide (below_on BB.out hb)
  have z_w12 : w11.heap.size ≤ w12.heap.size := by have := hb.size; simpa using this
  clear plt p0 p1
  clear F_b0
  have F_b0 := G_b0
  clear G_b0
  clear F_W
  have F_W := G_W
  clear G_W
  clear F_vW
  have F_vW := G_vW
  clear G_vW
  clear F_vG
  have F_vG := G_vG
  clear G_vG
  clear F_R
  have F_R := G_R
  clear G_R
  clear BB
  have BB := BC
  clear BC
  clear hb
  have p0_lt := F_b0.out.lt
  obtain ⟨p0_0, p0_1, p0_2, p0_3, p0_4, p0_5⟩ := F_b0.out
  (try simp only [Nat.add_zero] at p0_lt)
  go_wp2_with fail
  refine (toRaft n0_0 n0_1 n0_2 n0_3 (HY0.out.later BB.out) (HZZ0.out.later BB.out) (by rw [HL0.out]; exact hxl0) HQ0.out.1 HQ0.out.2.1).mono ?_
  rintro e w13 ⟨yH0, zH0, rfl, hb, ho⟩
  obtain ⟨aoH0, cH0, boH0, dH0, hyH0, hzH0⟩ := ho.shape
  rw [HL0.out] at hyH0
  rw [HM0.out] at hzH0
  subst hyH0
  subst hzH0
  have G_b0 := hide (F_b0.out.later hb)
  have G_W := hide (F_W.out.later hb)
  have G_vW := hide (F_vW.out.later hb)
  have G_vG := hide (F_vG.out.later hb)
  have G_R := hide (F_R.out.later hb)
  have BC := hide (below_on BB.out hb)
  have z_w13 : w12.heap.size ≤ w13.heap.size := by have := hb.size; simpa using this
  have N_t0 := hide (ho)
  clear p0_lt p0_0 p0_1 p0_2 p0_3 p0_4 p0_5
  clear F_b0
  have F_b0 := G_b0
  clear G_b0
  clear F_W
  have F_W := G_W
  clear G_W
  clear F_vW
  have F_vW := G_vW
  clear G_vW
  clear F_vG
  have F_vG := G_vG
  clear G_vG
  clear F_R
  have F_R := G_R
  clear G_R
  clear BB
  have BB := BC
  clear BC
  have F_t0 := N_t0
  clear N_t0
  clear hb
  clear ho
  go_wp2_with fail
  refine (HI.out _ _ _ _ _ F_t0.out.rdI F_t0.out.rdJ).mono ?_
  rintro e w14 ⟨zH, rfl, hb, ho⟩
  obtain ⟨aoH, cH, hzH⟩ := ho.shape
  rw [HLr.out] at hzH
  subst hzH
  have G_b0 := hide (F_b0.out.later hb)
  have G_W := hide (F_W.out.later hb)
  have G_vW := hide (F_vW.out.later hb)
  have G_vG := hide (F_vG.out.later hb)
  have G_R := hide (F_R.out.later hb)
  have G_t0 := hide (F_t0.out.later hb)
  have BC := hide (below_on BB.out hb)
  have z_w14 : w13.heap.size ≤ w14.heap.size := by have := hb.size; simpa using this
  have N_H := hide (ho.iv)
  clear F_b0
  have F_b0 := G_b0
  clear G_b0
  clear F_W
  have F_W := G_W
  clear G_W
  clear F_vW
  have F_vW := G_vW
  clear G_vW
  clear F_vG
  have F_vG := G_vG
  clear G_vG
  clear F_R
  have F_R := G_R
  clear G_R
  clear F_t0
  have F_t0 := G_t0
  clear G_t0
  clear BB
  have BB := BC
  clear BC
  have F_H := N_H
  clear N_H
  clear hb
  clear ho
  clear F_t0
  have qlt := F_vW.out.lt
  obtain ⟨q0, q1⟩ := F_vW.out
  (try simp only [Nat.add_zero] at qlt)
  go_wp2_with fail
  refine (eqPutsResult (F_H.out.later (below_alloc _ (.cells #[.int .i64 code, .slice aoH lr cH] 29))).rd (F_W.out.later (below_alloc _ (.cells #[.int .i64 code, .slice aoH lr cH] 29))).rd).mono ?_
  rintro e w15 ⟨rfl, hb⟩
  have G_b0 := hide ((F_b0.out.later (below_alloc _ (.cells #[.int .i64 code, .slice aoH lr cH] 29))).later hb)
  have G_W := hide ((F_W.out.later (below_alloc _ (.cells #[.int .i64 code, .slice aoH lr cH] 29))).later hb)
  have G_vW := hide ((F_vW.out.later (below_alloc _ (.cells #[.int .i64 code, .slice aoH lr cH] 29))).later hb)
  have G_vG := hide ((F_vG.out.later (below_alloc _ (.cells #[.int .i64 code, .slice aoH lr cH] 29))).later hb)
  have G_R := hide ((F_R.out.later (below_alloc _ (.cells #[.int .i64 code, .slice aoH lr cH] 29))).later hb)
  have G_H := hide ((F_H.out.later (below_alloc _ (.cells #[.int .i64 code, .slice aoH lr cH] 29))).later hb)
  have BC := hide (below_on (below_on BB.out (below_alloc _ (.cells #[.int .i64 code, .slice aoH lr cH] 29))) hb)
  have z_w15 : w14.heap.size + 1 ≤ w15.heap.size := by have := hb.size; simpa using this
  have N_vH := hide ((Var2_new w14 (.int .i64 code) (.slice aoH lr cH) 29).later hb)
  clear qlt q0 q1
  clear F_b0
  have F_b0 := G_b0
  clear G_b0
  clear F_W
  have F_W := G_W
  clear G_W
  clear F_vW
  have F_vW := G_vW
  clear G_vW
  clear F_vG
  have F_vG := G_vG
  clear G_vG
  clear F_R
  have F_R := G_R
  clear G_R
  clear F_H
  have F_H := G_H
  clear G_H
  clear BB
  have BB := BC
  clear BC
  have F_vH := N_vH
  clear N_vH
  clear hb
  clear F_H
  clear F_W
  clear F_vH
  clear F_vW
  have plt := F_vG.out.lt
  obtain ⟨p0, p1⟩ := F_vG.out
  (try simp only [Nat.add_zero] at plt)
  go_wp2_with fail
  refine (heldPutsResult F_R.out (by omega) HRB.out).mono ?_
  rintro e w16 ⟨he, hb⟩
  rw [HMe.out] at he
  subst he
  have G_b0 := hide (F_b0.out.later hb)
  have G_vG := hide (F_vG.out.later hb)
  have G_R := hide (F_R.out.later hb)
  have BC := hide (below_on BB.out hb)
  have z_w16 : w15.heap.size ≤ w16.heap.size := by have := hb.size; simpa using this
  clear plt p0 p1
  clear F_b0
  have F_b0 := G_b0
  clear G_b0
  clear F_vG
  have F_vG := G_vG
  clear G_vG
  clear F_R
  have F_R := G_R
  clear G_R
  clear BB
  have BB := BC
  clear BC
  clear hb
  go_wp2
  go_ret
  exact ⟨rfl, BB.out⟩
end Go.Proofs.YtlmaopljihbdkaaGreat
