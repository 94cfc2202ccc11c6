/- LawReplayHistory in one text: what each says stands at its head below. -/
import Derived.Test.YtcmdgnemkjfckaaGreatDoorG08
import Derived.Test.YtcmdgnemkjfckaaGreatDoorG22
import Derived.Test.YtcmdgnemkjfckaaGreatDoorG28
import Derived.Test.YtcmdgnemkjfckaaGreatDoorG07
import Derived.Test.YtcmdgnemkjfckaaGreatDoorG05
import Derived.Deep.CutRange
/- The law 'FnExactReplayHistory' walked, out of what the program's function and the model's leave. Made by program (lawgen.py). -/
namespace Go.Proofs.YtcmdgnemkjfckaaGreatDoor
open Go.RowKit

set_option linter.unusedSimpArgs false in
set_option maxHeartbeats 8000000 in
set_option maxRecDepth 4000 in
theorem lawReplayHistory_small {S0 T0 S2 : Nat → Prop} {w : World} (n0_0 n0_1 n0_2 n0_3 : Int) {y0 z0 : Value} {xs0 : List Int} {ps0 : List Oj} {y1 : Value} {xs1 : List Tq} {y2 : Value} {xs2 : List Dn} (hy0 : RdI S0 w y0 xs0) (hz0 : RdJ T0 w z0 ps0) (hy1 : RdThs w y1 xs1) (hy2 : RdDn S2 w y2 xs2) (code : Int) (rep vlu rq0 rq1 rq2 rq3 : Int) (rs : List Int) (rp : List Oj) (hres : (rs.length : Int) + (totJ rp rp.length : Int) ≤ 1048576)
    (hsz : ((xs0.length : Int) + szU ps0) + szTw xs1 + (xs2.length : Int) ≤ 1048576)
    (hspec : ∀ (S0 T0 S2 : Nat → Prop) (w : World) (y0 z0 y1 y2 : Value), RdI S0 w y0 xs0 → RdJ T0 w z0 ps0 → RdThsC w y1 xs1 → RdDn S2 w y2 xs2 → Calls Tryz.prog 7 #[.agg #[.int .i64 n0_0, .int .i64 n0_1, .int .i64 n0_2, .int .i64 n0_3, y0, z0], y1, y2] w (EndsO8 code rep vlu rq0 rq1 rq2 rq3 rs rp w))
    (himpl : ∀ (S0 T0 S2 : Nat → Prop) (w9 : World) (y0 z0 y1 y2 : Value), Below w.heap.size w w9 → RdI S0 w9 y0 xs0 → RdJ T0 w9 z0 ps0 → RdThsC w9 y1 xs1 → RdDn S2 w9 y2 xs2 → Calls Tryz.prog 11 #[.agg #[.int .i64 n0_0, .int .i64 n0_1, .int .i64 n0_2, .int .i64 n0_3, y0, z0], y1, y2] w9 (EndsO8 code rep vlu rq0 rq1 rq2 rq3 rs rp w9)) :
    Calls Tryz.prog 3 #[.agg #[.int .i64 n0_0, .int .i64 n0_1, .int .i64 n0_2, .int .i64 n0_3, y0, z0], y1, y2] w fun e w' => e = .returned (.bool true) ∧ Below w.heap.size w w' := by
  have HS := hide hspec
  have HI := hide himpl
  clear hspec himpl
  have hn1 := szTw_nonneg xs1
  obtain ⟨ay0, cy0, rfl⟩ := hy0.shape
  obtain ⟨az0, cz0, rfl, _⟩ := hz0.shape
  have hsn0 := szU_nonneg ps0
  have HQ0 := hide (smallU (qs := ps0) (by omega))
  have hxl0 : xs0.length ≤ 1048576 := by omega
  obtain ⟨s0, hs0⟩ : ∃ s, (xs0.length : Int) + szU ps0 = s := ⟨_, rfl⟩
  have hs00 : 0 ≤ s0 := by omega
  rw [hs0] at hsz
  have HSz0 := hide hs0
  clear hs0 hsn0
  obtain ⟨l0, hll0⟩ : ∃ l, xs0.length = l := ⟨_, rfl⟩
  have HL0 := hide hll0
  rw [hll0] at hy0 hxl0 ⊢
  obtain ⟨m0, hmm0⟩ : ∃ l, ps0.length = l := ⟨_, rfl⟩
  have HM0 := hide hmm0
  rw [hmm0] at hz0 ⊢
  have HY0 := hide hy0
  have HZZ0 := hide hz0
  clear hy0 hz0 hll0 hmm0
  obtain ⟨T_0, hT0⟩ : ∃ T : Nat, totJ ps0 ps0.length = T := ⟨_, rfl⟩
  have hTb0 : (T_0 : Int) ≤ 4194304 := by have := HQ0.out.2.2; rw [hT0] at this; exact this
  have HT0 := hide hT0
  clear hT0
  clear hn1
  obtain ⟨ay1, cy1, rfl, _⟩ := hy1.shape
  have hQ1 : szTw xs1 ≤ 1048576 := by omega
  have hTl1 := mkTq_szTw hQ1
  have HQ1 := hide hQ1
  obtain ⟨l1, hll1⟩ : ∃ l, xs1.length = l := ⟨_, rfl⟩
  have HL1 := hide hll1
  rw [hll1] at hy1 ⊢
  have HY1 := hide hy1
  clear hy1 hQ1
  obtain ⟨s1, hs1⟩ : ∃ s, szTw xs1 = s := ⟨_, rfl⟩
  have hsn1 := szTw_nonneg xs1
  rw [hs1] at hsz hsn1
  have HSz1 := hide hs1
  clear hs1 hll1
  obtain ⟨T1, hT1⟩ : ∃ T : Int, mkTq xs1 xs1.length = T := ⟨_, rfl⟩
  rw [hT1] at hTl1
  have HT1 := hide hT1
  clear hT1
  obtain ⟨ay2, cy2, rfl⟩ := hy2.shape
  obtain ⟨l2, hll2⟩ : ∃ l, xs2.length = l := ⟨_, rfl⟩
  have HL2 := hide hll2
  rw [hll2] at hsz hy2 ⊢
  have HY2 := hide hy2
  clear hy2 hll2
  have hl2 : l2 ≤ 1048576 := by omega
  have HZ0 := hide (szv_yes (left := (1048576 : Int)) (s := s0) (by omega))
  have hp0 : ¬ ((1048576 : Int) - s0 < 0) := by omega
  have HZ1 := hide (szv_yes (left := (1048576 : Int) - s0) (s := s1) (by omega))
  have hp1 : ¬ ((1048576 : Int) - s0 - s1 < 0) := by omega
  have HZ2 := hide (szv_yes (left := (1048576 : Int) - s0 - s1) (s := (l2 : Int)) (by omega))
  have hp2 : ¬ ((1048576 : Int) - s0 - s1 - (l2 : Int) < 0) := by omega
  obtain ⟨lr, hlr⟩ : ∃ l, rs.length = l := ⟨_, rfl⟩
  have HLr := hide hlr
  clear hlr
  obtain ⟨mr, hmr⟩ : ∃ l, rp.length = l := ⟨_, rfl⟩
  have HMr := hide hmr
  clear hmr
  have HRB := hide (show (1 : Int) + ((rs.length : Int) + (totJ rp rp.length : Int)) ≤ 9223372036854775807 by omega)
  have hM : 0 ≤ (1 : Int) + ((rs.length : Int) + (totJ rp rp.length : Int)) := by omega
  obtain ⟨M, hMe⟩ : ∃ M : Int, (1 : Int) + ((rs.length : Int) + (totJ rp rp.length : Int)) = M := ⟨_, rfl⟩
  rw [hMe] at hM
  have HMe := hide hMe
  clear hMe hres
  go_enter Tryz.func3, Tryz.ntmps3
  have BB := hide (Below.refl w.heap.size w)
  have F_b0 : Hid (Var6 (w.alloc (.cells #[.int .i64 n0_0, .int .i64 n0_1, .int .i64 n0_2, .int .i64 n0_3, .slice ay0 l0 cy0, .slice az0 m0 cz0] 25)) (w.heap.size) (.int .i64 n0_0) (.int .i64 n0_1) (.int .i64 n0_2) (.int .i64 n0_3) (.slice ay0 l0 cy0) (.slice az0 m0 cz0)) := by have h := Var6_new w (.int .i64 n0_0) (.int .i64 n0_1) (.int .i64 n0_2) (.int .i64 n0_3) (.slice ay0 l0 cy0) (.slice az0 m0 cz0) 25; (try simp at h); unfold Hid; exact h
  clear BB
  have BB := hide (below_on (Below.refl w.heap.size w) (below_alloc _ (.cells #[.int .i64 n0_0, .int .i64 n0_1, .int .i64 n0_2, .int .i64 n0_3, .slice ay0 l0 cy0, .slice az0 m0 cz0] 25)))
  have p0_lt := F_b0.out.lt
  obtain ⟨p0_0, p0_1, p0_2, p0_3, p0_4, p0_5⟩ := F_b0.out
  (try simp only [Nat.add_zero] at p0_lt)
  go_wp2_with fail
  refine (szRaft n0_0 n0_1 n0_2 n0_3 (HY0.out.later BB.out) (HZZ0.out.later BB.out) (by omega) (by omega)).mono ?_
  rintro e w1 ⟨he, hb⟩
  rw [HSz0.out, HZ0.out] at he
  subst he
  have G_b0 := hide (F_b0.out.later hb)
  have BC := hide (below_on BB.out hb)
  have z_w1 : w.heap.size + 1 ≤ w1.heap.size := by have := hb.size; simpa using this
  clear p0_lt p0_0 p0_1 p0_2 p0_3 p0_4 p0_5
  clear F_b0
  have F_b0 := G_b0
  clear G_b0
  clear BB
  have BB := BC
  clear BC
  clear hb
  have p0_lt := F_b0.out.lt
  obtain ⟨p0_0, p0_1, p0_2, p0_3, p0_4, p0_5⟩ := F_b0.out
  (try simp only [Nat.add_zero] at p0_lt)
  go_wp2_with fail
  refine (szThs (HY1.out.later BB.out) (by omega) (by omega)).mono ?_
  rintro e w2 ⟨he, hb⟩
  rw [HSz1.out, HZ1.out] at he
  subst he
  have G_b0 := hide (F_b0.out.later hb)
  have BC := hide (below_on BB.out hb)
  have z_w2 : w1.heap.size ≤ w2.heap.size := by have := hb.size; simpa using this
  clear p0_lt p0_0 p0_1 p0_2 p0_3 p0_4 p0_5
  clear F_b0
  have F_b0 := G_b0
  clear G_b0
  clear BB
  have BB := BC
  clear BC
  clear hb
  have p0_lt := F_b0.out.lt
  obtain ⟨p0_0, p0_1, p0_2, p0_3, p0_4, p0_5⟩ := F_b0.out
  (try simp only [Nat.add_zero] at p0_lt)
  go_wp2_with fail
  refine (szDn (HY2.out.later BB.out) (by omega) (by omega)).mono ?_
  rintro e w3 ⟨he, hb⟩
  rw [HL2.out, HZ2.out] at he
  subst he
  have G_b0 := hide (F_b0.out.later hb)
  have BC := hide (below_on BB.out hb)
  have z_w3 : w2.heap.size ≤ w3.heap.size := by have := hb.size; simpa using this
  clear p0_lt p0_0 p0_1 p0_2 p0_3 p0_4 p0_5
  clear F_b0
  have F_b0 := G_b0
  clear G_b0
  clear BB
  have BB := BC
  clear BC
  clear hb
  have p0_lt := F_b0.out.lt
  obtain ⟨p0_0, p0_1, p0_2, p0_3, p0_4, p0_5⟩ := F_b0.out
  (try simp only [Nat.add_zero] at p0_lt)
  go_wp2_with fail
  refine (toRaft n0_0 n0_1 n0_2 n0_3 (HY0.out.later BB.out) (HZZ0.out.later BB.out) (by rw [HL0.out]; exact hxl0) HQ0.out.1 HQ0.out.2.1).mono ?_
  rintro e w4 ⟨yW0, zW0, rfl, hb, ho⟩
  obtain ⟨aoW0, cW0, boW0, dW0, hyW0, hzW0⟩ := ho.shape
  rw [HL0.out] at hyW0
  rw [HM0.out] at hzW0
  subst hyW0
  subst hzW0
  have G_b0 := hide (F_b0.out.later hb)
  have BC := hide (below_on BB.out hb)
  have z_w4 : w3.heap.size ≤ w4.heap.size := by have := hb.size; simpa using this
  have N_t0 := hide (ho)
  clear p0_lt p0_0 p0_1 p0_2 p0_3 p0_4 p0_5
  clear F_b0
  have F_b0 := G_b0
  clear G_b0
  clear BB
  have BB := BC
  clear BC
  have F_t0 := N_t0
  clear N_t0
  clear hb
  clear ho
  have p0_lt := F_b0.out.lt
  obtain ⟨p0_0, p0_1, p0_2, p0_3, p0_4, p0_5⟩ := F_b0.out
  (try simp only [Nat.add_zero] at p0_lt)
  go_wp2_with fail
  refine (toThs (HY1.out.later BB.out) HQ1.out).mono ?_
  rintro e w5 ⟨zW1, rfl, hb, ho⟩
  obtain ⟨aoW1, cW1, hzW1⟩ := ho.shape
  rw [HL1.out] at hzW1
  subst hzW1
  have G_b0 := hide (F_b0.out.later hb)
  have G_t0 := hide (F_t0.out.later hb)
  have BC := hide (below_on BB.out hb)
  have z_w5 : w4.heap.size ≤ w5.heap.size := by have := hb.size; simpa using this
  have N_t1 := hide (ho)
  clear p0_lt p0_0 p0_1 p0_2 p0_3 p0_4 p0_5
  clear F_b0
  have F_b0 := G_b0
  clear G_b0
  clear F_t0
  have F_t0 := G_t0
  clear G_t0
  clear BB
  have BB := BC
  clear BC
  have F_t1 := N_t1
  clear N_t1
  clear hb
  clear ho
  have p0_lt := F_b0.out.lt
  obtain ⟨p0_0, p0_1, p0_2, p0_3, p0_4, p0_5⟩ := F_b0.out
  (try simp only [Nat.add_zero] at p0_lt)
  go_wp2_with fail
  refine (toDn (HY2.out.later BB.out) (by rw [HL2.out]; exact hl2)).mono ?_
  rintro e w6 ⟨zW2, rfl, hb, ho⟩
  obtain ⟨aoW2, cW2, hzW2⟩ := ho.shape
  rw [HL2.out] at hzW2
  subst hzW2
  have G_b0 := hide (F_b0.out.later hb)
  have G_t0 := hide (F_t0.out.later hb)
  have G_t1 := hide (F_t1.out.later hb)
  have BC := hide (below_on BB.out hb)
  have z_w6 : w5.heap.size ≤ w6.heap.size := by have := hb.size; simpa using this
  have N_t2 := hide (ho.iv)
  clear p0_lt p0_0 p0_1 p0_2 p0_3 p0_4 p0_5
  clear F_b0
  have F_b0 := G_b0
  clear G_b0
  clear F_t0
  have F_t0 := G_t0
  clear G_t0
  clear F_t1
  have F_t1 := G_t1
  clear G_t1
  clear BB
  have BB := BC
  clear BC
  have F_t2 := N_t2
  clear N_t2
  clear hb
  clear ho
  go_wp2_with fail
  refine (HS.out _ _ _ _ _ _ _ _ F_t0.out.rdI F_t0.out.rdJ F_t1.out.rdC F_t2.out.rd).mono ?_
  rintro e w7 ⟨yW, zW, rfl, hb, ho⟩
  obtain ⟨aoW, cW, boW, dW, hyW, hzW⟩ := ho.shape
  rw [HLr.out] at hyW
  rw [HMr.out] at hzW
  subst hyW
  subst hzW
  have G_b0 := hide (F_b0.out.later hb)
  have G_t0 := hide (F_t0.out.later hb)
  have G_t1 := hide (F_t1.out.later hb)
  have G_t2 := hide (F_t2.out.later hb)
  have BC := hide (below_on BB.out hb)
  have z_w7 : w6.heap.size ≤ w7.heap.size := by have := hb.size; simpa using this
  have N_W := hide (ho)
  clear F_b0
  have F_b0 := G_b0
  clear G_b0
  clear F_t0
  have F_t0 := G_t0
  clear G_t0
  clear F_t1
  have F_t1 := G_t1
  clear G_t1
  clear F_t2
  have F_t2 := G_t2
  clear G_t2
  clear BB
  have BB := BC
  clear BC
  have F_W := N_W
  clear N_W
  clear hb
  clear ho
  clear F_t0
  clear F_t1
  clear F_t2
  have p0_lt := F_b0.out.lt
  obtain ⟨p0_0, p0_1, p0_2, p0_3, p0_4, p0_5⟩ := F_b0.out
  (try simp only [Nat.add_zero] at p0_lt)
  go_wp2_with fail
  refine (toRaft n0_0 n0_1 n0_2 n0_3 (HY0.out.later (below_on BB.out (below_alloc _ (.cells #[.int .i64 code, .int .i64 rep, .int .i64 vlu, .int .i64 rq0, .int .i64 rq1, .int .i64 rq2, .int .i64 rq3, .slice aoW lr cW, .slice boW mr dW] 35)))) (HZZ0.out.later (below_on BB.out (below_alloc _ (.cells #[.int .i64 code, .int .i64 rep, .int .i64 vlu, .int .i64 rq0, .int .i64 rq1, .int .i64 rq2, .int .i64 rq3, .slice aoW lr cW, .slice boW mr dW] 35)))) (by rw [HL0.out]; exact hxl0) HQ0.out.1 HQ0.out.2.1).mono ?_
  rintro e w8 ⟨yx0, zx0, rfl, hb, ho⟩
  obtain ⟨aox0, cx0, box0, dx0, hyx0, hzx0⟩ := ho.shape
  rw [HL0.out] at hyx0
  rw [HM0.out] at hzx0
  subst hyx0
  subst hzx0
  have G_b0 := hide ((F_b0.out.later (below_alloc _ (.cells #[.int .i64 code, .int .i64 rep, .int .i64 vlu, .int .i64 rq0, .int .i64 rq1, .int .i64 rq2, .int .i64 rq3, .slice aoW lr cW, .slice boW mr dW] 35))).later hb)
  have G_W := hide ((F_W.out.later (below_alloc _ (.cells #[.int .i64 code, .int .i64 rep, .int .i64 vlu, .int .i64 rq0, .int .i64 rq1, .int .i64 rq2, .int .i64 rq3, .slice aoW lr cW, .slice boW mr dW] 35))).later hb)
  have BC := hide (below_on (below_on BB.out (below_alloc _ (.cells #[.int .i64 code, .int .i64 rep, .int .i64 vlu, .int .i64 rq0, .int .i64 rq1, .int .i64 rq2, .int .i64 rq3, .slice aoW lr cW, .slice boW mr dW] 35))) hb)
  have z_w8 : w7.heap.size + 1 ≤ w8.heap.size := by have := hb.size; simpa using this
  have N_x0 := hide (ho)
  have N_vW := hide ((Var9_new w7 (.int .i64 code) (.int .i64 rep) (.int .i64 vlu) (.int .i64 rq0) (.int .i64 rq1) (.int .i64 rq2) (.int .i64 rq3) (.slice aoW lr cW) (.slice boW mr dW) 35).later hb)
  clear p0_lt p0_0 p0_1 p0_2 p0_3 p0_4 p0_5
  clear F_b0
  have F_b0 := G_b0
  clear G_b0
  clear F_W
  have F_W := G_W
  clear G_W
  clear BB
  have BB := BC
  clear BC
  have F_x0 := N_x0
  clear N_x0
  have F_vW := N_vW
  clear N_vW
  clear hb
  clear ho
  have p0_lt := F_b0.out.lt
  obtain ⟨p0_0, p0_1, p0_2, p0_3, p0_4, p0_5⟩ := F_b0.out
  (try simp only [Nat.add_zero] at p0_lt)
  go_wp2_with fail
  refine (toThs (HY1.out.later (below_on BB.out (below_alloc _ (.cells #[.int .i64 n0_0, .int .i64 n0_1, .int .i64 n0_2, .int .i64 n0_3, .slice aox0 l0 cx0, .slice box0 m0 dx0] 33)))) HQ1.out).mono ?_
  rintro e w9 ⟨zx1, rfl, hb, ho⟩
  obtain ⟨aox1, cx1, hzx1⟩ := ho.shape
  rw [HL1.out] at hzx1
  subst hzx1
  have G_b0 := hide ((F_b0.out.later (below_alloc _ (.cells #[.int .i64 n0_0, .int .i64 n0_1, .int .i64 n0_2, .int .i64 n0_3, .slice aox0 l0 cx0, .slice box0 m0 dx0] 33))).later hb)
  have G_W := hide ((F_W.out.later (below_alloc _ (.cells #[.int .i64 n0_0, .int .i64 n0_1, .int .i64 n0_2, .int .i64 n0_3, .slice aox0 l0 cx0, .slice box0 m0 dx0] 33))).later hb)
  have G_x0 := hide ((F_x0.out.later (below_alloc _ (.cells #[.int .i64 n0_0, .int .i64 n0_1, .int .i64 n0_2, .int .i64 n0_3, .slice aox0 l0 cx0, .slice box0 m0 dx0] 33))).later hb)
  have G_vW := hide ((F_vW.out.later (below_alloc _ (.cells #[.int .i64 n0_0, .int .i64 n0_1, .int .i64 n0_2, .int .i64 n0_3, .slice aox0 l0 cx0, .slice box0 m0 dx0] 33))).later hb)
  have BC := hide (below_on (below_on BB.out (below_alloc _ (.cells #[.int .i64 n0_0, .int .i64 n0_1, .int .i64 n0_2, .int .i64 n0_3, .slice aox0 l0 cx0, .slice box0 m0 dx0] 33))) hb)
  have z_w9 : w8.heap.size + 1 ≤ w9.heap.size := by have := hb.size; simpa using this
  have N_x1 := hide (ho)
  have N_v0 := hide ((Var6_new w8 (.int .i64 n0_0) (.int .i64 n0_1) (.int .i64 n0_2) (.int .i64 n0_3) (.slice aox0 l0 cx0) (.slice box0 m0 dx0) 33).later hb)
  clear p0_lt p0_0 p0_1 p0_2 p0_3 p0_4 p0_5
  clear F_b0
  have F_b0 := G_b0
  clear G_b0
  clear F_W
  have F_W := G_W
  clear G_W
  clear F_x0
  have F_x0 := G_x0
  clear G_x0
  clear F_vW
  have F_vW := G_vW
  clear G_vW
  clear BB
  have BB := BC
  clear BC
  have F_x1 := N_x1
  clear N_x1
  have F_v0 := N_v0
  clear N_v0
  clear hb
  clear ho
  have p0_lt := F_b0.out.lt
  obtain ⟨p0_0, p0_1, p0_2, p0_3, p0_4, p0_5⟩ := F_b0.out
  (try simp only [Nat.add_zero] at p0_lt)
  go_wp2_with fail
  refine (toDn (HY2.out.later BB.out) (by rw [HL2.out]; exact hl2)).mono ?_
  rintro e w10 ⟨zx2, rfl, hb, ho⟩
  obtain ⟨aox2, cx2, hzx2⟩ := ho.shape
  rw [HL2.out] at hzx2
  subst hzx2
  have G_b0 := hide (F_b0.out.later hb)
  have G_W := hide (F_W.out.later hb)
  have G_x0 := hide (F_x0.out.later hb)
  have G_vW := hide (F_vW.out.later hb)
  have G_x1 := hide (F_x1.out.later hb)
  have G_v0 := hide (F_v0.out.later hb)
  have BC := hide (below_on BB.out hb)
  have z_w10 : w9.heap.size ≤ w10.heap.size := by have := hb.size; simpa using this
  have N_x2 := hide (ho.iv)
  clear p0_lt p0_0 p0_1 p0_2 p0_3 p0_4 p0_5
  clear F_b0
  have F_b0 := G_b0
  clear G_b0
  clear F_W
  have F_W := G_W
  clear G_W
  clear F_x0
  have F_x0 := G_x0
  clear G_x0
  clear F_vW
  have F_vW := G_vW
  clear G_vW
  clear F_x1
  have F_x1 := G_x1
  clear G_x1
  clear F_v0
  have F_v0 := G_v0
  clear G_v0
  clear BB
  have BB := BC
  clear BC
  have F_x2 := N_x2
  clear N_x2
  clear hb
  clear ho
  have q0_lt := F_v0.out.lt
  obtain ⟨q0_0, q0_1, q0_2, q0_3, q0_4, q0_5⟩ := F_v0.out
  (try simp only [Nat.add_zero] at q0_lt)
  go_wp2_with fail
  refine (HI.out _ _ _ _ _ _ _ _ BB.out F_x0.out.rdI F_x0.out.rdJ F_x1.out.rdC F_x2.out.rd).mono ?_
  rintro e w11 ⟨yG, zG, rfl, hb, ho⟩
  obtain ⟨aoG, cG, boG, dG, hyG, hzG⟩ := ho.shape
  rw [HLr.out] at hyG
  rw [HMr.out] at hzG
  subst hyG
  subst hzG
  have G_b0 := hide (F_b0.out.later hb)
  have G_W := hide (F_W.out.later hb)
  have G_x0 := hide (F_x0.out.later hb)
  have G_vW := hide (F_vW.out.later hb)
  have G_x1 := hide (F_x1.out.later hb)
  have G_v0 := hide (F_v0.out.later hb)
  have G_x2 := hide (F_x2.out.later hb)
  have BC := hide (below_on BB.out hb)
  have z_w11 : w10.heap.size ≤ w11.heap.size := by have := hb.size; simpa using this
  have N_G := hide (ho)
  clear q0_lt q0_0 q0_1 q0_2 q0_3 q0_4 q0_5
  clear F_b0
  have F_b0 := G_b0
  clear G_b0
  clear F_W
  have F_W := G_W
  clear G_W
  clear F_x0
  have F_x0 := G_x0
  clear G_x0
  clear F_vW
  have F_vW := G_vW
  clear G_vW
  clear F_x1
  have F_x1 := G_x1
  clear G_x1
  clear F_v0
  have F_v0 := G_v0
  clear G_v0
  clear F_x2
  have F_x2 := G_x2
  clear G_x2
  clear BB
  have BB := BC
  clear BC
  have F_G := N_G
  clear N_G
  clear hb
  clear ho
  have qlt := F_vW.out.lt
  obtain ⟨q0, q1, q2, q3, q4, q5, q6, q7, q8⟩ := F_vW.out
  (try simp only [Nat.add_zero] at qlt)
  go_wp2_with fail
  refine (eqOpResult (r := ⟨rq0, rq1, rq2, rq3, rs, rp⟩) (F_G.out.later (below_alloc _ (.cells #[.int .i64 code, .int .i64 rep, .int .i64 vlu, .int .i64 rq0, .int .i64 rq1, .int .i64 rq2, .int .i64 rq3, .slice aoG lr cG, .slice boG mr dG] 35))).rdI (F_G.out.later (below_alloc _ (.cells #[.int .i64 code, .int .i64 rep, .int .i64 vlu, .int .i64 rq0, .int .i64 rq1, .int .i64 rq2, .int .i64 rq3, .slice aoG lr cG, .slice boG mr dG] 35))).rdJ (F_W.out.later (below_alloc _ (.cells #[.int .i64 code, .int .i64 rep, .int .i64 vlu, .int .i64 rq0, .int .i64 rq1, .int .i64 rq2, .int .i64 rq3, .slice aoG lr cG, .slice boG mr dG] 35))).rdI (F_W.out.later (below_alloc _ (.cells #[.int .i64 code, .int .i64 rep, .int .i64 vlu, .int .i64 rq0, .int .i64 rq1, .int .i64 rq2, .int .i64 rq3, .slice aoG lr cG, .slice boG mr dG] 35))).rdJ).mono ?_
  rintro e w12 ⟨rfl, hb⟩
  have G_b0 := hide ((F_b0.out.later (below_alloc _ (.cells #[.int .i64 code, .int .i64 rep, .int .i64 vlu, .int .i64 rq0, .int .i64 rq1, .int .i64 rq2, .int .i64 rq3, .slice aoG lr cG, .slice boG mr dG] 35))).later hb)
  have G_W := hide ((F_W.out.later (below_alloc _ (.cells #[.int .i64 code, .int .i64 rep, .int .i64 vlu, .int .i64 rq0, .int .i64 rq1, .int .i64 rq2, .int .i64 rq3, .slice aoG lr cG, .slice boG mr dG] 35))).later hb)
  have G_x0 := hide ((F_x0.out.later (below_alloc _ (.cells #[.int .i64 code, .int .i64 rep, .int .i64 vlu, .int .i64 rq0, .int .i64 rq1, .int .i64 rq2, .int .i64 rq3, .slice aoG lr cG, .slice boG mr dG] 35))).later hb)
  have G_vW := hide ((F_vW.out.later (below_alloc _ (.cells #[.int .i64 code, .int .i64 rep, .int .i64 vlu, .int .i64 rq0, .int .i64 rq1, .int .i64 rq2, .int .i64 rq3, .slice aoG lr cG, .slice boG mr dG] 35))).later hb)
  have G_x1 := hide ((F_x1.out.later (below_alloc _ (.cells #[.int .i64 code, .int .i64 rep, .int .i64 vlu, .int .i64 rq0, .int .i64 rq1, .int .i64 rq2, .int .i64 rq3, .slice aoG lr cG, .slice boG mr dG] 35))).later hb)
  have G_v0 := hide ((F_v0.out.later (below_alloc _ (.cells #[.int .i64 code, .int .i64 rep, .int .i64 vlu, .int .i64 rq0, .int .i64 rq1, .int .i64 rq2, .int .i64 rq3, .slice aoG lr cG, .slice boG mr dG] 35))).later hb)
  have G_x2 := hide ((F_x2.out.later (below_alloc _ (.cells #[.int .i64 code, .int .i64 rep, .int .i64 vlu, .int .i64 rq0, .int .i64 rq1, .int .i64 rq2, .int .i64 rq3, .slice aoG lr cG, .slice boG mr dG] 35))).later hb)
  have G_G := hide ((F_G.out.later (below_alloc _ (.cells #[.int .i64 code, .int .i64 rep, .int .i64 vlu, .int .i64 rq0, .int .i64 rq1, .int .i64 rq2, .int .i64 rq3, .slice aoG lr cG, .slice boG mr dG] 35))).later hb)
  have BC := hide (below_on (below_on BB.out (below_alloc _ (.cells #[.int .i64 code, .int .i64 rep, .int .i64 vlu, .int .i64 rq0, .int .i64 rq1, .int .i64 rq2, .int .i64 rq3, .slice aoG lr cG, .slice boG mr dG] 35))) hb)
  have z_w12 : w11.heap.size + 1 ≤ w12.heap.size := by have := hb.size; simpa using this
  have N_vG := hide ((Var9_new w11 (.int .i64 code) (.int .i64 rep) (.int .i64 vlu) (.int .i64 rq0) (.int .i64 rq1) (.int .i64 rq2) (.int .i64 rq3) (.slice aoG lr cG) (.slice boG mr dG) 35).later hb)
  clear qlt q0 q1 q2 q3 q4 q5 q6 q7 q8
  clear F_b0
  have F_b0 := G_b0
  clear G_b0
  clear F_W
  have F_W := G_W
  clear G_W
  clear F_x0
  have F_x0 := G_x0
  clear G_x0
  clear F_vW
  have F_vW := G_vW
  clear G_vW
  clear F_x1
  have F_x1 := G_x1
  clear G_x1
  clear F_v0
  have F_v0 := G_v0
  clear G_v0
  clear F_x2
  have F_x2 := G_x2
  clear G_x2
  clear F_G
  have F_G := G_G
  clear G_G
  clear BB
  have BB := BC
  clear BC
  have F_vG := N_vG
  clear N_vG
  clear hb
  have plt := F_b0.out.lt
  obtain ⟨p0, p1, p2, p3, p4, p5⟩ := F_b0.out
  (try simp only [Nat.add_zero] at plt)
  have qlt := F_v0.out.lt
  obtain ⟨q0, q1, q2, q3, q4, q5⟩ := F_v0.out
  (try simp only [Nat.add_zero] at qlt)
  go_wp2_with fail
  go_region_held3 (fun w' => w'.cell? ⟨w.heap.size, 0, none⟩ = some (.int .i64 n0_0) ∧ w'.cell? ⟨w.heap.size, 1, none⟩ = some (.int .i64 n0_1) ∧ w'.cell? ⟨w.heap.size, 2, none⟩ = some (.int .i64 n0_2) ∧ w'.cell? ⟨w.heap.size, 3, none⟩ = some (.int .i64 n0_3) ∧ w'.cell? ⟨w.heap.size, 4, none⟩ = some (.slice ay0 l0 cy0) ∧ w'.cell? ⟨w.heap.size, 5, none⟩ = some (.slice az0 m0 cz0) ∧ w'.cell? ⟨w8.heap.size, 0, none⟩ = some (.int .i64 n0_0) ∧ w'.cell? ⟨w8.heap.size, 1, none⟩ = some (.int .i64 n0_1) ∧ w'.cell? ⟨w8.heap.size, 2, none⟩ = some (.int .i64 n0_2) ∧ w'.cell? ⟨w8.heap.size, 3, none⟩ = some (.int .i64 n0_3) ∧ w'.cell? ⟨w8.heap.size, 4, none⟩ = some (.slice aox0 l0 cx0) ∧ w'.cell? ⟨w8.heap.size, 5, none⟩ = some (.slice box0 m0 dx0)) (first | exact ⟨p0, p1, p2, p3, p4, p5, q0, q1, q2, q3, q4, q5⟩ | exact ⟨e0, e1, e2, e3, e4, e5, e6, e7, e8, e9, e10, e11⟩ | exact ⟨i0, i1, i2, i3, i4, i5, i6, i7, i8, i9, i10, i11⟩)
    (first | (go_at_call 13; refine (eqRaft n0_0 n0_1 n0_2 n0_3 (F_x0.out.later HB6.out).rdI (F_x0.out.later HB6.out).rdJ HO6.out.rdI HO6.out.rdJ).mono ?_; rintro e w14 ⟨rfl, hb7⟩; have i0 := cell_later hb7 e0; have i1 := cell_later hb7 e1; have i2 := cell_later hb7 e2; have i3 := cell_later hb7 e3; have i4 := cell_later hb7 e4; have i5 := cell_later hb7 e5; have i6 := cell_later hb7 e6; have i7 := cell_later hb7 e7; have i8 := cell_later hb7 e8; have i9 := cell_later hb7 e9; have i10 := cell_later hb7 e10; have i11 := cell_later hb7 e11; have HB7 := hide (below_on HB6.out hb7); clear hb7) | (go_at_call 8; refine (toRaft n0_0 n0_1 n0_2 n0_3 (HY0.out.later (below_on BB.out (below_drewN _ 1))) (HZZ0.out.later (below_on BB.out (below_drewN _ 1))) (by rw [HL0.out]; exact hxl0) HQ0.out.1 HQ0.out.2.1).mono ?_; rintro e w13 ⟨ye0, ze0, rfl, hb, ho⟩; have e0 := cell_later hb p0; have e1 := cell_later hb p1; have e2 := cell_later hb p2; have e3 := cell_later hb p3; have e4 := cell_later hb p4; have e5 := cell_later hb p5; have e6 := cell_later hb q0; have e7 := cell_later hb q1; have e8 := cell_later hb q2; have e9 := cell_later hb q3; have e10 := cell_later hb q4; have e11 := cell_later hb q5; have HO6 := hide (ho); have HB6 := hide (below_on (below_drewN w12 1) hb); clear hb ho))
  have hb := HB7.out
  clear plt p0 p1 p2 p3 p4 p5
  clear qlt q0 q1 q2 q3 q4 q5
  have G_b0 := hide (F_b0.out.later hb)
  have G_W := hide (F_W.out.later hb)
  have G_x0 := hide (F_x0.out.later hb)
  have G_vW := hide (F_vW.out.later hb)
  have G_x1 := hide (F_x1.out.later hb)
  have G_v0 := hide (F_v0.out.later hb)
  have G_x2 := hide (F_x2.out.later hb)
  have G_G := hide (F_G.out.later hb)
  have G_vG := hide (F_vG.out.later hb)
  have BC := hide (below_on BB.out hb)
  clear F_b0
  have F_b0 := G_b0
  clear G_b0
  clear F_W
  have F_W := G_W
  clear G_W
  clear F_x0
  have F_x0 := G_x0
  clear G_x0
  clear F_vW
  have F_vW := G_vW
  clear G_vW
  clear F_x1
  have F_x1 := G_x1
  clear G_x1
  clear F_v0
  have F_v0 := G_v0
  clear G_v0
  clear F_x2
  have F_x2 := G_x2
  clear G_x2
  clear F_G
  have F_G := G_G
  clear G_G
  clear F_vG
  have F_vG := G_vG
  clear G_vG
  clear BB
  have BB := BC
  clear BC
  have z_w14 : w12.heap.size ≤ w14.heap.size := hb.size
  clear hb HB6 HB7 HO6 e0 i0 e1 i1 e2 i2 e3 i3 e4 i4 e5 i5 e6 i6 e7 i7 e8 i8 e9 i9 e10 i10 e11 i11
  go_wp2_with fail
  refine (toThs (HY1.out.later BB.out) HQ1.out).mono ?_
  rintro e w15 ⟨ze1, rfl, hb, ho⟩
  obtain ⟨aoe1, ce1, hze1⟩ := ho.shape
  rw [HL1.out] at hze1
  subst hze1
  have G_b0 := hide (F_b0.out.later hb)
  have G_W := hide (F_W.out.later hb)
  have G_x0 := hide (F_x0.out.later hb)
  have G_vW := hide (F_vW.out.later hb)
  have G_x1 := hide (F_x1.out.later hb)
  have G_v0 := hide (F_v0.out.later hb)
  have G_x2 := hide (F_x2.out.later hb)
  have G_G := hide (F_G.out.later hb)
  have G_vG := hide (F_vG.out.later hb)
  have BC := hide (below_on BB.out hb)
  have z_w15 : w14.heap.size ≤ w15.heap.size := by have := hb.size; simpa using this
  have N_t1 := hide (ho)
  clear F_b0
  have F_b0 := G_b0
  clear G_b0
  clear F_W
  have F_W := G_W
  clear G_W
  clear F_x0
  have F_x0 := G_x0
  clear G_x0
  clear F_vW
  have F_vW := G_vW
  clear G_vW
  clear F_x1
  have F_x1 := G_x1
  clear G_x1
  clear F_v0
  have F_v0 := G_v0
  clear G_v0
  clear F_x2
  have F_x2 := G_x2
  clear G_x2
  clear F_G
  have F_G := G_G
  clear G_G
  clear F_vG
  have F_vG := G_vG
  clear G_vG
  clear BB
  have BB := BC
  clear BC
  have F_t1 := N_t1
  clear N_t1
  clear hb
  clear ho
  go_wp2_with fail
  refine (eqThs F_x1.out.rd F_t1.out.rd).mono ?_
  rintro e w16 ⟨rfl, hb⟩
  have G_b0 := hide (F_b0.out.later hb)
  have G_W := hide (F_W.out.later hb)
  have G_x0 := hide (F_x0.out.later hb)
  have G_vW := hide (F_vW.out.later hb)
  have G_x1 := hide (F_x1.out.later hb)
  have G_v0 := hide (F_v0.out.later hb)
  have G_x2 := hide (F_x2.out.later hb)
  have G_G := hide (F_G.out.later hb)
  have G_vG := hide (F_vG.out.later hb)
  have G_t1 := hide (F_t1.out.later hb)
  have BC := hide (below_on BB.out hb)
  have z_w16 : w15.heap.size ≤ w16.heap.size := by have := hb.size; simpa using this
  clear F_b0
  have F_b0 := G_b0
  clear G_b0
  clear F_W
  have F_W := G_W
  clear G_W
  clear F_x0
  have F_x0 := G_x0
  clear G_x0
  clear F_vW
  have F_vW := G_vW
  clear G_vW
  clear F_x1
  have F_x1 := G_x1
  clear G_x1
  clear F_v0
  have F_v0 := G_v0
  clear G_v0
  clear F_x2
  have F_x2 := G_x2
  clear G_x2
  clear F_G
  have F_G := G_G
  clear G_G
  clear F_vG
  have F_vG := G_vG
  clear G_vG
  clear F_t1
  have F_t1 := G_t1
  clear G_t1
  clear BB
  have BB := BC
  clear BC
  clear hb
  clear F_t1
  go_wp2_with fail
  refine (toDn (HY2.out.later BB.out) (by rw [HL2.out]; exact hl2)).mono ?_
  rintro e w17 ⟨ze2, rfl, hb, ho⟩
  obtain ⟨aoe2, ce2, hze2⟩ := ho.shape
  rw [HL2.out] at hze2
  subst hze2
  have G_b0 := hide (F_b0.out.later hb)
  have G_W := hide (F_W.out.later hb)
  have G_x0 := hide (F_x0.out.later hb)
  have G_vW := hide (F_vW.out.later hb)
  have G_x1 := hide (F_x1.out.later hb)
  have G_v0 := hide (F_v0.out.later hb)
  have G_x2 := hide (F_x2.out.later hb)
  have G_G := hide (F_G.out.later hb)
  have G_vG := hide (F_vG.out.later hb)
  have BC := hide (below_on BB.out hb)
  have z_w17 : w16.heap.size ≤ w17.heap.size := by have := hb.size; simpa using this
  have N_t2 := hide (ho.iv)
  clear F_b0
  have F_b0 := G_b0
  clear G_b0
  clear F_W
  have F_W := G_W
  clear G_W
  clear F_x0
  have F_x0 := G_x0
  clear G_x0
  clear F_vW
  have F_vW := G_vW
  clear G_vW
  clear F_x1
  have F_x1 := G_x1
  clear G_x1
  clear F_v0
  have F_v0 := G_v0
  clear G_v0
  clear F_x2
  have F_x2 := G_x2
  clear G_x2
  clear F_G
  have F_G := G_G
  clear G_G
  clear F_vG
  have F_vG := G_vG
  clear G_vG
  clear BB
  have BB := BC
  clear BC
  have F_t2 := N_t2
  clear N_t2
  clear hb
  clear ho
  go_wp2_with fail
  refine (eqDn F_x2.out.rd F_t2.out.rd).mono ?_
  rintro e w18 ⟨rfl, hb⟩
  have G_b0 := hide (F_b0.out.later hb)
  have G_W := hide (F_W.out.later hb)
  have G_x0 := hide (F_x0.out.later hb)
  have G_vW := hide (F_vW.out.later hb)
  have G_x1 := hide (F_x1.out.later hb)
  have G_v0 := hide (F_v0.out.later hb)
  have G_x2 := hide (F_x2.out.later hb)
  have G_G := hide (F_G.out.later hb)
  have G_vG := hide (F_vG.out.later hb)
  have G_t2 := hide (F_t2.out.later hb)
  have BC := hide (below_on BB.out hb)
  have z_w18 : w17.heap.size ≤ w18.heap.size := by have := hb.size; simpa using this
  clear F_b0
  have F_b0 := G_b0
  clear G_b0
  clear F_W
  have F_W := G_W
  clear G_W
  clear F_x0
  have F_x0 := G_x0
  clear G_x0
  clear F_vW
  have F_vW := G_vW
  clear G_vW
  clear F_x1
  have F_x1 := G_x1
  clear G_x1
  clear F_v0
  have F_v0 := G_v0
  clear G_v0
  clear F_x2
  have F_x2 := G_x2
  clear G_x2
  clear F_G
  have F_G := G_G
  clear G_G
  clear F_vG
  have F_vG := G_vG
  clear G_vG
  clear F_t2
  have F_t2 := G_t2
  clear G_t2
  clear BB
  have BB := BC
  clear BC
  clear hb
  clear F_t2
  have hK0 : (0 : Int) ≤ 1 := by omega
  have plt := F_v0.out.lt
  obtain ⟨p0, p1, p2, p3, p4, p5⟩ := F_v0.out
  (try simp only [Nat.add_zero] at plt)
  go_wp2_with fail
  refine (markRaft n0_0 n0_1 n0_2 n0_3 F_x0.out (by omega) (by rw [HL0.out, HT0.out]; omega)).mono ?_
  rintro e w19 ⟨he, _, hw⟩
  obtain ⟨K1, hK⟩ : ∃ K : Int, 1 + ((xs0.length : Int) + (totJ ps0 ps0.length : Int)) = K := ⟨_, rfl⟩
  rw [hK] at he
  subst he
  rw [HL0.out, HT0.out] at hK
  have hK1 : 0 ≤ K1 := by omega
  have hKb1 : K1 ≤ 8388608 := by omega
  clear hK
  clear plt p0 p1 p2 p3 p4 p5
  clear F_v0
  clear F_x0
  have z_w19 : w18.heap.size ≤ w19.heap.size := hw.size
  have G_b0 := hide (F_b0.out.wr hw (by have := F_b0.out.lt; simp <;> omega))
  have G_W := hide (F_W.out.wr hw (by intro b; simp <;> omega))
  have G_vW := hide (F_vW.out.wr hw (by have := F_vW.out.lt; simp <;> omega))
  have G_x1 := hide (F_x1.out.wr hw (by intro b; simp <;> omega))
  have G_x2 := hide (F_x2.out.wr hw (by intro b; simp <;> omega))
  have G_G := hide (F_G.out.wr hw (by intro b; simp <;> omega))
  have G_vG := hide (F_vG.out.wr hw (by have := F_vG.out.lt; simp <;> omega))
  have BC := hide (BB.out.trans (hw.below (by omega) (by intro b hb; (try simp at hb); omega)))
  clear F_b0
  have F_b0 := G_b0
  clear G_b0
  clear F_W
  have F_W := G_W
  clear G_W
  clear F_vW
  have F_vW := G_vW
  clear G_vW
  clear F_x1
  have F_x1 := G_x1
  clear G_x1
  clear F_x2
  have F_x2 := G_x2
  clear G_x2
  clear F_G
  have F_G := G_G
  clear G_G
  clear F_vG
  have F_vG := G_vG
  clear G_vG
  clear BB
  have BB := BC
  clear BC
  clear hw
  go_wp2_with fail
  refine (markThs F_x1.out (by omega) (by rw [HT1.out]; omega)).mono ?_
  rintro e w20 ⟨he, hw⟩
  obtain ⟨K2, hK⟩ : ∃ K : Int, K1 + mkTq xs1 xs1.length = K := ⟨_, rfl⟩
  rw [hK] at he
  subst he
  rw [HT1.out] at hK
  have hK2 : 0 ≤ K2 := by omega
  have hKb2 : K2 ≤ 16777216 := by omega
  clear hK
  clear F_x1
  have z_w20 : w19.heap.size ≤ w20.heap.size := hw.size
  have G_b0 := hide (F_b0.out.wr hw (by have := F_b0.out.lt; simp <;> omega))
  have G_W := hide (F_W.out.wr hw (by intro b; simp <;> omega))
  have G_vW := hide (F_vW.out.wr hw (by have := F_vW.out.lt; simp <;> omega))
  have G_x2 := hide (F_x2.out.wr hw (by intro b; simp <;> omega))
  have G_G := hide (F_G.out.wr hw (by intro b; simp <;> omega))
  have G_vG := hide (F_vG.out.wr hw (by have := F_vG.out.lt; simp <;> omega))
  have BC := hide (BB.out.trans (hw.below (by omega) (by intro b hb; (try simp at hb); omega)))
  clear F_b0
  have F_b0 := G_b0
  clear G_b0
  clear F_W
  have F_W := G_W
  clear G_W
  clear F_vW
  have F_vW := G_vW
  clear G_vW
  clear F_x2
  have F_x2 := G_x2
  clear G_x2
  clear F_G
  have F_G := G_G
  clear G_G
  clear F_vG
  have F_vG := G_vG
  clear G_vG
  clear BB
  have BB := BC
  clear BC
  clear hw
  go_wp2_with fail
  refine (markDnIv F_x2.out (by omega) (by rw [HL2.out]; omega)).mono ?_
  rintro e w21 ⟨he, hw⟩
  obtain ⟨K3, hK⟩ : ∃ K : Int, K2 + 4 * (xs2.length : Int) = K := ⟨_, rfl⟩
  rw [hK] at he
  subst he
  rw [HL2.out] at hK
  have hK3 : 0 ≤ K3 := by omega
  have hKb3 : K3 ≤ 25165824 := by omega
  clear hK
  clear F_x2
  have z_w21 : w20.heap.size ≤ w21.heap.size := hw.size
  have G_b0 := hide (F_b0.out.wr hw (by have := F_b0.out.lt; simp <;> omega))
  have G_W := hide (F_W.out.wr hw (by intro b; simp <;> omega))
  have G_vW := hide (F_vW.out.wr hw (by have := F_vW.out.lt; simp <;> omega))
  have G_G := hide (F_G.out.wr hw (by intro b; simp <;> omega))
  have G_vG := hide (F_vG.out.wr hw (by have := F_vG.out.lt; simp <;> omega))
  have BC := hide (BB.out.trans (hw.below (by omega) (by intro b hb; (try simp at hb); omega)))
  clear F_b0
  have F_b0 := G_b0
  clear G_b0
  clear F_W
  have F_W := G_W
  clear G_W
  clear F_vW
  have F_vW := G_vW
  clear G_vW
  clear F_G
  have F_G := G_G
  clear G_G
  clear F_vG
  have F_vG := G_vG
  clear G_vG
  clear BB
  have BB := BC
  clear BC
  clear hw
  have plt := F_vG.out.lt
  obtain ⟨p0, p1, p2, p3, p4, p5, p6, p7, p8⟩ := F_vG.out
  (try simp only [Nat.add_zero] at plt)
  have qlt := F_vW.out.lt
  obtain ⟨q0, q1, q2, q3, q4, q5, q6, q7, q8⟩ := F_vW.out
  (try simp only [Nat.add_zero] at qlt)
  go_wp2_with fail
  refine (eqOpResult (r := ⟨rq0, rq1, rq2, rq3, rs, rp⟩) F_G.out.rdI F_G.out.rdJ F_W.out.rdI F_W.out.rdJ).mono ?_
  rintro e w22 ⟨rfl, hb⟩
  have G_b0 := hide (F_b0.out.later hb)
  have G_W := hide (F_W.out.later hb)
  have G_vW := hide (F_vW.out.later hb)
  have G_G := hide (F_G.out.later hb)
  have G_vG := hide (F_vG.out.later hb)
  have BC := hide (below_on BB.out hb)
  have z_w22 : w21.heap.size ≤ w22.heap.size := by have := hb.size; simpa using this
  clear plt p0 p1 p2 p3 p4 p5 p6 p7 p8
  clear qlt q0 q1 q2 q3 q4 q5 q6 q7 q8
  clear F_b0
  have F_b0 := G_b0
  clear G_b0
  clear F_W
  have F_W := G_W
  clear G_W
  clear F_vW
  have F_vW := G_vW
  clear G_vW
  clear F_G
  have F_G := G_G
  clear G_G
  clear F_vG
  have F_vG := G_vG
  clear G_vG
  clear BB
  have BB := BC
  clear BC
  clear hb
  have plt := F_vG.out.lt
  obtain ⟨p0, p1, p2, p3, p4, p5, p6, p7, p8⟩ := F_vG.out
  (try simp only [Nat.add_zero] at plt)
  go_wp2_with fail
  refine (markOpResult rq0 rq1 rq2 rq3 F_G.out (by omega) HRB.out).mono ?_
  rintro e w23 ⟨he, hr, hw⟩
  rw [HMe.out] at he
  subst he
  have N_R := hide hr
  clear plt p0 p1 p2 p3 p4 p5 p6 p7 p8
  clear F_G
  have z_w23 : w22.heap.size ≤ w23.heap.size := hw.size
  clear hr
  have G_b0 := hide (F_b0.out.wr hw (by have := F_b0.out.lt; simp <;> omega))
  have G_W := hide (F_W.out.wr hw (by intro b; simp <;> omega))
  have G_vW := hide (F_vW.out.wr hw (by have := F_vW.out.lt; simp <;> omega))
  have G_vG := hide (F_vG.out.wr hw (by have := F_vG.out.lt; simp <;> omega))
  have BC := hide (BB.out.trans (hw.below (by omega) (by intro b hb; (try simp at hb); omega)))
  clear F_b0
  have F_b0 := G_b0
  clear G_b0
  clear F_W
  have F_W := G_W
  clear G_W
  clear F_vW
  have F_vW := G_vW
  clear G_vW
  clear F_vG
  have F_vG := G_vG
  clear G_vG
  clear BB
  have BB := BC
  clear BC
  clear hw
  have F_R := N_R
  clear N_R
  have plt := F_vG.out.lt
  obtain ⟨p0, p1, p2, p3, p4, p5, p6, p7, p8⟩ := F_vG.out
  (try simp only [Nat.add_zero] at plt)
  go_wp2_with fail
  refine (heldOpResult rq0 rq1 rq2 rq3 F_R.out (by omega) HRB.out).mono ?_
  rintro e w24 ⟨he, hb⟩
  rw [HMe.out] at he
  subst he
  have G_b0 := hide (F_b0.out.later hb)
  have G_W := hide (F_W.out.later hb)
  have G_vW := hide (F_vW.out.later hb)
  have G_vG := hide (F_vG.out.later hb)
  have G_R := hide (F_R.out.later hb)
  have BC := hide (below_on BB.out hb)
  have z_w24 : w23.heap.size ≤ w24.heap.size := by have := hb.size; simpa using this
  clear plt p0 p1 p2 p3 p4 p5 p6 p7 p8
  clear F_b0
  have F_b0 := G_b0
  clear G_b0
  clear F_W
  have F_W := G_W
  clear G_W
  clear F_vW
  have F_vW := G_vW
  clear G_vW
  clear F_vG
  have F_vG := G_vG
  clear G_vG
  clear F_R
  have F_R := G_R
  clear G_R
  clear BB
  have BB := BC
  clear BC
  clear hb
  have p0_lt := F_b0.out.lt
  obtain ⟨p0_0, p0_1, p0_2, p0_3, p0_4, p0_5⟩ := F_b0.out
  (try simp only [Nat.add_zero] at p0_lt)
  go_wp2_with fail
  refine (toRaft n0_0 n0_1 n0_2 n0_3 (HY0.out.later BB.out) (HZZ0.out.later BB.out) (by rw [HL0.out]; exact hxl0) HQ0.out.1 HQ0.out.2.1).mono ?_
  rintro e w25 ⟨yH0, zH0, rfl, hb, ho⟩
  obtain ⟨aoH0, cH0, boH0, dH0, hyH0, hzH0⟩ := ho.shape
  rw [HL0.out] at hyH0
  rw [HM0.out] at hzH0
  subst hyH0
  subst hzH0
  have G_b0 := hide (F_b0.out.later hb)
  have G_W := hide (F_W.out.later hb)
  have G_vW := hide (F_vW.out.later hb)
  have G_vG := hide (F_vG.out.later hb)
  have G_R := hide (F_R.out.later hb)
  have BC := hide (below_on BB.out hb)
  have z_w25 : w24.heap.size ≤ w25.heap.size := by have := hb.size; simpa using this
  have N_t0 := hide (ho)
  clear p0_lt p0_0 p0_1 p0_2 p0_3 p0_4 p0_5
  clear F_b0
  have F_b0 := G_b0
  clear G_b0
  clear F_W
  have F_W := G_W
  clear G_W
  clear F_vW
  have F_vW := G_vW
  clear G_vW
  clear F_vG
  have F_vG := G_vG
  clear G_vG
  clear F_R
  have F_R := G_R
  clear G_R
  clear BB
  have BB := BC
  clear BC
  have F_t0 := N_t0
  clear N_t0
  clear hb
  clear ho
  have p0_lt := F_b0.out.lt
  obtain ⟨p0_0, p0_1, p0_2, p0_3, p0_4, p0_5⟩ := F_b0.out
  (try simp only [Nat.add_zero] at p0_lt)
  go_wp2_with fail
  refine (toThs (HY1.out.later BB.out) HQ1.out).mono ?_
  rintro e w26 ⟨zH1, rfl, hb, ho⟩
  obtain ⟨aoH1, cH1, hzH1⟩ := ho.shape
  rw [HL1.out] at hzH1
  subst hzH1
  have G_b0 := hide (F_b0.out.later hb)
  have G_W := hide (F_W.out.later hb)
  have G_vW := hide (F_vW.out.later hb)
  have G_vG := hide (F_vG.out.later hb)
  have G_R := hide (F_R.out.later hb)
  have G_t0 := hide (F_t0.out.later hb)
  have BC := hide (below_on BB.out hb)
  have z_w26 : w25.heap.size ≤ w26.heap.size := by have := hb.size; simpa using this
  have N_t1 := hide (ho)
  clear p0_lt p0_0 p0_1 p0_2 p0_3 p0_4 p0_5
  clear F_b0
  have F_b0 := G_b0
  clear G_b0
  clear F_W
  have F_W := G_W
  clear G_W
  clear F_vW
  have F_vW := G_vW
  clear G_vW
  clear F_vG
  have F_vG := G_vG
  clear G_vG
  clear F_R
  have F_R := G_R
  clear G_R
  clear F_t0
  have F_t0 := G_t0
  clear G_t0
  clear BB
  have BB := BC
  clear BC
  have F_t1 := N_t1
  clear N_t1
  clear hb
  clear ho
  have p0_lt := F_b0.out.lt
  obtain ⟨p0_0, p0_1, p0_2, p0_3, p0_4, p0_5⟩ := F_b0.out
  (try simp only [Nat.add_zero] at p0_lt)
  go_wp2_with fail
  refine (toDn (HY2.out.later BB.out) (by rw [HL2.out]; exact hl2)).mono ?_
  rintro e w27 ⟨zH2, rfl, hb, ho⟩
  obtain ⟨aoH2, cH2, hzH2⟩ := ho.shape
  rw [HL2.out] at hzH2
  subst hzH2
  have G_b0 := hide (F_b0.out.later hb)
  have G_W := hide (F_W.out.later hb)
  have G_vW := hide (F_vW.out.later hb)
  have G_vG := hide (F_vG.out.later hb)
  have G_R := hide (F_R.out.later hb)
  have G_t0 := hide (F_t0.out.later hb)
  have G_t1 := hide (F_t1.out.later hb)
  have BC := hide (below_on BB.out hb)
  have z_w27 : w26.heap.size ≤ w27.heap.size := by have := hb.size; simpa using this
  have N_t2 := hide (ho.iv)
  clear p0_lt p0_0 p0_1 p0_2 p0_3 p0_4 p0_5
  clear F_b0
  have F_b0 := G_b0
  clear G_b0
  clear F_W
  have F_W := G_W
  clear G_W
  clear F_vW
  have F_vW := G_vW
  clear G_vW
  clear F_vG
  have F_vG := G_vG
  clear G_vG
  clear F_R
  have F_R := G_R
  clear G_R
  clear F_t0
  have F_t0 := G_t0
  clear G_t0
  clear F_t1
  have F_t1 := G_t1
  clear G_t1
  clear BB
  have BB := BC
  clear BC
  have F_t2 := N_t2
  clear N_t2
  clear hb
  clear ho
  go_wp2_with fail
  refine (HI.out _ _ _ _ _ _ _ _ BB.out F_t0.out.rdI F_t0.out.rdJ F_t1.out.rdC F_t2.out.rd).mono ?_
  rintro e w28 ⟨yH, zH, rfl, hb, ho⟩
  obtain ⟨aoH, cH, boH, dH, hyH, hzH⟩ := ho.shape
  rw [HLr.out] at hyH
  rw [HMr.out] at hzH
  subst hyH
  subst hzH
  have G_b0 := hide (F_b0.out.later hb)
  have G_W := hide (F_W.out.later hb)
  have G_vW := hide (F_vW.out.later hb)
  have G_vG := hide (F_vG.out.later hb)
  have G_R := hide (F_R.out.later hb)
  have G_t0 := hide (F_t0.out.later hb)
  have G_t1 := hide (F_t1.out.later hb)
  have G_t2 := hide (F_t2.out.later hb)
  have BC := hide (below_on BB.out hb)
  have z_w28 : w27.heap.size ≤ w28.heap.size := by have := hb.size; simpa using this
  have N_H := hide (ho)
  clear F_b0
  have F_b0 := G_b0
  clear G_b0
  clear F_W
  have F_W := G_W
  clear G_W
  clear F_vW
  have F_vW := G_vW
  clear G_vW
  clear F_vG
  have F_vG := G_vG
  clear G_vG
  clear F_R
  have F_R := G_R
  clear G_R
  clear F_t0
  have F_t0 := G_t0
  clear G_t0
  clear F_t1
  have F_t1 := G_t1
  clear G_t1
  clear F_t2
  have F_t2 := G_t2
  clear G_t2
  clear BB
  have BB := BC
  clear BC
  have F_H := N_H
  clear N_H
  clear hb
  clear ho
  clear F_t0
  clear F_t1
  clear F_t2
  have qlt := F_vW.out.lt
  obtain ⟨q0, q1, q2, q3, q4, q5, q6, q7, q8⟩ := F_vW.out
  (try simp only [Nat.add_zero] at qlt)
  go_wp2_with fail
  refine (eqOpResult (r := ⟨rq0, rq1, rq2, rq3, rs, rp⟩) (F_H.out.later (below_alloc _ (.cells #[.int .i64 code, .int .i64 rep, .int .i64 vlu, .int .i64 rq0, .int .i64 rq1, .int .i64 rq2, .int .i64 rq3, .slice aoH lr cH, .slice boH mr dH] 35))).rdI (F_H.out.later (below_alloc _ (.cells #[.int .i64 code, .int .i64 rep, .int .i64 vlu, .int .i64 rq0, .int .i64 rq1, .int .i64 rq2, .int .i64 rq3, .slice aoH lr cH, .slice boH mr dH] 35))).rdJ (F_W.out.later (below_alloc _ (.cells #[.int .i64 code, .int .i64 rep, .int .i64 vlu, .int .i64 rq0, .int .i64 rq1, .int .i64 rq2, .int .i64 rq3, .slice aoH lr cH, .slice boH mr dH] 35))).rdI (F_W.out.later (below_alloc _ (.cells #[.int .i64 code, .int .i64 rep, .int .i64 vlu, .int .i64 rq0, .int .i64 rq1, .int .i64 rq2, .int .i64 rq3, .slice aoH lr cH, .slice boH mr dH] 35))).rdJ).mono ?_
  rintro e w29 ⟨rfl, hb⟩
  have G_b0 := hide ((F_b0.out.later (below_alloc _ (.cells #[.int .i64 code, .int .i64 rep, .int .i64 vlu, .int .i64 rq0, .int .i64 rq1, .int .i64 rq2, .int .i64 rq3, .slice aoH lr cH, .slice boH mr dH] 35))).later hb)
  have G_W := hide ((F_W.out.later (below_alloc _ (.cells #[.int .i64 code, .int .i64 rep, .int .i64 vlu, .int .i64 rq0, .int .i64 rq1, .int .i64 rq2, .int .i64 rq3, .slice aoH lr cH, .slice boH mr dH] 35))).later hb)
  have G_vW := hide ((F_vW.out.later (below_alloc _ (.cells #[.int .i64 code, .int .i64 rep, .int .i64 vlu, .int .i64 rq0, .int .i64 rq1, .int .i64 rq2, .int .i64 rq3, .slice aoH lr cH, .slice boH mr dH] 35))).later hb)
  have G_vG := hide ((F_vG.out.later (below_alloc _ (.cells #[.int .i64 code, .int .i64 rep, .int .i64 vlu, .int .i64 rq0, .int .i64 rq1, .int .i64 rq2, .int .i64 rq3, .slice aoH lr cH, .slice boH mr dH] 35))).later hb)
  have G_R := hide ((F_R.out.later (below_alloc _ (.cells #[.int .i64 code, .int .i64 rep, .int .i64 vlu, .int .i64 rq0, .int .i64 rq1, .int .i64 rq2, .int .i64 rq3, .slice aoH lr cH, .slice boH mr dH] 35))).later hb)
  have G_H := hide ((F_H.out.later (below_alloc _ (.cells #[.int .i64 code, .int .i64 rep, .int .i64 vlu, .int .i64 rq0, .int .i64 rq1, .int .i64 rq2, .int .i64 rq3, .slice aoH lr cH, .slice boH mr dH] 35))).later hb)
  have BC := hide (below_on (below_on BB.out (below_alloc _ (.cells #[.int .i64 code, .int .i64 rep, .int .i64 vlu, .int .i64 rq0, .int .i64 rq1, .int .i64 rq2, .int .i64 rq3, .slice aoH lr cH, .slice boH mr dH] 35))) hb)
  have z_w29 : w28.heap.size + 1 ≤ w29.heap.size := by have := hb.size; simpa using this
  have N_vH := hide ((Var9_new w28 (.int .i64 code) (.int .i64 rep) (.int .i64 vlu) (.int .i64 rq0) (.int .i64 rq1) (.int .i64 rq2) (.int .i64 rq3) (.slice aoH lr cH) (.slice boH mr dH) 35).later hb)
  clear qlt q0 q1 q2 q3 q4 q5 q6 q7 q8
  clear F_b0
  have F_b0 := G_b0
  clear G_b0
  clear F_W
  have F_W := G_W
  clear G_W
  clear F_vW
  have F_vW := G_vW
  clear G_vW
  clear F_vG
  have F_vG := G_vG
  clear G_vG
  clear F_R
  have F_R := G_R
  clear G_R
  clear F_H
  have F_H := G_H
  clear G_H
  clear BB
  have BB := BC
  clear BC
  have F_vH := N_vH
  clear N_vH
  clear hb
  clear F_H
  clear F_W
  clear F_vH
  clear F_vW
  have plt := F_vG.out.lt
  obtain ⟨p0, p1, p2, p3, p4, p5, p6, p7, p8⟩ := F_vG.out
  (try simp only [Nat.add_zero] at plt)
  go_wp2_with fail
  refine (heldOpResult rq0 rq1 rq2 rq3 F_R.out (by omega) HRB.out).mono ?_
  rintro e w30 ⟨he, hb⟩
  rw [HMe.out] at he
  subst he
  have G_b0 := hide (F_b0.out.later hb)
  have G_vG := hide (F_vG.out.later hb)
  have G_R := hide (F_R.out.later hb)
  have BC := hide (below_on BB.out hb)
  have z_w30 : w29.heap.size ≤ w30.heap.size := by have := hb.size; simpa using this
  clear plt p0 p1 p2 p3 p4 p5 p6 p7 p8
  clear F_b0
  have F_b0 := G_b0
  clear G_b0
  clear F_vG
  have F_vG := G_vG
  clear G_vG
  clear F_R
  have F_R := G_R
  clear G_R
  clear BB
  have BB := BC
  clear BC
  clear hb
  go_wp2
  go_ret
  exact ⟨rfl, BB.out⟩
end Go.Proofs.YtcmdgnemkjfckaaGreatDoor
