/- LawDoOp in one text: what each says stands at its head below. -/
import Derived.Test.YtlljcajfdeiigaaGreatDoorG09
import Derived.Test.YtlljcajfdeiigaaGreatDoorG08
import Derived.Test.YtlljcajfdeiigaaGreatDoorG06
import Derived.Deep.CutRange
/- The law 'FnExactDoOp' walked, out of what the program's function and the model's leave. Made by program (lawgen.py). -/
namespace Go.Proofs.YtlljcajfdeiigaaGreatDoor
open Go.RowKit

set_option linter.unusedSimpArgs false in
set_option maxHeartbeats 8000000 in
set_option maxRecDepth 4000 in
theorem lawDoOp_small {S0 T0 S1 T1 : Nat → Prop} {w : World} (n0_0 n0_1 n0_2 n0_3 : Int) {y0 z0 : Value} {xs0 : List Int} {ps0 : List Oj} (n1_0 n1_1 n1_2 n1_3 : Int) {y1 z1 : Value} {xs1 : List Int} {ps1 : List Oj} (hy0 : RdI S0 w y0 xs0) (hz0 : RdJ T0 w z0 ps0) (hy1 : RdI S1 w y1 xs1) (hz1 : RdJ T1 w z1 ps1) (code : Int) (rep vlu rq0 rq1 rq2 rq3 : Int) (rs : List Int) (rp : List Oj) (hres : (rs.length : Int) + (totJ rp rp.length : Int) ≤ 1048576)
    (hsz : ((xs0.length : Int) + szU ps0) + ((xs1.length : Int) + szU ps1) ≤ 1048576)
    (hspec : ∀ (S0 T0 S1 T1 : Nat → Prop) (w : World) (y0 z0 y1 z1 : Value), RdI S0 w y0 xs0 → RdJ T0 w z0 ps0 → capE z0 → RdI S1 w y1 xs1 → RdJ T1 w z1 ps1 → capE z1 → Calls Tryz.prog 7 #[.agg #[.int .i64 n0_0, .int .i64 n0_1, .int .i64 n0_2, .int .i64 n0_3, y0, z0], .agg #[.int .i64 n1_0, .int .i64 n1_1, .int .i64 n1_2, .int .i64 n1_3, y1, z1]] w (EndsO8 code rep vlu rq0 rq1 rq2 rq3 rs rp w))
    (himpl : ∀ (S0 T0 S1 T1 : Nat → Prop) (w9 : World) (y0 z0 y1 z1 : Value), Below w.heap.size w w9 → RdI S0 w9 y0 xs0 → RdJ T0 w9 z0 ps0 → capE z0 → RdI S1 w9 y1 xs1 → RdJ T1 w9 z1 ps1 → capE z1 → Calls Tryz.prog 10 #[.agg #[.int .i64 n0_0, .int .i64 n0_1, .int .i64 n0_2, .int .i64 n0_3, y0, z0], .agg #[.int .i64 n1_0, .int .i64 n1_1, .int .i64 n1_2, .int .i64 n1_3, y1, z1]] w9 (EndsO8 code rep vlu rq0 rq1 rq2 rq3 rs rp w9)) :
    Calls Tryz.prog 3 #[.agg #[.int .i64 n0_0, .int .i64 n0_1, .int .i64 n0_2, .int .i64 n0_3, y0, z0], .agg #[.int .i64 n1_0, .int .i64 n1_1, .int .i64 n1_2, .int .i64 n1_3, y1, z1]] w fun e w' => e = .returned (.bool true) ∧ Below w.heap.size w w' := by
  have HS := hide hspec
  have HI := hide himpl
  clear hspec himpl
  have hn1 := szU_nonneg ps1
  obtain ⟨ay0, cy0, rfl⟩ := hy0.shape
  obtain ⟨az0, cz0, rfl, _⟩ := hz0.shape
  have hsn0 := szU_nonneg ps0
  have HQ0 := hide (smallU (qs := ps0) (by omega))
  have hxl0 : xs0.length ≤ 1048576 := by omega
  obtain ⟨s0, hs0⟩ : ∃ s, (xs0.length : Int) + szU ps0 = s := ⟨_, rfl⟩
  have hs00 : 0 ≤ s0 := by omega
  rw [hs0] at hsz
  have HSz0 := hide hs0
  clear hs0 hsn0
  obtain ⟨l0, hll0⟩ : ∃ l, xs0.length = l := ⟨_, rfl⟩
  have HL0 := hide hll0
  rw [hll0] at hy0 hxl0 ⊢
  obtain ⟨m0, hmm0⟩ : ∃ l, ps0.length = l := ⟨_, rfl⟩
  have HM0 := hide hmm0
  rw [hmm0] at hz0 ⊢
  have HY0 := hide hy0
  have HZZ0 := hide hz0
  clear hy0 hz0 hll0 hmm0
  obtain ⟨T_0, hT0⟩ : ∃ T : Nat, totJ ps0 ps0.length = T := ⟨_, rfl⟩
  have hTb0 : (T_0 : Int) ≤ 4194304 := by have := HQ0.out.2.2; rw [hT0] at this; exact this
  have HT0 := hide hT0
  clear hT0
  clear hn1
  obtain ⟨ay1, cy1, rfl⟩ := hy1.shape
  obtain ⟨az1, cz1, rfl, _⟩ := hz1.shape
  have hsn1 := szU_nonneg ps1
  have HQ1 := hide (smallU (qs := ps1) (by omega))
  have hxl1 : xs1.length ≤ 1048576 := by omega
  obtain ⟨s1, hs1⟩ : ∃ s, (xs1.length : Int) + szU ps1 = s := ⟨_, rfl⟩
  have hs01 : 0 ≤ s1 := by omega
  rw [hs1] at hsz
  have HSz1 := hide hs1
  clear hs1 hsn1
  obtain ⟨l1, hll1⟩ : ∃ l, xs1.length = l := ⟨_, rfl⟩
  have HL1 := hide hll1
  rw [hll1] at hy1 hxl1 ⊢
  obtain ⟨m1, hmm1⟩ : ∃ l, ps1.length = l := ⟨_, rfl⟩
  have HM1 := hide hmm1
  rw [hmm1] at hz1 ⊢
  have HY1 := hide hy1
  have HZZ1 := hide hz1
  clear hy1 hz1 hll1 hmm1
  obtain ⟨T_1, hT1⟩ : ∃ T : Nat, totJ ps1 ps1.length = T := ⟨_, rfl⟩
  have hTb1 : (T_1 : Int) ≤ 4194304 := by have := HQ1.out.2.2; rw [hT1] at this; exact this
  have HT1 := hide hT1
  clear hT1
  have HZ0 := hide (szv_yes (left := (1048576 : Int)) (s := s0) (by omega))
  have hp0 : ¬ ((1048576 : Int) - s0 < 0) := by omega
  have HZ1 := hide (szv_yes (left := (1048576 : Int) - s0) (s := s1) (by omega))
  have hp1 : ¬ ((1048576 : Int) - s0 - s1 < 0) := by omega
  obtain ⟨lr, hlr⟩ : ∃ l, rs.length = l := ⟨_, rfl⟩
  have HLr := hide hlr
  clear hlr
  obtain ⟨mr, hmr⟩ : ∃ l, rp.length = l := ⟨_, rfl⟩
  have HMr := hide hmr
  clear hmr
  have HRB := hide (show (1 : Int) + ((rs.length : Int) + (totJ rp rp.length : Int)) ≤ 9223372036854775807 by omega)
  have hM : 0 ≤ (1 : Int) + ((rs.length : Int) + (totJ rp rp.length : Int)) := by omega
  obtain ⟨M, hMe⟩ : ∃ M : Int, (1 : Int) + ((rs.length : Int) + (totJ rp rp.length : Int)) = M := ⟨_, rfl⟩
  rw [hMe] at hM
  have HMe := hide hMe
  clear hMe hres
  go_enter Tryz.func3, Tryz.ntmps3
  have BB := hide (Below.refl w.heap.size w)
  have F_b0 : Hid (Var6 ((w.alloc (.cells #[.int .i64 n0_0, .int .i64 n0_1, .int .i64 n0_2, .int .i64 n0_3, .slice ay0 l0 cy0, .slice az0 m0 cz0] 25)).alloc (.cells #[.int .i64 n1_0, .int .i64 n1_1, .int .i64 n1_2, .int .i64 n1_3, .slice ay1 l1 cy1, .slice az1 m1 cz1] 27)) (w.heap.size) (.int .i64 n0_0) (.int .i64 n0_1) (.int .i64 n0_2) (.int .i64 n0_3) (.slice ay0 l0 cy0) (.slice az0 m0 cz0)) := by have h := (Var6_new w (.int .i64 n0_0) (.int .i64 n0_1) (.int .i64 n0_2) (.int .i64 n0_3) (.slice ay0 l0 cy0) (.slice az0 m0 cz0) 25).later (below_alloc _ (.cells #[.int .i64 n1_0, .int .i64 n1_1, .int .i64 n1_2, .int .i64 n1_3, .slice ay1 l1 cy1, .slice az1 m1 cz1] 27)); (try simp at h); unfold Hid; exact h
  have F_b1 : Hid (Var6 ((w.alloc (.cells #[.int .i64 n0_0, .int .i64 n0_1, .int .i64 n0_2, .int .i64 n0_3, .slice ay0 l0 cy0, .slice az0 m0 cz0] 25)).alloc (.cells #[.int .i64 n1_0, .int .i64 n1_1, .int .i64 n1_2, .int .i64 n1_3, .slice ay1 l1 cy1, .slice az1 m1 cz1] 27)) (w.heap.size + 1) (.int .i64 n1_0) (.int .i64 n1_1) (.int .i64 n1_2) (.int .i64 n1_3) (.slice ay1 l1 cy1) (.slice az1 m1 cz1)) := by have h := Var6_new (w.alloc (.cells #[.int .i64 n0_0, .int .i64 n0_1, .int .i64 n0_2, .int .i64 n0_3, .slice ay0 l0 cy0, .slice az0 m0 cz0] 25)) (.int .i64 n1_0) (.int .i64 n1_1) (.int .i64 n1_2) (.int .i64 n1_3) (.slice ay1 l1 cy1) (.slice az1 m1 cz1) 27; (try simp at h); unfold Hid; exact h
  clear BB
  have BB := hide (below_on (below_on (Below.refl w.heap.size w) (below_alloc _ (.cells #[.int .i64 n0_0, .int .i64 n0_1, .int .i64 n0_2, .int .i64 n0_3, .slice ay0 l0 cy0, .slice az0 m0 cz0] 25))) (below_alloc _ (.cells #[.int .i64 n1_0, .int .i64 n1_1, .int .i64 n1_2, .int .i64 n1_3, .slice ay1 l1 cy1, .slice az1 m1 cz1] 27)))
  have p0_lt := F_b0.out.lt
  obtain ⟨p0_0, p0_1, p0_2, p0_3, p0_4, p0_5⟩ := F_b0.out
  (try simp only [Nat.add_zero] at p0_lt)
  have p1_lt := F_b1.out.lt
  obtain ⟨p1_0, p1_1, p1_2, p1_3, p1_4, p1_5⟩ := F_b1.out
  (try simp only [Nat.add_zero] at p1_lt)
  go_wp2_with fail
  refine (szRaft n0_0 n0_1 n0_2 n0_3 (HY0.out.later BB.out) (HZZ0.out.later BB.out) (by omega) (by omega)).mono ?_
  rintro e w1 ⟨he, hb⟩
  rw [HSz0.out, HZ0.out] at he
  subst he
  have G_b0 := hide (F_b0.out.later hb)
  have G_b1 := hide (F_b1.out.later hb)
  have BC := hide (below_on BB.out hb)
  have z_w1 : w.heap.size + 2 ≤ w1.heap.size := by have := hb.size; simpa using this
  clear p0_lt p0_0 p0_1 p0_2 p0_3 p0_4 p0_5
  clear p1_lt p1_0 p1_1 p1_2 p1_3 p1_4 p1_5
  clear F_b0
  have F_b0 := G_b0
  clear G_b0
  clear F_b1
  have F_b1 := G_b1
  clear G_b1
  clear BB
  have BB := BC
  clear BC
  clear hb
  have p0_lt := F_b0.out.lt
  obtain ⟨p0_0, p0_1, p0_2, p0_3, p0_4, p0_5⟩ := F_b0.out
  (try simp only [Nat.add_zero] at p0_lt)
  have p1_lt := F_b1.out.lt
  obtain ⟨p1_0, p1_1, p1_2, p1_3, p1_4, p1_5⟩ := F_b1.out
  (try simp only [Nat.add_zero] at p1_lt)
  go_wp2_with fail
  refine (szOp n1_0 n1_1 n1_2 n1_3 (HY1.out.later BB.out) (HZZ1.out.later BB.out) (by omega) (by omega)).mono ?_
  rintro e w2 ⟨he, hb⟩
  rw [HSz1.out, HZ1.out] at he
  subst he
  have G_b0 := hide (F_b0.out.later hb)
  have G_b1 := hide (F_b1.out.later hb)
  have BC := hide (below_on BB.out hb)
  have z_w2 : w1.heap.size ≤ w2.heap.size := by have := hb.size; simpa using this
  clear p0_lt p0_0 p0_1 p0_2 p0_3 p0_4 p0_5
  clear p1_lt p1_0 p1_1 p1_2 p1_3 p1_4 p1_5
  clear F_b0
  have F_b0 := G_b0
  clear G_b0
  clear F_b1
  have F_b1 := G_b1
  clear G_b1
  clear BB
  have BB := BC
  clear BC
  clear hb
  have p0_lt := F_b0.out.lt
  obtain ⟨p0_0, p0_1, p0_2, p0_3, p0_4, p0_5⟩ := F_b0.out
  (try simp only [Nat.add_zero] at p0_lt)
  have p1_lt := F_b1.out.lt
  obtain ⟨p1_0, p1_1, p1_2, p1_3, p1_4, p1_5⟩ := F_b1.out
  (try simp only [Nat.add_zero] at p1_lt)
  go_upto_region 8 with fail
  go_cut [6] from 24 to 28 (fun v wx => ∃ (hv : Nat) (ao : Option Addr) (c : Nat) (bo : Option Addr) (d : Nat), v = .pointer (some ⟨hv, 0, none⟩) ∧ w2.heap.size ≤ hv ∧ hv < wx.heap.size ∧ Hid (Var9 wx hv (.int .i64 code) (.int .i64 rep) (.int .i64 vlu) (.int .i64 rq0) (.int .i64 rq1) (.int .i64 rq2) (.int .i64 rq3) (.slice ao lr c) (.slice bo mr d) ∧ IvR w2.heap.size wx.heap.size wx (.slice ao lr c) (.slice bo mr d) rs rp ∧ Below w2.heap.size w2 wx))
  case first =>
    refine wp_region_held_drew (S := fun w' => w'.cell? ⟨w.heap.size, 0, none⟩ = some (.int .i64 n0_0) ∧ w'.cell? ⟨w.heap.size, 1, none⟩ = some (.int .i64 n0_1) ∧ w'.cell? ⟨w.heap.size, 2, none⟩ = some (.int .i64 n0_2) ∧ w'.cell? ⟨w.heap.size, 3, none⟩ = some (.int .i64 n0_3) ∧ w'.cell? ⟨w.heap.size, 4, none⟩ = some (.slice ay0 l0 cy0) ∧ w'.cell? ⟨w.heap.size, 5, none⟩ = some (.slice az0 m0 cz0) ∧ w'.cell? ⟨w.heap.size + 1, 0, none⟩ = some (.int .i64 n1_0) ∧ w'.cell? ⟨w.heap.size + 1, 1, none⟩ = some (.int .i64 n1_1) ∧ w'.cell? ⟨w.heap.size + 1, 2, none⟩ = some (.int .i64 n1_2) ∧ w'.cell? ⟨w.heap.size + 1, 3, none⟩ = some (.int .i64 n1_3) ∧ w'.cell? ⟨w.heap.size + 1, 4, none⟩ = some (.slice ay1 l1 cy1) ∧ w'.cell? ⟨w.heap.size + 1, 5, none⟩ = some (.slice az1 m1 cz1)) (by kernel_rfl) ⟨p0_0, p0_1, p0_2, p0_3, p0_4, p0_5, p1_0, p1_1, p1_2, p1_3, p1_4, p1_5⟩ (fun hHeld0 => ?_)
    refine forgetH (fun wx => (wx.cell? ⟨w.heap.size, 0, none⟩ = some (.int .i64 n0_0) ∧ wx.cell? ⟨w.heap.size, 1, none⟩ = some (.int .i64 n0_1) ∧ wx.cell? ⟨w.heap.size, 2, none⟩ = some (.int .i64 n0_2) ∧ wx.cell? ⟨w.heap.size, 3, none⟩ = some (.int .i64 n0_3) ∧ wx.cell? ⟨w.heap.size, 4, none⟩ = some (.slice ay0 l0 cy0) ∧ wx.cell? ⟨w.heap.size, 5, none⟩ = some (.slice az0 m0 cz0) ∧ wx.cell? ⟨w.heap.size + 1, 0, none⟩ = some (.int .i64 n1_0) ∧ wx.cell? ⟨w.heap.size + 1, 1, none⟩ = some (.int .i64 n1_1) ∧ wx.cell? ⟨w.heap.size + 1, 2, none⟩ = some (.int .i64 n1_2) ∧ wx.cell? ⟨w.heap.size + 1, 3, none⟩ = some (.int .i64 n1_3) ∧ wx.cell? ⟨w.heap.size + 1, 4, none⟩ = some (.slice ay1 l1 cy1) ∧ wx.cell? ⟨w.heap.size + 1, 5, none⟩ = some (.slice az1 m1 cz1)) ∧ Below w2.heap.size w2 wx) ⟨hHeld0, below_drewN w2 1⟩ ?_
    clear hHeld0
    rintro v0w ⟨hHeld, hbx⟩
    have HB_0 := hide hbx
    have hz_0 := hbx.size
    clear hbx
    obtain ⟨P0_0_0, P0_0_1, P0_0_2, P0_0_3, P0_0_4, P0_0_5, P0_1_0, P0_1_1, P0_1_2, P0_1_3, P0_1_4, P0_1_5⟩ := id hHeld
    refine wpAnyH_take (i := 0) (v := ?v8x0) rfl (by kernel_rfl) (by kernel_rfl) (by kernel_rfl) (fun _ _ _ h => h) (Or.inl ⟨by rfl, ?h8x0⟩) hHeld ?r8x0
    case h8x0 => intro w9 hSw; (try dsimp only at hSw); first | (go_simp; done) | (go_simp; with_reducible rfl)
    try simp only [Act.put, List.setIfInBounds_toArray, List.set_cons_zero, List.set_cons_succ, List.getElem_toArray, List.getElem_cons_zero, List.getElem_cons_succ]
    refine wpAnyH_take (i := 2) (v := ?v8x2) rfl (by kernel_rfl) (by kernel_rfl) (by kernel_rfl) (fun _ _ _ h => h) (Or.inl ⟨by rfl, ?h8x2⟩) hHeld ?r8x2
    case h8x2 => intro w9 hSw; (try dsimp only at hSw); first | (go_simp; done) | (go_simp; with_reducible rfl)
    try simp only [Act.put, List.setIfInBounds_toArray, List.set_cons_zero, List.set_cons_succ, List.getElem_toArray, List.getElem_cons_zero, List.getElem_cons_succ]
    refine wpAnyH_ready (rs := [1, 5]) (by kernel_rfl) (by simp) (AllReadyH.cons rfl (fun K hK => ?_) (AllReadyH.cons rfl (fun K hK => ?_) (AllReadyH.nil)))
    · skip
      go_simp
      go_at_call 8
      refine (toRaftC n0_0 n0_1 n0_2 n0_3 (HY0.out.later (below_on BB.out HB_0.out)) (HZZ0.out.later (below_on BB.out HB_0.out)) (by rw [HL0.out]; exact hxl0) HQ0.out.1 HQ0.out.2.1).mono ?_
      rintro e v1w ⟨y_0, z_0, rfl, hb, ho, hcp⟩
      obtain ⟨ao_0, c_0, bo_0, d_0, hy_0, hz_0⟩ := ho.shape
      rw [HL0.out] at hy_0
      rw [HM0.out] at hz_0
      subst hy_0
      subst hz_0
      have HCp_0 := hide hcp
      clear hcp
      have P1_0_0 := cell_later hb P0_0_0
      have P1_0_1 := cell_later hb P0_0_1
      have P1_0_2 := cell_later hb P0_0_2
      have P1_0_3 := cell_later hb P0_0_3
      have P1_0_4 := cell_later hb P0_0_4
      have P1_0_5 := cell_later hb P0_0_5
      have P1_1_0 := cell_later hb P0_1_0
      have P1_1_1 := cell_later hb P0_1_1
      have P1_1_2 := cell_later hb P0_1_2
      have P1_1_3 := cell_later hb P0_1_3
      have P1_1_4 := cell_later hb P0_1_4
      have P1_1_5 := cell_later hb P0_1_5
      have HB_1 := hide (below_on HB_0.out hb)
      have hz_1 : v0w.heap.size ≤ v1w.heap.size := hb.size
      have O_0 := hide (ho)
      clear hb ho
      refine hK.out _ _ ⟨P1_0_0, P1_0_1, P1_0_2, P1_0_3, P1_0_4, P1_0_5, P1_1_0, P1_1_1, P1_1_2, P1_1_3, P1_1_4, P1_1_5⟩ (fun _ => ?_)
      clear hK K
      try simp only [Act.put, List.setIfInBounds_toArray, List.set_cons_zero, List.set_cons_succ, List.getElem_toArray, List.getElem_cons_zero, List.getElem_cons_succ]
      refine wpAnyH_ready (rs := [3, 5]) (by kernel_rfl) (by simp) (AllReadyH.cons rfl (fun K hK => ?_) (AllReadyH.cons rfl (fun K hK => ?_) (AllReadyH.nil)))
      · skip
        go_simp
        go_at_call 9
        refine (toOpC n1_0 n1_1 n1_2 n1_3 (HY1.out.later (below_on BB.out HB_1.out)) (HZZ1.out.later (below_on BB.out HB_1.out)) (by rw [HL1.out]; exact hxl1) HQ1.out.1 HQ1.out.2.1).mono ?_
        rintro e v2w ⟨y_1, z_1, rfl, hb, ho, hcp⟩
        obtain ⟨ao_1, c_1, bo_1, d_1, hy_1, hz_1⟩ := ho.shape
        rw [HL1.out] at hy_1
        rw [HM1.out] at hz_1
        subst hy_1
        subst hz_1
        have HCp_1 := hide hcp
        clear hcp
        have P2_0_0 := cell_later hb P1_0_0
        have P2_0_1 := cell_later hb P1_0_1
        have P2_0_2 := cell_later hb P1_0_2
        have P2_0_3 := cell_later hb P1_0_3
        have P2_0_4 := cell_later hb P1_0_4
        have P2_0_5 := cell_later hb P1_0_5
        have P2_1_0 := cell_later hb P1_1_0
        have P2_1_1 := cell_later hb P1_1_1
        have P2_1_2 := cell_later hb P1_1_2
        have P2_1_3 := cell_later hb P1_1_3
        have P2_1_4 := cell_later hb P1_1_4
        have P2_1_5 := cell_later hb P1_1_5
        have HB_2 := hide (below_on HB_1.out hb)
        have hz_2 : v1w.heap.size ≤ v2w.heap.size := hb.size
        have O_0n := hide (O_0.out.later hb)
        clear O_0
        have O_0 := O_0n
        clear O_0n
        have O_1 := hide (ho)
        clear hb ho
        refine hK.out _ _ ⟨P2_0_0, P2_0_1, P2_0_2, P2_0_3, P2_0_4, P2_0_5, P2_1_0, P2_1_1, P2_1_2, P2_1_3, P2_1_4, P2_1_5⟩ (fun _ => ?_)
        clear hK K
        try simp only [Act.put, List.setIfInBounds_toArray, List.set_cons_zero, List.set_cons_succ, List.getElem_toArray, List.getElem_cons_zero, List.getElem_cons_succ]
        refine wpAnyH_ready (rs := [4, 5]) (by kernel_rfl) (by simp) (AllReadyH.cons rfl (fun K hK => ?_) (AllReadyH.cons rfl (fun K hK => ?_) (AllReadyH.nil)))
        · skip
          go_simp
          go_at_call 7
          refine (HS.out _ _ _ _ _ _ _ _ _ O_0.out.rdI O_0.out.rdJ (by first | exact HCpH0.out | exact HCpx0.out | exact HCpW0.out | exact HCp_0.out) O_1.out.rdI O_1.out.rdJ (by first | exact HCpH1.out | exact HCpx1.out | exact HCpW1.out | exact HCp_1.out)).mono ?_
          rintro e v3w ⟨y_r, z_r, rfl, hb, ho⟩
          obtain ⟨ao_r, c_r, bo_r, d_r, hy_r, hz_r⟩ := ho.shape
          rw [HLr.out] at hy_r
          rw [HMr.out] at hz_r
          subst hy_r
          subst hz_r
          have P3_0_0 := cell_later hb P2_0_0
          have P3_0_1 := cell_later hb P2_0_1
          have P3_0_2 := cell_later hb P2_0_2
          have P3_0_3 := cell_later hb P2_0_3
          have P3_0_4 := cell_later hb P2_0_4
          have P3_0_5 := cell_later hb P2_0_5
          have P3_1_0 := cell_later hb P2_1_0
          have P3_1_1 := cell_later hb P2_1_1
          have P3_1_2 := cell_later hb P2_1_2
          have P3_1_3 := cell_later hb P2_1_3
          have P3_1_4 := cell_later hb P2_1_4
          have P3_1_5 := cell_later hb P2_1_5
          have HB_3 := hide (below_on HB_2.out hb)
          have hz_3 : v2w.heap.size ≤ v3w.heap.size := hb.size
          have O_0n := hide (O_0.out.later hb)
          clear O_0
          have O_0 := O_0n
          clear O_0n
          have O_1n := hide (O_1.out.later hb)
          clear O_1
          have O_1 := O_1n
          clear O_1n
          have O_r : Hid (IvR v2w.heap.size v3w.heap.size v3w (.slice ao_r lr c_r) (.slice bo_r mr d_r) rs rp) := ho
          clear hb ho
          refine hK.out _ _ ⟨P3_0_0, P3_0_1, P3_0_2, P3_0_3, P3_0_4, P3_0_5, P3_1_0, P3_1_1, P3_1_2, P3_1_3, P3_1_4, P3_1_5⟩ (fun _ => ?_)
          clear hK K
          try simp only [Act.put, List.setIfInBounds_toArray, List.set_cons_zero, List.set_cons_succ, List.getElem_toArray, List.getElem_cons_zero, List.getElem_cons_succ]
          refine wpAnyH_ready (rs := [5]) (by kernel_rfl) (by simp) (AllReadyH.cons rfl (fun K hK => ?_) (AllReadyH.nil))
          go_simp
          have hb := below_alloc v3w (.cells #[.int .i64 0, .int .i64 0, .int .i64 0, .int .i64 0, .int .i64 0, .int .i64 0, .int .i64 0, .slice none 0 0, .slice none 0 0] 34)
          refine hK.out _ _ ⟨cell_later hb P3_0_0, cell_later hb P3_0_1, cell_later hb P3_0_2, cell_later hb P3_0_3, cell_later hb P3_0_4, cell_later hb P3_0_5, cell_later hb P3_1_0, cell_later hb P3_1_1, cell_later hb P3_1_2, cell_later hb P3_1_3, cell_later hb P3_1_4, cell_later hb P3_1_5⟩ (fun _ => ?_)
          clear hK K
          try simp only [Act.put, List.setIfInBounds_toArray, List.set_cons_zero, List.set_cons_succ, List.getElem_toArray, List.getElem_cons_zero, List.getElem_cons_succ]
          refine forgetH (fun wx => (wx.cell? ⟨w.heap.size, 0, none⟩ = some (.int .i64 n0_0) ∧ wx.cell? ⟨w.heap.size, 1, none⟩ = some (.int .i64 n0_1) ∧ wx.cell? ⟨w.heap.size, 2, none⟩ = some (.int .i64 n0_2) ∧ wx.cell? ⟨w.heap.size, 3, none⟩ = some (.int .i64 n0_3) ∧ wx.cell? ⟨w.heap.size, 4, none⟩ = some (.slice ay0 l0 cy0) ∧ wx.cell? ⟨w.heap.size, 5, none⟩ = some (.slice az0 m0 cz0) ∧ wx.cell? ⟨w.heap.size + 1, 0, none⟩ = some (.int .i64 n1_0) ∧ wx.cell? ⟨w.heap.size + 1, 1, none⟩ = some (.int .i64 n1_1) ∧ wx.cell? ⟨w.heap.size + 1, 2, none⟩ = some (.int .i64 n1_2) ∧ wx.cell? ⟨w.heap.size + 1, 3, none⟩ = some (.int .i64 n1_3) ∧ wx.cell? ⟨w.heap.size + 1, 4, none⟩ = some (.slice ay1 l1 cy1) ∧ wx.cell? ⟨w.heap.size + 1, 5, none⟩ = some (.slice az1 m1 cz1)) ∧ Below v3w.heap.size v3w wx ∧ Var9 wx v3w.heap.size (.int .i64 0) (.int .i64 0) (.int .i64 0) (.int .i64 0) (.int .i64 0) (.int .i64 0) (.int .i64 0) (.slice none 0 0) (.slice none 0 0) ∧ (∀ o, wx.frozen? ⟨v3w.heap.size, o, none⟩ = false) ∧ v3w.heap.size < wx.heap.size) ⟨⟨cell_later hb P3_0_0, cell_later hb P3_0_1, cell_later hb P3_0_2, cell_later hb P3_0_3, cell_later hb P3_0_4, cell_later hb P3_0_5, cell_later hb P3_1_0, cell_later hb P3_1_1, cell_later hb P3_1_2, cell_later hb P3_1_3, cell_later hb P3_1_4, cell_later hb P3_1_5⟩, hb, Var9_new _ _ _ _ _ _ _ _ _ _ _ , fun o => by simp [go_sem], by simp⟩ ?_
          clear hb
          rintro v4w ⟨⟨P4_0_0, P4_0_1, P4_0_2, P4_0_3, P4_0_4, P4_0_5, P4_1_0, P4_1_1, P4_1_2, P4_1_3, P4_1_4, P4_1_5⟩, hb, za, zf, hvl⟩
          have HB_4 := hide (below_on HB_3.out hb)
          have hz_4 : v3w.heap.size ≤ v4w.heap.size := hb.size
          have O_0n := hide (O_0.out.later hb)
          clear O_0
          have O_0 := O_0n
          clear O_0n
          have O_1n := hide (O_1.out.later hb)
          clear O_1
          have O_1 := O_1n
          clear O_1n
          have O_rn := hide (O_r.out.later hb)
          clear O_r
          have O_r := O_rn
          clear O_rn
          obtain ⟨hv, hhv⟩ : ∃ hv, v3w.heap.size = hv := ⟨_, rfl⟩
          have ZA := hide za
          have ZF := hide zf
          clear za zf hb
          rw [hhv] at ZA ZF hvl ⊢
          have hv2 : w2.heap.size ≤ hv := by omega
          have hdj : v3w.heap.size ≤ hv ∨ hv < v2w.heap.size := Or.inl (by omega)
          have HHv := hide hhv
          clear hhv
          refine wpAnyH_ready (rs := [6]) (by kernel_rfl) (by simp) (AllReadyH.cons rfl (fun K hK => ?_) (AllReadyH.nil))
          obtain ⟨Z_0, Z_1, Z_2, Z_3, Z_4, Z_5, Z_6, Z_7, Z_8⟩ := ZA.out
          have Y_0 := ZF.out 0
          have Y_1 := ZF.out 1
          have Y_2 := ZF.out 2
          have Y_3 := ZF.out 3
          have Y_4 := ZF.out 4
          have Y_5 := ZF.out 5
          have Y_6 := ZF.out 6
          have Y_7 := ZF.out 7
          have Y_8 := ZF.out 8
          go_simp
          have hn0 : w.heap.size ≠ hv := by omega
          have hn1 : w.heap.size + 1 ≠ hv := by omega
          have hw : Wr (fun y => y = hv) v4w (((((((((v4w.setCell ⟨hv, 0, none⟩ (.int .i64 code)).setCell ⟨hv, 1, none⟩ (.int .i64 rep)).setCell ⟨hv, 2, none⟩ (.int .i64 vlu)).setCell ⟨hv, 3, none⟩ (.int .i64 rq0)).setCell ⟨hv, 4, none⟩ (.int .i64 rq1)).setCell ⟨hv, 5, none⟩ (.int .i64 rq2)).setCell ⟨hv, 6, none⟩ (.int .i64 rq3)).setCell ⟨hv, 7, none⟩ (.slice ao_r lr c_r)).setCell ⟨hv, 8, none⟩ (.slice bo_r mr d_r)) := ((((((((((Wr.refl (fun y => y = hv) _).setCell (p := ⟨hv, 0, none⟩) rfl _).setCell (p := ⟨hv, 1, none⟩) rfl _).setCell (p := ⟨hv, 2, none⟩) rfl _).setCell (p := ⟨hv, 3, none⟩) rfl _).setCell (p := ⟨hv, 4, none⟩) rfl _).setCell (p := ⟨hv, 5, none⟩) rfl _).setCell (p := ⟨hv, 6, none⟩) rfl _).setCell (p := ⟨hv, 7, none⟩) rfl _).setCell (p := ⟨hv, 8, none⟩) rfl _)
          have HW := hide hw
          clear hw
          refine hK.out _ _ ⟨(set9_other hn0).trans P4_0_0, (set9_other hn0).trans P4_0_1, (set9_other hn0).trans P4_0_2, (set9_other hn0).trans P4_0_3, (set9_other hn0).trans P4_0_4, (set9_other hn0).trans P4_0_5, (set9_other hn1).trans P4_1_0, (set9_other hn1).trans P4_1_1, (set9_other hn1).trans P4_1_2, (set9_other hn1).trans P4_1_3, (set9_other hn1).trans P4_1_4, (set9_other hn1).trans P4_1_5⟩ (fun _ => ?_)
          clear hK K
          try simp only [Act.put, List.setIfInBounds_toArray, List.set_cons_zero, List.set_cons_succ, List.getElem_toArray, List.getElem_cons_zero, List.getElem_cons_succ]
          refine wpAnyH_done (by kernel_rfl) ?_ _
          go_wp2_with fail
          go_meet
          case rel =>
            refine ⟨hv, ao_r, c_r, bo_r, d_r, rfl, hv2, by simpa using hvl, ⟨by simp [go_sem, Z_0], by simp [go_sem, Z_1], by simp [go_sem, Z_2], by simp [go_sem, Z_3], by simp [go_sem, Z_4], by simp [go_sem, Z_5], by simp [go_sem, Z_6], by simp [go_sem, Z_7], by simp [go_sem, Z_8]⟩, ?_, ?_⟩
            · exact IvR.up (O_r.out.wr HW.out (fun b h1 h2 => by show ¬ (b = hv); omega)) (by omega) (by first | (simp; done) | (simp; omega))
            · exact HB_4.out.trans (HW.out.below HB_4.out.size (fun b hb => by subst hb; exact hv2))
        · skip
          go_simp
          have hb := below_alloc v2w (.cells #[.int .i64 0, .int .i64 0, .int .i64 0, .int .i64 0, .int .i64 0, .int .i64 0, .int .i64 0, .slice none 0 0, .slice none 0 0] 34)
          refine hK.out _ _ ⟨cell_later hb P2_0_0, cell_later hb P2_0_1, cell_later hb P2_0_2, cell_later hb P2_0_3, cell_later hb P2_0_4, cell_later hb P2_0_5, cell_later hb P2_1_0, cell_later hb P2_1_1, cell_later hb P2_1_2, cell_later hb P2_1_3, cell_later hb P2_1_4, cell_later hb P2_1_5⟩ (fun _ => ?_)
          clear hK K
          try simp only [Act.put, List.setIfInBounds_toArray, List.set_cons_zero, List.set_cons_succ, List.getElem_toArray, List.getElem_cons_zero, List.getElem_cons_succ]
          refine forgetH (fun wx => (wx.cell? ⟨w.heap.size, 0, none⟩ = some (.int .i64 n0_0) ∧ wx.cell? ⟨w.heap.size, 1, none⟩ = some (.int .i64 n0_1) ∧ wx.cell? ⟨w.heap.size, 2, none⟩ = some (.int .i64 n0_2) ∧ wx.cell? ⟨w.heap.size, 3, none⟩ = some (.int .i64 n0_3) ∧ wx.cell? ⟨w.heap.size, 4, none⟩ = some (.slice ay0 l0 cy0) ∧ wx.cell? ⟨w.heap.size, 5, none⟩ = some (.slice az0 m0 cz0) ∧ wx.cell? ⟨w.heap.size + 1, 0, none⟩ = some (.int .i64 n1_0) ∧ wx.cell? ⟨w.heap.size + 1, 1, none⟩ = some (.int .i64 n1_1) ∧ wx.cell? ⟨w.heap.size + 1, 2, none⟩ = some (.int .i64 n1_2) ∧ wx.cell? ⟨w.heap.size + 1, 3, none⟩ = some (.int .i64 n1_3) ∧ wx.cell? ⟨w.heap.size + 1, 4, none⟩ = some (.slice ay1 l1 cy1) ∧ wx.cell? ⟨w.heap.size + 1, 5, none⟩ = some (.slice az1 m1 cz1)) ∧ Below v2w.heap.size v2w wx ∧ Var9 wx v2w.heap.size (.int .i64 0) (.int .i64 0) (.int .i64 0) (.int .i64 0) (.int .i64 0) (.int .i64 0) (.int .i64 0) (.slice none 0 0) (.slice none 0 0) ∧ (∀ o, wx.frozen? ⟨v2w.heap.size, o, none⟩ = false) ∧ v2w.heap.size < wx.heap.size) ⟨⟨cell_later hb P2_0_0, cell_later hb P2_0_1, cell_later hb P2_0_2, cell_later hb P2_0_3, cell_later hb P2_0_4, cell_later hb P2_0_5, cell_later hb P2_1_0, cell_later hb P2_1_1, cell_later hb P2_1_2, cell_later hb P2_1_3, cell_later hb P2_1_4, cell_later hb P2_1_5⟩, hb, Var9_new _ _ _ _ _ _ _ _ _ _ _ , fun o => by simp [go_sem], by simp⟩ ?_
          clear hb
          rintro v3w ⟨⟨P3_0_0, P3_0_1, P3_0_2, P3_0_3, P3_0_4, P3_0_5, P3_1_0, P3_1_1, P3_1_2, P3_1_3, P3_1_4, P3_1_5⟩, hb, za, zf, hvl⟩
          have HB_3 := hide (below_on HB_2.out hb)
          have hz_3 : v2w.heap.size ≤ v3w.heap.size := hb.size
          have O_0n := hide (O_0.out.later hb)
          clear O_0
          have O_0 := O_0n
          clear O_0n
          have O_1n := hide (O_1.out.later hb)
          clear O_1
          have O_1 := O_1n
          clear O_1n
          obtain ⟨hv, hhv⟩ : ∃ hv, v2w.heap.size = hv := ⟨_, rfl⟩
          have ZA := hide za
          have ZF := hide zf
          clear za zf hb
          rw [hhv] at ZA ZF hvl ⊢
          have hv2 : w2.heap.size ≤ hv := by omega
          have HHv := hide hhv
          clear hhv
          refine wpAnyH_ready (rs := [4]) (by kernel_rfl) (by simp) (AllReadyH.cons rfl (fun K hK => ?_) (AllReadyH.nil))
          go_simp
          go_at_call 7
          refine (HS.out _ _ _ _ _ _ _ _ _ O_0.out.rdI O_0.out.rdJ (by first | exact HCpH0.out | exact HCpx0.out | exact HCpW0.out | exact HCp_0.out) O_1.out.rdI O_1.out.rdJ (by first | exact HCpH1.out | exact HCpx1.out | exact HCpW1.out | exact HCp_1.out)).mono ?_
          rintro e v4w ⟨y_r, z_r, rfl, hb, ho⟩
          obtain ⟨ao_r, c_r, bo_r, d_r, hy_r, hz_r⟩ := ho.shape
          rw [HLr.out] at hy_r
          rw [HMr.out] at hz_r
          subst hy_r
          subst hz_r
          have P4_0_0 := cell_later hb P3_0_0
          have P4_0_1 := cell_later hb P3_0_1
          have P4_0_2 := cell_later hb P3_0_2
          have P4_0_3 := cell_later hb P3_0_3
          have P4_0_4 := cell_later hb P3_0_4
          have P4_0_5 := cell_later hb P3_0_5
          have P4_1_0 := cell_later hb P3_1_0
          have P4_1_1 := cell_later hb P3_1_1
          have P4_1_2 := cell_later hb P3_1_2
          have P4_1_3 := cell_later hb P3_1_3
          have P4_1_4 := cell_later hb P3_1_4
          have P4_1_5 := cell_later hb P3_1_5
          have HB_4 := hide (below_on HB_3.out hb)
          have hz_4 : v3w.heap.size ≤ v4w.heap.size := hb.size
          have O_0n := hide (O_0.out.later hb)
          clear O_0
          have O_0 := O_0n
          clear O_0n
          have O_1n := hide (O_1.out.later hb)
          clear O_1
          have O_1 := O_1n
          clear O_1n
          have O_r : Hid (IvR v3w.heap.size v4w.heap.size v4w (.slice ao_r lr c_r) (.slice bo_r mr d_r) rs rp) := ho
          have ZAn := hide (ZA.out.later hb)
          clear ZA
          have ZA := ZAn
          clear ZAn
          have ZFn : Hid (∀ o, v4w.frozen? ⟨hv, o, none⟩ = false) := fun o => ((bcell hb).2 _ _ hvl).trans (ZF.out o)
          clear ZF
          have ZF := ZFn
          clear ZFn
          have hdj : v4w.heap.size ≤ hv ∨ hv < v3w.heap.size := Or.inr hvl
          have hvl2 : hv < v4w.heap.size := by omega
          clear hvl
          have hvl := hvl2
          clear hvl2
          clear hb ho
          refine hK.out _ _ ⟨P4_0_0, P4_0_1, P4_0_2, P4_0_3, P4_0_4, P4_0_5, P4_1_0, P4_1_1, P4_1_2, P4_1_3, P4_1_4, P4_1_5⟩ (fun _ => ?_)
          clear hK K
          try simp only [Act.put, List.setIfInBounds_toArray, List.set_cons_zero, List.set_cons_succ, List.getElem_toArray, List.getElem_cons_zero, List.getElem_cons_succ]
          refine wpAnyH_ready (rs := [6]) (by kernel_rfl) (by simp) (AllReadyH.cons rfl (fun K hK => ?_) (AllReadyH.nil))
          obtain ⟨Z_0, Z_1, Z_2, Z_3, Z_4, Z_5, Z_6, Z_7, Z_8⟩ := ZA.out
          have Y_0 := ZF.out 0
          have Y_1 := ZF.out 1
          have Y_2 := ZF.out 2
          have Y_3 := ZF.out 3
          have Y_4 := ZF.out 4
          have Y_5 := ZF.out 5
          have Y_6 := ZF.out 6
          have Y_7 := ZF.out 7
          have Y_8 := ZF.out 8
          go_simp
          have hn0 : w.heap.size ≠ hv := by omega
          have hn1 : w.heap.size + 1 ≠ hv := by omega
          have hw : Wr (fun y => y = hv) v4w (((((((((v4w.setCell ⟨hv, 0, none⟩ (.int .i64 code)).setCell ⟨hv, 1, none⟩ (.int .i64 rep)).setCell ⟨hv, 2, none⟩ (.int .i64 vlu)).setCell ⟨hv, 3, none⟩ (.int .i64 rq0)).setCell ⟨hv, 4, none⟩ (.int .i64 rq1)).setCell ⟨hv, 5, none⟩ (.int .i64 rq2)).setCell ⟨hv, 6, none⟩ (.int .i64 rq3)).setCell ⟨hv, 7, none⟩ (.slice ao_r lr c_r)).setCell ⟨hv, 8, none⟩ (.slice bo_r mr d_r)) := ((((((((((Wr.refl (fun y => y = hv) _).setCell (p := ⟨hv, 0, none⟩) rfl _).setCell (p := ⟨hv, 1, none⟩) rfl _).setCell (p := ⟨hv, 2, none⟩) rfl _).setCell (p := ⟨hv, 3, none⟩) rfl _).setCell (p := ⟨hv, 4, none⟩) rfl _).setCell (p := ⟨hv, 5, none⟩) rfl _).setCell (p := ⟨hv, 6, none⟩) rfl _).setCell (p := ⟨hv, 7, none⟩) rfl _).setCell (p := ⟨hv, 8, none⟩) rfl _)
          have HW := hide hw
          clear hw
          refine hK.out _ _ ⟨(set9_other hn0).trans P4_0_0, (set9_other hn0).trans P4_0_1, (set9_other hn0).trans P4_0_2, (set9_other hn0).trans P4_0_3, (set9_other hn0).trans P4_0_4, (set9_other hn0).trans P4_0_5, (set9_other hn1).trans P4_1_0, (set9_other hn1).trans P4_1_1, (set9_other hn1).trans P4_1_2, (set9_other hn1).trans P4_1_3, (set9_other hn1).trans P4_1_4, (set9_other hn1).trans P4_1_5⟩ (fun _ => ?_)
          clear hK K
          try simp only [Act.put, List.setIfInBounds_toArray, List.set_cons_zero, List.set_cons_succ, List.getElem_toArray, List.getElem_cons_zero, List.getElem_cons_succ]
          refine wpAnyH_done (by kernel_rfl) ?_ _
          go_wp2_with fail
          go_meet
          case rel =>
            refine ⟨hv, ao_r, c_r, bo_r, d_r, rfl, hv2, by simpa using hvl, ⟨by simp [go_sem, Z_0], by simp [go_sem, Z_1], by simp [go_sem, Z_2], by simp [go_sem, Z_3], by simp [go_sem, Z_4], by simp [go_sem, Z_5], by simp [go_sem, Z_6], by simp [go_sem, Z_7], by simp [go_sem, Z_8]⟩, ?_, ?_⟩
            · exact IvR.up (O_r.out.wr HW.out (fun b h1 h2 => by show ¬ (b = hv); omega)) (by omega) (by first | (simp; done) | (simp; omega))
            · exact HB_4.out.trans (HW.out.below HB_4.out.size (fun b hb => by subst hb; exact hv2))
      · skip
        go_simp
        have hb := below_alloc v1w (.cells #[.int .i64 0, .int .i64 0, .int .i64 0, .int .i64 0, .int .i64 0, .int .i64 0, .int .i64 0, .slice none 0 0, .slice none 0 0] 34)
        refine hK.out _ _ ⟨cell_later hb P1_0_0, cell_later hb P1_0_1, cell_later hb P1_0_2, cell_later hb P1_0_3, cell_later hb P1_0_4, cell_later hb P1_0_5, cell_later hb P1_1_0, cell_later hb P1_1_1, cell_later hb P1_1_2, cell_later hb P1_1_3, cell_later hb P1_1_4, cell_later hb P1_1_5⟩ (fun _ => ?_)
        clear hK K
        try simp only [Act.put, List.setIfInBounds_toArray, List.set_cons_zero, List.set_cons_succ, List.getElem_toArray, List.getElem_cons_zero, List.getElem_cons_succ]
        refine forgetH (fun wx => (wx.cell? ⟨w.heap.size, 0, none⟩ = some (.int .i64 n0_0) ∧ wx.cell? ⟨w.heap.size, 1, none⟩ = some (.int .i64 n0_1) ∧ wx.cell? ⟨w.heap.size, 2, none⟩ = some (.int .i64 n0_2) ∧ wx.cell? ⟨w.heap.size, 3, none⟩ = some (.int .i64 n0_3) ∧ wx.cell? ⟨w.heap.size, 4, none⟩ = some (.slice ay0 l0 cy0) ∧ wx.cell? ⟨w.heap.size, 5, none⟩ = some (.slice az0 m0 cz0) ∧ wx.cell? ⟨w.heap.size + 1, 0, none⟩ = some (.int .i64 n1_0) ∧ wx.cell? ⟨w.heap.size + 1, 1, none⟩ = some (.int .i64 n1_1) ∧ wx.cell? ⟨w.heap.size + 1, 2, none⟩ = some (.int .i64 n1_2) ∧ wx.cell? ⟨w.heap.size + 1, 3, none⟩ = some (.int .i64 n1_3) ∧ wx.cell? ⟨w.heap.size + 1, 4, none⟩ = some (.slice ay1 l1 cy1) ∧ wx.cell? ⟨w.heap.size + 1, 5, none⟩ = some (.slice az1 m1 cz1)) ∧ Below v1w.heap.size v1w wx ∧ Var9 wx v1w.heap.size (.int .i64 0) (.int .i64 0) (.int .i64 0) (.int .i64 0) (.int .i64 0) (.int .i64 0) (.int .i64 0) (.slice none 0 0) (.slice none 0 0) ∧ (∀ o, wx.frozen? ⟨v1w.heap.size, o, none⟩ = false) ∧ v1w.heap.size < wx.heap.size) ⟨⟨cell_later hb P1_0_0, cell_later hb P1_0_1, cell_later hb P1_0_2, cell_later hb P1_0_3, cell_later hb P1_0_4, cell_later hb P1_0_5, cell_later hb P1_1_0, cell_later hb P1_1_1, cell_later hb P1_1_2, cell_later hb P1_1_3, cell_later hb P1_1_4, cell_later hb P1_1_5⟩, hb, Var9_new _ _ _ _ _ _ _ _ _ _ _ , fun o => by simp [go_sem], by simp⟩ ?_
        clear hb
        rintro v2w ⟨⟨P2_0_0, P2_0_1, P2_0_2, P2_0_3, P2_0_4, P2_0_5, P2_1_0, P2_1_1, P2_1_2, P2_1_3, P2_1_4, P2_1_5⟩, hb, za, zf, hvl⟩
        have HB_2 := hide (below_on HB_1.out hb)
        have hz_2 : v1w.heap.size ≤ v2w.heap.size := hb.size
        have O_0n := hide (O_0.out.later hb)
        clear O_0
        have O_0 := O_0n
        clear O_0n
        obtain ⟨hv, hhv⟩ : ∃ hv, v1w.heap.size = hv := ⟨_, rfl⟩
        have ZA := hide za
        have ZF := hide zf
        clear za zf hb
        rw [hhv] at ZA ZF hvl ⊢
        have hv2 : w2.heap.size ≤ hv := by omega
        have HHv := hide hhv
        clear hhv
        refine wpAnyH_ready (rs := [3]) (by kernel_rfl) (by simp) (AllReadyH.cons rfl (fun K hK => ?_) (AllReadyH.nil))
        go_simp
        go_at_call 9
        refine (toOpC n1_0 n1_1 n1_2 n1_3 (HY1.out.later (below_on BB.out HB_2.out)) (HZZ1.out.later (below_on BB.out HB_2.out)) (by rw [HL1.out]; exact hxl1) HQ1.out.1 HQ1.out.2.1).mono ?_
        rintro e v3w ⟨y_1, z_1, rfl, hb, ho, hcp⟩
        obtain ⟨ao_1, c_1, bo_1, d_1, hy_1, hz_1⟩ := ho.shape
        rw [HL1.out] at hy_1
        rw [HM1.out] at hz_1
        subst hy_1
        subst hz_1
        have HCp_1 := hide hcp
        clear hcp
        have P3_0_0 := cell_later hb P2_0_0
        have P3_0_1 := cell_later hb P2_0_1
        have P3_0_2 := cell_later hb P2_0_2
        have P3_0_3 := cell_later hb P2_0_3
        have P3_0_4 := cell_later hb P2_0_4
        have P3_0_5 := cell_later hb P2_0_5
        have P3_1_0 := cell_later hb P2_1_0
        have P3_1_1 := cell_later hb P2_1_1
        have P3_1_2 := cell_later hb P2_1_2
        have P3_1_3 := cell_later hb P2_1_3
        have P3_1_4 := cell_later hb P2_1_4
        have P3_1_5 := cell_later hb P2_1_5
        have HB_3 := hide (below_on HB_2.out hb)
        have hz_3 : v2w.heap.size ≤ v3w.heap.size := hb.size
        have O_0n := hide (O_0.out.later hb)
        clear O_0
        have O_0 := O_0n
        clear O_0n
        have O_1 := hide (ho)
        have ZAn := hide (ZA.out.later hb)
        clear ZA
        have ZA := ZAn
        clear ZAn
        have ZFn : Hid (∀ o, v3w.frozen? ⟨hv, o, none⟩ = false) := fun o => ((bcell hb).2 _ _ hvl).trans (ZF.out o)
        clear ZF
        have ZF := ZFn
        clear ZFn
        have hvl2 : hv < v3w.heap.size := by omega
        clear hvl
        have hvl := hvl2
        clear hvl2
        clear hb ho
        refine hK.out _ _ ⟨P3_0_0, P3_0_1, P3_0_2, P3_0_3, P3_0_4, P3_0_5, P3_1_0, P3_1_1, P3_1_2, P3_1_3, P3_1_4, P3_1_5⟩ (fun _ => ?_)
        clear hK K
        try simp only [Act.put, List.setIfInBounds_toArray, List.set_cons_zero, List.set_cons_succ, List.getElem_toArray, List.getElem_cons_zero, List.getElem_cons_succ]
        refine wpAnyH_ready (rs := [4]) (by kernel_rfl) (by simp) (AllReadyH.cons rfl (fun K hK => ?_) (AllReadyH.nil))
        go_simp
        go_at_call 7
        refine (HS.out _ _ _ _ _ _ _ _ _ O_0.out.rdI O_0.out.rdJ (by first | exact HCpH0.out | exact HCpx0.out | exact HCpW0.out | exact HCp_0.out) O_1.out.rdI O_1.out.rdJ (by first | exact HCpH1.out | exact HCpx1.out | exact HCpW1.out | exact HCp_1.out)).mono ?_
        rintro e v4w ⟨y_r, z_r, rfl, hb, ho⟩
        obtain ⟨ao_r, c_r, bo_r, d_r, hy_r, hz_r⟩ := ho.shape
        rw [HLr.out] at hy_r
        rw [HMr.out] at hz_r
        subst hy_r
        subst hz_r
        have P4_0_0 := cell_later hb P3_0_0
        have P4_0_1 := cell_later hb P3_0_1
        have P4_0_2 := cell_later hb P3_0_2
        have P4_0_3 := cell_later hb P3_0_3
        have P4_0_4 := cell_later hb P3_0_4
        have P4_0_5 := cell_later hb P3_0_5
        have P4_1_0 := cell_later hb P3_1_0
        have P4_1_1 := cell_later hb P3_1_1
        have P4_1_2 := cell_later hb P3_1_2
        have P4_1_3 := cell_later hb P3_1_3
        have P4_1_4 := cell_later hb P3_1_4
        have P4_1_5 := cell_later hb P3_1_5
        have HB_4 := hide (below_on HB_3.out hb)
        have hz_4 : v3w.heap.size ≤ v4w.heap.size := hb.size
        have O_0n := hide (O_0.out.later hb)
        clear O_0
        have O_0 := O_0n
        clear O_0n
        have O_1n := hide (O_1.out.later hb)
        clear O_1
        have O_1 := O_1n
        clear O_1n
        have O_r : Hid (IvR v3w.heap.size v4w.heap.size v4w (.slice ao_r lr c_r) (.slice bo_r mr d_r) rs rp) := ho
        have ZAn := hide (ZA.out.later hb)
        clear ZA
        have ZA := ZAn
        clear ZAn
        have ZFn : Hid (∀ o, v4w.frozen? ⟨hv, o, none⟩ = false) := fun o => ((bcell hb).2 _ _ hvl).trans (ZF.out o)
        clear ZF
        have ZF := ZFn
        clear ZFn
        have hdj : v4w.heap.size ≤ hv ∨ hv < v3w.heap.size := Or.inr hvl
        have hvl2 : hv < v4w.heap.size := by omega
        clear hvl
        have hvl := hvl2
        clear hvl2
        clear hb ho
        refine hK.out _ _ ⟨P4_0_0, P4_0_1, P4_0_2, P4_0_3, P4_0_4, P4_0_5, P4_1_0, P4_1_1, P4_1_2, P4_1_3, P4_1_4, P4_1_5⟩ (fun _ => ?_)
        clear hK K
        try simp only [Act.put, List.setIfInBounds_toArray, List.set_cons_zero, List.set_cons_succ, List.getElem_toArray, List.getElem_cons_zero, List.getElem_cons_succ]
        refine wpAnyH_ready (rs := [6]) (by kernel_rfl) (by simp) (AllReadyH.cons rfl (fun K hK => ?_) (AllReadyH.nil))
        obtain ⟨Z_0, Z_1, Z_2, Z_3, Z_4, Z_5, Z_6, Z_7, Z_8⟩ := ZA.out
        have Y_0 := ZF.out 0
        have Y_1 := ZF.out 1
        have Y_2 := ZF.out 2
        have Y_3 := ZF.out 3
        have Y_4 := ZF.out 4
        have Y_5 := ZF.out 5
        have Y_6 := ZF.out 6
        have Y_7 := ZF.out 7
        have Y_8 := ZF.out 8
        go_simp
        have hn0 : w.heap.size ≠ hv := by omega
        have hn1 : w.heap.size + 1 ≠ hv := by omega
        have hw : Wr (fun y => y = hv) v4w (((((((((v4w.setCell ⟨hv, 0, none⟩ (.int .i64 code)).setCell ⟨hv, 1, none⟩ (.int .i64 rep)).setCell ⟨hv, 2, none⟩ (.int .i64 vlu)).setCell ⟨hv, 3, none⟩ (.int .i64 rq0)).setCell ⟨hv, 4, none⟩ (.int .i64 rq1)).setCell ⟨hv, 5, none⟩ (.int .i64 rq2)).setCell ⟨hv, 6, none⟩ (.int .i64 rq3)).setCell ⟨hv, 7, none⟩ (.slice ao_r lr c_r)).setCell ⟨hv, 8, none⟩ (.slice bo_r mr d_r)) := ((((((((((Wr.refl (fun y => y = hv) _).setCell (p := ⟨hv, 0, none⟩) rfl _).setCell (p := ⟨hv, 1, none⟩) rfl _).setCell (p := ⟨hv, 2, none⟩) rfl _).setCell (p := ⟨hv, 3, none⟩) rfl _).setCell (p := ⟨hv, 4, none⟩) rfl _).setCell (p := ⟨hv, 5, none⟩) rfl _).setCell (p := ⟨hv, 6, none⟩) rfl _).setCell (p := ⟨hv, 7, none⟩) rfl _).setCell (p := ⟨hv, 8, none⟩) rfl _)
        have HW := hide hw
        clear hw
        refine hK.out _ _ ⟨(set9_other hn0).trans P4_0_0, (set9_other hn0).trans P4_0_1, (set9_other hn0).trans P4_0_2, (set9_other hn0).trans P4_0_3, (set9_other hn0).trans P4_0_4, (set9_other hn0).trans P4_0_5, (set9_other hn1).trans P4_1_0, (set9_other hn1).trans P4_1_1, (set9_other hn1).trans P4_1_2, (set9_other hn1).trans P4_1_3, (set9_other hn1).trans P4_1_4, (set9_other hn1).trans P4_1_5⟩ (fun _ => ?_)
        clear hK K
        try simp only [Act.put, List.setIfInBounds_toArray, List.set_cons_zero, List.set_cons_succ, List.getElem_toArray, List.getElem_cons_zero, List.getElem_cons_succ]
        refine wpAnyH_done (by kernel_rfl) ?_ _
        go_wp2_with fail
        go_meet
        case rel =>
          refine ⟨hv, ao_r, c_r, bo_r, d_r, rfl, hv2, by simpa using hvl, ⟨by simp [go_sem, Z_0], by simp [go_sem, Z_1], by simp [go_sem, Z_2], by simp [go_sem, Z_3], by simp [go_sem, Z_4], by simp [go_sem, Z_5], by simp [go_sem, Z_6], by simp [go_sem, Z_7], by simp [go_sem, Z_8]⟩, ?_, ?_⟩
          · exact IvR.up (O_r.out.wr HW.out (fun b h1 h2 => by show ¬ (b = hv); omega)) (by omega) (by first | (simp; done) | (simp; omega))
          · exact HB_4.out.trans (HW.out.below HB_4.out.size (fun b hb => by subst hb; exact hv2))
    · skip
      go_simp
      have hb := below_alloc v0w (.cells #[.int .i64 0, .int .i64 0, .int .i64 0, .int .i64 0, .int .i64 0, .int .i64 0, .int .i64 0, .slice none 0 0, .slice none 0 0] 34)
      refine hK.out _ _ ⟨cell_later hb P0_0_0, cell_later hb P0_0_1, cell_later hb P0_0_2, cell_later hb P0_0_3, cell_later hb P0_0_4, cell_later hb P0_0_5, cell_later hb P0_1_0, cell_later hb P0_1_1, cell_later hb P0_1_2, cell_later hb P0_1_3, cell_later hb P0_1_4, cell_later hb P0_1_5⟩ (fun _ => ?_)
      clear hK K
      try simp only [Act.put, List.setIfInBounds_toArray, List.set_cons_zero, List.set_cons_succ, List.getElem_toArray, List.getElem_cons_zero, List.getElem_cons_succ]
      refine forgetH (fun wx => (wx.cell? ⟨w.heap.size, 0, none⟩ = some (.int .i64 n0_0) ∧ wx.cell? ⟨w.heap.size, 1, none⟩ = some (.int .i64 n0_1) ∧ wx.cell? ⟨w.heap.size, 2, none⟩ = some (.int .i64 n0_2) ∧ wx.cell? ⟨w.heap.size, 3, none⟩ = some (.int .i64 n0_3) ∧ wx.cell? ⟨w.heap.size, 4, none⟩ = some (.slice ay0 l0 cy0) ∧ wx.cell? ⟨w.heap.size, 5, none⟩ = some (.slice az0 m0 cz0) ∧ wx.cell? ⟨w.heap.size + 1, 0, none⟩ = some (.int .i64 n1_0) ∧ wx.cell? ⟨w.heap.size + 1, 1, none⟩ = some (.int .i64 n1_1) ∧ wx.cell? ⟨w.heap.size + 1, 2, none⟩ = some (.int .i64 n1_2) ∧ wx.cell? ⟨w.heap.size + 1, 3, none⟩ = some (.int .i64 n1_3) ∧ wx.cell? ⟨w.heap.size + 1, 4, none⟩ = some (.slice ay1 l1 cy1) ∧ wx.cell? ⟨w.heap.size + 1, 5, none⟩ = some (.slice az1 m1 cz1)) ∧ Below v0w.heap.size v0w wx ∧ Var9 wx v0w.heap.size (.int .i64 0) (.int .i64 0) (.int .i64 0) (.int .i64 0) (.int .i64 0) (.int .i64 0) (.int .i64 0) (.slice none 0 0) (.slice none 0 0) ∧ (∀ o, wx.frozen? ⟨v0w.heap.size, o, none⟩ = false) ∧ v0w.heap.size < wx.heap.size) ⟨⟨cell_later hb P0_0_0, cell_later hb P0_0_1, cell_later hb P0_0_2, cell_later hb P0_0_3, cell_later hb P0_0_4, cell_later hb P0_0_5, cell_later hb P0_1_0, cell_later hb P0_1_1, cell_later hb P0_1_2, cell_later hb P0_1_3, cell_later hb P0_1_4, cell_later hb P0_1_5⟩, hb, Var9_new _ _ _ _ _ _ _ _ _ _ _ , fun o => by simp [go_sem], by simp⟩ ?_
      clear hb
      rintro v1w ⟨⟨P1_0_0, P1_0_1, P1_0_2, P1_0_3, P1_0_4, P1_0_5, P1_1_0, P1_1_1, P1_1_2, P1_1_3, P1_1_4, P1_1_5⟩, hb, za, zf, hvl⟩
      have HB_1 := hide (below_on HB_0.out hb)
      have hz_1 : v0w.heap.size ≤ v1w.heap.size := hb.size
      obtain ⟨hv, hhv⟩ : ∃ hv, v0w.heap.size = hv := ⟨_, rfl⟩
      have ZA := hide za
      have ZF := hide zf
      clear za zf hb
      rw [hhv] at ZA ZF hvl ⊢
      have hv2 : w2.heap.size ≤ hv := by omega
      have HHv := hide hhv
      clear hhv
      refine wpAnyH_ready (rs := [1]) (by kernel_rfl) (by simp) (AllReadyH.cons rfl (fun K hK => ?_) (AllReadyH.nil))
      go_simp
      go_at_call 8
      refine (toRaftC n0_0 n0_1 n0_2 n0_3 (HY0.out.later (below_on BB.out HB_1.out)) (HZZ0.out.later (below_on BB.out HB_1.out)) (by rw [HL0.out]; exact hxl0) HQ0.out.1 HQ0.out.2.1).mono ?_
      rintro e v2w ⟨y_0, z_0, rfl, hb, ho, hcp⟩
      obtain ⟨ao_0, c_0, bo_0, d_0, hy_0, hz_0⟩ := ho.shape
      rw [HL0.out] at hy_0
      rw [HM0.out] at hz_0
      subst hy_0
      subst hz_0
      have HCp_0 := hide hcp
      clear hcp
      have P2_0_0 := cell_later hb P1_0_0
      have P2_0_1 := cell_later hb P1_0_1
      have P2_0_2 := cell_later hb P1_0_2
      have P2_0_3 := cell_later hb P1_0_3
      have P2_0_4 := cell_later hb P1_0_4
      have P2_0_5 := cell_later hb P1_0_5
      have P2_1_0 := cell_later hb P1_1_0
      have P2_1_1 := cell_later hb P1_1_1
      have P2_1_2 := cell_later hb P1_1_2
      have P2_1_3 := cell_later hb P1_1_3
      have P2_1_4 := cell_later hb P1_1_4
      have P2_1_5 := cell_later hb P1_1_5
      have HB_2 := hide (below_on HB_1.out hb)
      have hz_2 : v1w.heap.size ≤ v2w.heap.size := hb.size
      have O_0 := hide (ho)
      have ZAn := hide (ZA.out.later hb)
      clear ZA
      have ZA := ZAn
      clear ZAn
      have ZFn : Hid (∀ o, v2w.frozen? ⟨hv, o, none⟩ = false) := fun o => ((bcell hb).2 _ _ hvl).trans (ZF.out o)
      clear ZF
      have ZF := ZFn
      clear ZFn
      have hvl2 : hv < v2w.heap.size := by omega
      clear hvl
      have hvl := hvl2
      clear hvl2
      clear hb ho
      refine hK.out _ _ ⟨P2_0_0, P2_0_1, P2_0_2, P2_0_3, P2_0_4, P2_0_5, P2_1_0, P2_1_1, P2_1_2, P2_1_3, P2_1_4, P2_1_5⟩ (fun _ => ?_)
      clear hK K
      try simp only [Act.put, List.setIfInBounds_toArray, List.set_cons_zero, List.set_cons_succ, List.getElem_toArray, List.getElem_cons_zero, List.getElem_cons_succ]
      refine wpAnyH_ready (rs := [3]) (by kernel_rfl) (by simp) (AllReadyH.cons rfl (fun K hK => ?_) (AllReadyH.nil))
      go_simp
      go_at_call 9
      refine (toOpC n1_0 n1_1 n1_2 n1_3 (HY1.out.later (below_on BB.out HB_2.out)) (HZZ1.out.later (below_on BB.out HB_2.out)) (by rw [HL1.out]; exact hxl1) HQ1.out.1 HQ1.out.2.1).mono ?_
      rintro e v3w ⟨y_1, z_1, rfl, hb, ho, hcp⟩
      obtain ⟨ao_1, c_1, bo_1, d_1, hy_1, hz_1⟩ := ho.shape
      rw [HL1.out] at hy_1
      rw [HM1.out] at hz_1
      subst hy_1
      subst hz_1
      have HCp_1 := hide hcp
      clear hcp
      have P3_0_0 := cell_later hb P2_0_0
      have P3_0_1 := cell_later hb P2_0_1
      have P3_0_2 := cell_later hb P2_0_2
      have P3_0_3 := cell_later hb P2_0_3
      have P3_0_4 := cell_later hb P2_0_4
      have P3_0_5 := cell_later hb P2_0_5
      have P3_1_0 := cell_later hb P2_1_0
      have P3_1_1 := cell_later hb P2_1_1
      have P3_1_2 := cell_later hb P2_1_2
      have P3_1_3 := cell_later hb P2_1_3
      have P3_1_4 := cell_later hb P2_1_4
      have P3_1_5 := cell_later hb P2_1_5
      have HB_3 := hide (below_on HB_2.out hb)
      have hz_3 : v2w.heap.size ≤ v3w.heap.size := hb.size
      have O_0n := hide (O_0.out.later hb)
      clear O_0
      have O_0 := O_0n
      clear O_0n
      have O_1 := hide (ho)
      have ZAn := hide (ZA.out.later hb)
      clear ZA
      have ZA := ZAn
      clear ZAn
      have ZFn : Hid (∀ o, v3w.frozen? ⟨hv, o, none⟩ = false) := fun o => ((bcell hb).2 _ _ hvl).trans (ZF.out o)
      clear ZF
      have ZF := ZFn
      clear ZFn
      have hvl2 : hv < v3w.heap.size := by omega
      clear hvl
      have hvl := hvl2
      clear hvl2
      clear hb ho
      refine hK.out _ _ ⟨P3_0_0, P3_0_1, P3_0_2, P3_0_3, P3_0_4, P3_0_5, P3_1_0, P3_1_1, P3_1_2, P3_1_3, P3_1_4, P3_1_5⟩ (fun _ => ?_)
      clear hK K
      try simp only [Act.put, List.setIfInBounds_toArray, List.set_cons_zero, List.set_cons_succ, List.getElem_toArray, List.getElem_cons_zero, List.getElem_cons_succ]
      refine wpAnyH_ready (rs := [4]) (by kernel_rfl) (by simp) (AllReadyH.cons rfl (fun K hK => ?_) (AllReadyH.nil))
      go_simp
      go_at_call 7
      refine (HS.out _ _ _ _ _ _ _ _ _ O_0.out.rdI O_0.out.rdJ (by first | exact HCpH0.out | exact HCpx0.out | exact HCpW0.out | exact HCp_0.out) O_1.out.rdI O_1.out.rdJ (by first | exact HCpH1.out | exact HCpx1.out | exact HCpW1.out | exact HCp_1.out)).mono ?_
      rintro e v4w ⟨y_r, z_r, rfl, hb, ho⟩
      obtain ⟨ao_r, c_r, bo_r, d_r, hy_r, hz_r⟩ := ho.shape
      rw [HLr.out] at hy_r
      rw [HMr.out] at hz_r
      subst hy_r
      subst hz_r
      have P4_0_0 := cell_later hb P3_0_0
      have P4_0_1 := cell_later hb P3_0_1
      have P4_0_2 := cell_later hb P3_0_2
      have P4_0_3 := cell_later hb P3_0_3
      have P4_0_4 := cell_later hb P3_0_4
      have P4_0_5 := cell_later hb P3_0_5
      have P4_1_0 := cell_later hb P3_1_0
      have P4_1_1 := cell_later hb P3_1_1
      have P4_1_2 := cell_later hb P3_1_2
      have P4_1_3 := cell_later hb P3_1_3
      have P4_1_4 := cell_later hb P3_1_4
      have P4_1_5 := cell_later hb P3_1_5
      have HB_4 := hide (below_on HB_3.out hb)
      have hz_4 : v3w.heap.size ≤ v4w.heap.size := hb.size
      have O_0n := hide (O_0.out.later hb)
      clear O_0
      have O_0 := O_0n
      clear O_0n
      have O_1n := hide (O_1.out.later hb)
      clear O_1
      have O_1 := O_1n
      clear O_1n
      have O_r : Hid (IvR v3w.heap.size v4w.heap.size v4w (.slice ao_r lr c_r) (.slice bo_r mr d_r) rs rp) := ho
      have ZAn := hide (ZA.out.later hb)
      clear ZA
      have ZA := ZAn
      clear ZAn
      have ZFn : Hid (∀ o, v4w.frozen? ⟨hv, o, none⟩ = false) := fun o => ((bcell hb).2 _ _ hvl).trans (ZF.out o)
      clear ZF
      have ZF := ZFn
      clear ZFn
      have hdj : v4w.heap.size ≤ hv ∨ hv < v3w.heap.size := Or.inr hvl
      have hvl2 : hv < v4w.heap.size := by omega
      clear hvl
      have hvl := hvl2
      clear hvl2
      clear hb ho
      refine hK.out _ _ ⟨P4_0_0, P4_0_1, P4_0_2, P4_0_3, P4_0_4, P4_0_5, P4_1_0, P4_1_1, P4_1_2, P4_1_3, P4_1_4, P4_1_5⟩ (fun _ => ?_)
      clear hK K
      try simp only [Act.put, List.setIfInBounds_toArray, List.set_cons_zero, List.set_cons_succ, List.getElem_toArray, List.getElem_cons_zero, List.getElem_cons_succ]
      refine wpAnyH_ready (rs := [6]) (by kernel_rfl) (by simp) (AllReadyH.cons rfl (fun K hK => ?_) (AllReadyH.nil))
      obtain ⟨Z_0, Z_1, Z_2, Z_3, Z_4, Z_5, Z_6, Z_7, Z_8⟩ := ZA.out
      have Y_0 := ZF.out 0
      have Y_1 := ZF.out 1
      have Y_2 := ZF.out 2
      have Y_3 := ZF.out 3
      have Y_4 := ZF.out 4
      have Y_5 := ZF.out 5
      have Y_6 := ZF.out 6
      have Y_7 := ZF.out 7
      have Y_8 := ZF.out 8
      go_simp
      have hn0 : w.heap.size ≠ hv := by omega
      have hn1 : w.heap.size + 1 ≠ hv := by omega
      have hw : Wr (fun y => y = hv) v4w (((((((((v4w.setCell ⟨hv, 0, none⟩ (.int .i64 code)).setCell ⟨hv, 1, none⟩ (.int .i64 rep)).setCell ⟨hv, 2, none⟩ (.int .i64 vlu)).setCell ⟨hv, 3, none⟩ (.int .i64 rq0)).setCell ⟨hv, 4, none⟩ (.int .i64 rq1)).setCell ⟨hv, 5, none⟩ (.int .i64 rq2)).setCell ⟨hv, 6, none⟩ (.int .i64 rq3)).setCell ⟨hv, 7, none⟩ (.slice ao_r lr c_r)).setCell ⟨hv, 8, none⟩ (.slice bo_r mr d_r)) := ((((((((((Wr.refl (fun y => y = hv) _).setCell (p := ⟨hv, 0, none⟩) rfl _).setCell (p := ⟨hv, 1, none⟩) rfl _).setCell (p := ⟨hv, 2, none⟩) rfl _).setCell (p := ⟨hv, 3, none⟩) rfl _).setCell (p := ⟨hv, 4, none⟩) rfl _).setCell (p := ⟨hv, 5, none⟩) rfl _).setCell (p := ⟨hv, 6, none⟩) rfl _).setCell (p := ⟨hv, 7, none⟩) rfl _).setCell (p := ⟨hv, 8, none⟩) rfl _)
      have HW := hide hw
      clear hw
      refine hK.out _ _ ⟨(set9_other hn0).trans P4_0_0, (set9_other hn0).trans P4_0_1, (set9_other hn0).trans P4_0_2, (set9_other hn0).trans P4_0_3, (set9_other hn0).trans P4_0_4, (set9_other hn0).trans P4_0_5, (set9_other hn1).trans P4_1_0, (set9_other hn1).trans P4_1_1, (set9_other hn1).trans P4_1_2, (set9_other hn1).trans P4_1_3, (set9_other hn1).trans P4_1_4, (set9_other hn1).trans P4_1_5⟩ (fun _ => ?_)
      clear hK K
      try simp only [Act.put, List.setIfInBounds_toArray, List.set_cons_zero, List.set_cons_succ, List.getElem_toArray, List.getElem_cons_zero, List.getElem_cons_succ]
      refine wpAnyH_done (by kernel_rfl) ?_ _
      go_wp2_with fail
      go_meet
      case rel =>
        refine ⟨hv, ao_r, c_r, bo_r, d_r, rfl, hv2, by simpa using hvl, ⟨by simp [go_sem, Z_0], by simp [go_sem, Z_1], by simp [go_sem, Z_2], by simp [go_sem, Z_3], by simp [go_sem, Z_4], by simp [go_sem, Z_5], by simp [go_sem, Z_6], by simp [go_sem, Z_7], by simp [go_sem, Z_8]⟩, ?_, ?_⟩
        · exact IvR.up (O_r.out.wr HW.out (fun b h1 h2 => by show ¬ (b = hv); omega)) (by omega) (by first | (simp; done) | (simp; omega))
        · exact HB_4.out.trans (HW.out.below HB_4.out.size (fun b hb => by subst hb; exact hv2))
  case rest =>
    obtain ⟨hvW, aoW, cW, boW, dW, rfl, hgW, hlW, HW⟩ := hcut
    obtain ⟨hV, hI, hb⟩ := HW.out
    clear HW
    clear p0_lt p0_0 p0_1 p0_2 p0_3 p0_4 p0_5
    clear p1_lt p1_0 p1_1 p1_2 p1_3 p1_4 p1_5
    have N_W := hide hI
    have N_vW := hide hV
    have z_W : w2.heap.size ≤ wc.heap.size := hb.size
    have G_b0 := hide (F_b0.out.later hb)
    have G_b1 := hide (F_b1.out.later hb)
    have BC := hide (below_on BB.out hb)
    clear F_b0
    have F_b0 := G_b0
    clear G_b0
    clear F_b1
    have F_b1 := G_b1
    clear G_b1
    clear BB
    have BB := BC
    clear BC
    clear hb hI hV
    have F_W := N_W
    clear N_W
    have F_vW := N_vW
    clear N_vW
    obtain ⟨w3, hw3⟩ : ∃ x, wc = x := ⟨_, rfl⟩
    subst hw3
    have p0_lt := F_b0.out.lt
    obtain ⟨p0_0, p0_1, p0_2, p0_3, p0_4, p0_5⟩ := F_b0.out
    (try simp only [Nat.add_zero] at p0_lt)
    have p1_lt := F_b1.out.lt
    obtain ⟨p1_0, p1_1, p1_2, p1_3, p1_4, p1_5⟩ := F_b1.out
    (try simp only [Nat.add_zero] at p1_lt)
    go_wp2_with fail
    refine (toRaftC n0_0 n0_1 n0_2 n0_3 (HY0.out.later BB.out) (HZZ0.out.later BB.out) (by rw [HL0.out]; exact hxl0) HQ0.out.1 HQ0.out.2.1).mono ?_
    rintro e w4 ⟨yx0, zx0, rfl, hb, ho, hcp⟩
    obtain ⟨aox0, cx0, box0, dx0, hyx0, hzx0⟩ := ho.shape
    rw [HL0.out] at hyx0
    rw [HM0.out] at hzx0
    subst hyx0
    subst hzx0
    have HCpx0 := hide hcp
    clear hcp
    have G_b0 := hide (F_b0.out.later hb)
    have G_b1 := hide (F_b1.out.later hb)
    have G_W := hide (F_W.out.later hb)
    have G_vW := hide (F_vW.out.later hb)
    have BC := hide (below_on BB.out hb)
    have z_w4 : wc.heap.size ≤ w4.heap.size := by have := hb.size; simpa using this
    have N_x0 := hide (ho)
    clear p0_lt p0_0 p0_1 p0_2 p0_3 p0_4 p0_5
    clear p1_lt p1_0 p1_1 p1_2 p1_3 p1_4 p1_5
    clear F_b0
    have F_b0 := G_b0
    clear G_b0
    clear F_b1
    have F_b1 := G_b1
    clear G_b1
    clear F_W
    have F_W := G_W
    clear G_W
    clear F_vW
    have F_vW := G_vW
    clear G_vW
    clear BB
    have BB := BC
    clear BC
    have F_x0 := N_x0
    clear N_x0
    clear hb
    clear ho
    have p0_lt := F_b0.out.lt
    obtain ⟨p0_0, p0_1, p0_2, p0_3, p0_4, p0_5⟩ := F_b0.out
    (try simp only [Nat.add_zero] at p0_lt)
    have p1_lt := F_b1.out.lt
    obtain ⟨p1_0, p1_1, p1_2, p1_3, p1_4, p1_5⟩ := F_b1.out
    (try simp only [Nat.add_zero] at p1_lt)
    go_wp2_with fail
    refine (toOpC n1_0 n1_1 n1_2 n1_3 (HY1.out.later (below_on BB.out (below_alloc _ (.cells #[.int .i64 n0_0, .int .i64 n0_1, .int .i64 n0_2, .int .i64 n0_3, .slice aox0 l0 cx0, .slice box0 m0 dx0] 32)))) (HZZ1.out.later (below_on BB.out (below_alloc _ (.cells #[.int .i64 n0_0, .int .i64 n0_1, .int .i64 n0_2, .int .i64 n0_3, .slice aox0 l0 cx0, .slice box0 m0 dx0] 32)))) (by rw [HL1.out]; exact hxl1) HQ1.out.1 HQ1.out.2.1).mono ?_
    rintro e w5 ⟨yx1, zx1, rfl, hb, ho, hcp⟩
    obtain ⟨aox1, cx1, box1, dx1, hyx1, hzx1⟩ := ho.shape
    rw [HL1.out] at hyx1
    rw [HM1.out] at hzx1
    subst hyx1
    subst hzx1
    have HCpx1 := hide hcp
    clear hcp
    have G_b0 := hide ((F_b0.out.later (below_alloc _ (.cells #[.int .i64 n0_0, .int .i64 n0_1, .int .i64 n0_2, .int .i64 n0_3, .slice aox0 l0 cx0, .slice box0 m0 dx0] 32))).later hb)
    have G_b1 := hide ((F_b1.out.later (below_alloc _ (.cells #[.int .i64 n0_0, .int .i64 n0_1, .int .i64 n0_2, .int .i64 n0_3, .slice aox0 l0 cx0, .slice box0 m0 dx0] 32))).later hb)
    have G_W := hide ((F_W.out.later (below_alloc _ (.cells #[.int .i64 n0_0, .int .i64 n0_1, .int .i64 n0_2, .int .i64 n0_3, .slice aox0 l0 cx0, .slice box0 m0 dx0] 32))).later hb)
    have G_vW := hide ((F_vW.out.later (below_alloc _ (.cells #[.int .i64 n0_0, .int .i64 n0_1, .int .i64 n0_2, .int .i64 n0_3, .slice aox0 l0 cx0, .slice box0 m0 dx0] 32))).later hb)
    have G_x0 := hide ((F_x0.out.later (below_alloc _ (.cells #[.int .i64 n0_0, .int .i64 n0_1, .int .i64 n0_2, .int .i64 n0_3, .slice aox0 l0 cx0, .slice box0 m0 dx0] 32))).later hb)
    have BC := hide (below_on (below_on BB.out (below_alloc _ (.cells #[.int .i64 n0_0, .int .i64 n0_1, .int .i64 n0_2, .int .i64 n0_3, .slice aox0 l0 cx0, .slice box0 m0 dx0] 32))) hb)
    have z_w5 : w4.heap.size + 1 ≤ w5.heap.size := by have := hb.size; simpa using this
    have N_x1 := hide (ho)
    have N_v0 := hide ((Var6_new w4 (.int .i64 n0_0) (.int .i64 n0_1) (.int .i64 n0_2) (.int .i64 n0_3) (.slice aox0 l0 cx0) (.slice box0 m0 dx0) 32).later hb)
    clear p0_lt p0_0 p0_1 p0_2 p0_3 p0_4 p0_5
    clear p1_lt p1_0 p1_1 p1_2 p1_3 p1_4 p1_5
    clear F_b0
    have F_b0 := G_b0
    clear G_b0
    clear F_b1
    have F_b1 := G_b1
    clear G_b1
    clear F_W
    have F_W := G_W
    clear G_W
    clear F_vW
    have F_vW := G_vW
    clear G_vW
    clear F_x0
    have F_x0 := G_x0
    clear G_x0
    clear BB
    have BB := BC
    clear BC
    have F_x1 := N_x1
    clear N_x1
    have F_v0 := N_v0
    clear N_v0
    clear hb
    clear ho
    have q0_lt := F_v0.out.lt
    obtain ⟨q0_0, q0_1, q0_2, q0_3, q0_4, q0_5⟩ := F_v0.out
    (try simp only [Nat.add_zero] at q0_lt)
    go_wp2_with fail
    refine (HI.out _ _ _ _ _ _ _ _ _ (below_on BB.out (below_alloc _ (.cells #[.int .i64 n1_0, .int .i64 n1_1, .int .i64 n1_2, .int .i64 n1_3, .slice aox1 l1 cx1, .slice box1 m1 dx1] 38))) (F_x0.out.later (below_alloc _ (.cells #[.int .i64 n1_0, .int .i64 n1_1, .int .i64 n1_2, .int .i64 n1_3, .slice aox1 l1 cx1, .slice box1 m1 dx1] 38))).rdI (F_x0.out.later (below_alloc _ (.cells #[.int .i64 n1_0, .int .i64 n1_1, .int .i64 n1_2, .int .i64 n1_3, .slice aox1 l1 cx1, .slice box1 m1 dx1] 38))).rdJ (by first | exact HCpH0.out | exact HCpx0.out | exact HCpW0.out | exact HCp_0.out) (F_x1.out.later (below_alloc _ (.cells #[.int .i64 n1_0, .int .i64 n1_1, .int .i64 n1_2, .int .i64 n1_3, .slice aox1 l1 cx1, .slice box1 m1 dx1] 38))).rdI (F_x1.out.later (below_alloc _ (.cells #[.int .i64 n1_0, .int .i64 n1_1, .int .i64 n1_2, .int .i64 n1_3, .slice aox1 l1 cx1, .slice box1 m1 dx1] 38))).rdJ (by first | exact HCpH1.out | exact HCpx1.out | exact HCpW1.out | exact HCp_1.out)).mono ?_
    rintro e w6 ⟨yG, zG, rfl, hb, ho⟩
    obtain ⟨aoG, cG, boG, dG, hyG, hzG⟩ := ho.shape
    rw [HLr.out] at hyG
    rw [HMr.out] at hzG
    subst hyG
    subst hzG
    have G_b0 := hide ((F_b0.out.later (below_alloc _ (.cells #[.int .i64 n1_0, .int .i64 n1_1, .int .i64 n1_2, .int .i64 n1_3, .slice aox1 l1 cx1, .slice box1 m1 dx1] 38))).later hb)
    have G_b1 := hide ((F_b1.out.later (below_alloc _ (.cells #[.int .i64 n1_0, .int .i64 n1_1, .int .i64 n1_2, .int .i64 n1_3, .slice aox1 l1 cx1, .slice box1 m1 dx1] 38))).later hb)
    have G_W := hide ((F_W.out.later (below_alloc _ (.cells #[.int .i64 n1_0, .int .i64 n1_1, .int .i64 n1_2, .int .i64 n1_3, .slice aox1 l1 cx1, .slice box1 m1 dx1] 38))).later hb)
    have G_vW := hide ((F_vW.out.later (below_alloc _ (.cells #[.int .i64 n1_0, .int .i64 n1_1, .int .i64 n1_2, .int .i64 n1_3, .slice aox1 l1 cx1, .slice box1 m1 dx1] 38))).later hb)
    have G_x0 := hide ((F_x0.out.later (below_alloc _ (.cells #[.int .i64 n1_0, .int .i64 n1_1, .int .i64 n1_2, .int .i64 n1_3, .slice aox1 l1 cx1, .slice box1 m1 dx1] 38))).later hb)
    have G_x1 := hide ((F_x1.out.later (below_alloc _ (.cells #[.int .i64 n1_0, .int .i64 n1_1, .int .i64 n1_2, .int .i64 n1_3, .slice aox1 l1 cx1, .slice box1 m1 dx1] 38))).later hb)
    have G_v0 := hide ((F_v0.out.later (below_alloc _ (.cells #[.int .i64 n1_0, .int .i64 n1_1, .int .i64 n1_2, .int .i64 n1_3, .slice aox1 l1 cx1, .slice box1 m1 dx1] 38))).later hb)
    have BC := hide (below_on (below_on BB.out (below_alloc _ (.cells #[.int .i64 n1_0, .int .i64 n1_1, .int .i64 n1_2, .int .i64 n1_3, .slice aox1 l1 cx1, .slice box1 m1 dx1] 38))) hb)
    have z_w6 : w5.heap.size + 1 ≤ w6.heap.size := by have := hb.size; simpa using this
    have N_G := hide (ho)
    have N_v1 := hide ((Var6_new w5 (.int .i64 n1_0) (.int .i64 n1_1) (.int .i64 n1_2) (.int .i64 n1_3) (.slice aox1 l1 cx1) (.slice box1 m1 dx1) 38).later hb)
    clear q0_lt q0_0 q0_1 q0_2 q0_3 q0_4 q0_5
    clear F_b0
    have F_b0 := G_b0
    clear G_b0
    clear F_b1
    have F_b1 := G_b1
    clear G_b1
    clear F_W
    have F_W := G_W
    clear G_W
    clear F_vW
    have F_vW := G_vW
    clear G_vW
    clear F_x0
    have F_x0 := G_x0
    clear G_x0
    clear F_x1
    have F_x1 := G_x1
    clear G_x1
    clear F_v0
    have F_v0 := G_v0
    clear G_v0
    clear BB
    have BB := BC
    clear BC
    have F_G := N_G
    clear N_G
    have F_v1 := N_v1
    clear N_v1
    clear hb
    clear ho
    have qlt := F_vW.out.lt
    obtain ⟨q0, q1, q2, q3, q4, q5, q6, q7, q8⟩ := F_vW.out
    (try simp only [Nat.add_zero] at qlt)
    go_wp2_with fail
    refine (eqOpResult (r := ⟨rq0, rq1, rq2, rq3, rs, rp⟩) (F_G.out.later (below_alloc _ (.cells #[.int .i64 code, .int .i64 rep, .int .i64 vlu, .int .i64 rq0, .int .i64 rq1, .int .i64 rq2, .int .i64 rq3, .slice aoG lr cG, .slice boG mr dG] 34))).rdI (F_G.out.later (below_alloc _ (.cells #[.int .i64 code, .int .i64 rep, .int .i64 vlu, .int .i64 rq0, .int .i64 rq1, .int .i64 rq2, .int .i64 rq3, .slice aoG lr cG, .slice boG mr dG] 34))).rdJ (F_W.out.later (below_alloc _ (.cells #[.int .i64 code, .int .i64 rep, .int .i64 vlu, .int .i64 rq0, .int .i64 rq1, .int .i64 rq2, .int .i64 rq3, .slice aoG lr cG, .slice boG mr dG] 34))).rdI (F_W.out.later (below_alloc _ (.cells #[.int .i64 code, .int .i64 rep, .int .i64 vlu, .int .i64 rq0, .int .i64 rq1, .int .i64 rq2, .int .i64 rq3, .slice aoG lr cG, .slice boG mr dG] 34))).rdJ).mono ?_
    rintro e w7 ⟨rfl, hb⟩
    have G_b0 := hide ((F_b0.out.later (below_alloc _ (.cells #[.int .i64 code, .int .i64 rep, .int .i64 vlu, .int .i64 rq0, .int .i64 rq1, .int .i64 rq2, .int .i64 rq3, .slice aoG lr cG, .slice boG mr dG] 34))).later hb)
    have G_b1 := hide ((F_b1.out.later (below_alloc _ (.cells #[.int .i64 code, .int .i64 rep, .int .i64 vlu, .int .i64 rq0, .int .i64 rq1, .int .i64 rq2, .int .i64 rq3, .slice aoG lr cG, .slice boG mr dG] 34))).later hb)
    have G_W := hide ((F_W.out.later (below_alloc _ (.cells #[.int .i64 code, .int .i64 rep, .int .i64 vlu, .int .i64 rq0, .int .i64 rq1, .int .i64 rq2, .int .i64 rq3, .slice aoG lr cG, .slice boG mr dG] 34))).later hb)
    have G_vW := hide ((F_vW.out.later (below_alloc _ (.cells #[.int .i64 code, .int .i64 rep, .int .i64 vlu, .int .i64 rq0, .int .i64 rq1, .int .i64 rq2, .int .i64 rq3, .slice aoG lr cG, .slice boG mr dG] 34))).later hb)
    have G_x0 := hide ((F_x0.out.later (below_alloc _ (.cells #[.int .i64 code, .int .i64 rep, .int .i64 vlu, .int .i64 rq0, .int .i64 rq1, .int .i64 rq2, .int .i64 rq3, .slice aoG lr cG, .slice boG mr dG] 34))).later hb)
    have G_x1 := hide ((F_x1.out.later (below_alloc _ (.cells #[.int .i64 code, .int .i64 rep, .int .i64 vlu, .int .i64 rq0, .int .i64 rq1, .int .i64 rq2, .int .i64 rq3, .slice aoG lr cG, .slice boG mr dG] 34))).later hb)
    have G_v0 := hide ((F_v0.out.later (below_alloc _ (.cells #[.int .i64 code, .int .i64 rep, .int .i64 vlu, .int .i64 rq0, .int .i64 rq1, .int .i64 rq2, .int .i64 rq3, .slice aoG lr cG, .slice boG mr dG] 34))).later hb)
    have G_G := hide ((F_G.out.later (below_alloc _ (.cells #[.int .i64 code, .int .i64 rep, .int .i64 vlu, .int .i64 rq0, .int .i64 rq1, .int .i64 rq2, .int .i64 rq3, .slice aoG lr cG, .slice boG mr dG] 34))).later hb)
    have G_v1 := hide ((F_v1.out.later (below_alloc _ (.cells #[.int .i64 code, .int .i64 rep, .int .i64 vlu, .int .i64 rq0, .int .i64 rq1, .int .i64 rq2, .int .i64 rq3, .slice aoG lr cG, .slice boG mr dG] 34))).later hb)
    have BC := hide (below_on (below_on BB.out (below_alloc _ (.cells #[.int .i64 code, .int .i64 rep, .int .i64 vlu, .int .i64 rq0, .int .i64 rq1, .int .i64 rq2, .int .i64 rq3, .slice aoG lr cG, .slice boG mr dG] 34))) hb)
    have z_w7 : w6.heap.size + 1 ≤ w7.heap.size := by have := hb.size; simpa using this
    have N_vG := hide ((Var9_new w6 (.int .i64 code) (.int .i64 rep) (.int .i64 vlu) (.int .i64 rq0) (.int .i64 rq1) (.int .i64 rq2) (.int .i64 rq3) (.slice aoG lr cG) (.slice boG mr dG) 34).later hb)
    clear qlt q0 q1 q2 q3 q4 q5 q6 q7 q8
    clear F_b0
    have F_b0 := G_b0
    clear G_b0
    clear F_b1
    have F_b1 := G_b1
    clear G_b1
    clear F_W
    have F_W := G_W
    clear G_W
    clear F_vW
    have F_vW := G_vW
    clear G_vW
    clear F_x0
    have F_x0 := G_x0
    clear G_x0
    clear F_x1
    have F_x1 := G_x1
    clear G_x1
    clear F_v0
    have F_v0 := G_v0
    clear G_v0
    clear F_G
    have F_G := G_G
    clear G_G
    clear F_v1
    have F_v1 := G_v1
    clear G_v1
    clear BB
    have BB := BC
    clear BC
    have F_vG := N_vG
    clear N_vG
    clear hb
    have plt := F_b0.out.lt
    obtain ⟨p0, p1, p2, p3, p4, p5⟩ := F_b0.out
    (try simp only [Nat.add_zero] at plt)
    have qlt := F_v0.out.lt
    obtain ⟨q0, q1, q2, q3, q4, q5⟩ := F_v0.out
    (try simp only [Nat.add_zero] at qlt)
    go_wp2_with fail
    go_region_held3 (fun w' => w'.cell? ⟨w.heap.size, 0, none⟩ = some (.int .i64 n0_0) ∧ w'.cell? ⟨w.heap.size, 1, none⟩ = some (.int .i64 n0_1) ∧ w'.cell? ⟨w.heap.size, 2, none⟩ = some (.int .i64 n0_2) ∧ w'.cell? ⟨w.heap.size, 3, none⟩ = some (.int .i64 n0_3) ∧ w'.cell? ⟨w.heap.size, 4, none⟩ = some (.slice ay0 l0 cy0) ∧ w'.cell? ⟨w.heap.size, 5, none⟩ = some (.slice az0 m0 cz0) ∧ w'.cell? ⟨w4.heap.size, 0, none⟩ = some (.int .i64 n0_0) ∧ w'.cell? ⟨w4.heap.size, 1, none⟩ = some (.int .i64 n0_1) ∧ w'.cell? ⟨w4.heap.size, 2, none⟩ = some (.int .i64 n0_2) ∧ w'.cell? ⟨w4.heap.size, 3, none⟩ = some (.int .i64 n0_3) ∧ w'.cell? ⟨w4.heap.size, 4, none⟩ = some (.slice aox0 l0 cx0) ∧ w'.cell? ⟨w4.heap.size, 5, none⟩ = some (.slice box0 m0 dx0)) (first | exact ⟨p0, p1, p2, p3, p4, p5, q0, q1, q2, q3, q4, q5⟩ | exact ⟨e0, e1, e2, e3, e4, e5, e6, e7, e8, e9, e10, e11⟩ | exact ⟨i0, i1, i2, i3, i4, i5, i6, i7, i8, i9, i10, i11⟩)
      (first | (go_at_call 12; refine (eqRaft n0_0 n0_1 n0_2 n0_3 (F_x0.out.later HB6.out).rdI (F_x0.out.later HB6.out).rdJ HO6.out.rdI HO6.out.rdJ).mono ?_; rintro e w9 ⟨rfl, hb7⟩; have i0 := cell_later hb7 e0; have i1 := cell_later hb7 e1; have i2 := cell_later hb7 e2; have i3 := cell_later hb7 e3; have i4 := cell_later hb7 e4; have i5 := cell_later hb7 e5; have i6 := cell_later hb7 e6; have i7 := cell_later hb7 e7; have i8 := cell_later hb7 e8; have i9 := cell_later hb7 e9; have i10 := cell_later hb7 e10; have i11 := cell_later hb7 e11; have HB7 := hide (below_on HB6.out hb7); clear hb7) | (go_at_call 8; refine (toRaftC n0_0 n0_1 n0_2 n0_3 (HY0.out.later (below_on BB.out (below_drewN _ 1))) (HZZ0.out.later (below_on BB.out (below_drewN _ 1))) (by rw [HL0.out]; exact hxl0) HQ0.out.1 HQ0.out.2.1).mono ?_; rintro e w8 ⟨ye0, ze0, rfl, hb, ho, hcp⟩; have e0 := cell_later hb p0; have e1 := cell_later hb p1; have e2 := cell_later hb p2; have e3 := cell_later hb p3; have e4 := cell_later hb p4; have e5 := cell_later hb p5; have e6 := cell_later hb q0; have e7 := cell_later hb q1; have e8 := cell_later hb q2; have e9 := cell_later hb q3; have e10 := cell_later hb q4; have e11 := cell_later hb q5; have HO6 := hide (ho); have HB6 := hide (below_on (below_drewN w7 1) hb); clear hb ho))
    have hb := HB7.out
    clear plt p0 p1 p2 p3 p4 p5
    clear qlt q0 q1 q2 q3 q4 q5
    have G_b0 := hide (F_b0.out.later hb)
    have G_b1 := hide (F_b1.out.later hb)
    have G_W := hide (F_W.out.later hb)
    have G_vW := hide (F_vW.out.later hb)
    have G_x0 := hide (F_x0.out.later hb)
    have G_x1 := hide (F_x1.out.later hb)
    have G_v0 := hide (F_v0.out.later hb)
    have G_G := hide (F_G.out.later hb)
    have G_v1 := hide (F_v1.out.later hb)
    have G_vG := hide (F_vG.out.later hb)
    have BC := hide (below_on BB.out hb)
    clear F_b0
    have F_b0 := G_b0
    clear G_b0
    clear F_b1
    have F_b1 := G_b1
    clear G_b1
    clear F_W
    have F_W := G_W
    clear G_W
    clear F_vW
    have F_vW := G_vW
    clear G_vW
    clear F_x0
    have F_x0 := G_x0
    clear G_x0
    clear F_x1
    have F_x1 := G_x1
    clear G_x1
    clear F_v0
    have F_v0 := G_v0
    clear G_v0
    clear F_G
    have F_G := G_G
    clear G_G
    clear F_v1
    have F_v1 := G_v1
    clear G_v1
    clear F_vG
    have F_vG := G_vG
    clear G_vG
    clear BB
    have BB := BC
    clear BC
    have z_w9 : w7.heap.size ≤ w9.heap.size := hb.size
    clear hb HB6 HB7 HO6 e0 i0 e1 i1 e2 i2 e3 i3 e4 i4 e5 i5 e6 i6 e7 i7 e8 i8 e9 i9 e10 i10 e11 i11
    have plt := F_b1.out.lt
    obtain ⟨p0, p1, p2, p3, p4, p5⟩ := F_b1.out
    (try simp only [Nat.add_zero] at plt)
    have qlt := F_v1.out.lt
    obtain ⟨q0, q1, q2, q3, q4, q5⟩ := F_v1.out
    (try simp only [Nat.add_zero] at qlt)
    go_wp2_with fail
    go_region_held3 (fun w' => w'.cell? ⟨w.heap.size + 1, 0, none⟩ = some (.int .i64 n1_0) ∧ w'.cell? ⟨w.heap.size + 1, 1, none⟩ = some (.int .i64 n1_1) ∧ w'.cell? ⟨w.heap.size + 1, 2, none⟩ = some (.int .i64 n1_2) ∧ w'.cell? ⟨w.heap.size + 1, 3, none⟩ = some (.int .i64 n1_3) ∧ w'.cell? ⟨w.heap.size + 1, 4, none⟩ = some (.slice ay1 l1 cy1) ∧ w'.cell? ⟨w.heap.size + 1, 5, none⟩ = some (.slice az1 m1 cz1) ∧ w'.cell? ⟨w5.heap.size, 0, none⟩ = some (.int .i64 n1_0) ∧ w'.cell? ⟨w5.heap.size, 1, none⟩ = some (.int .i64 n1_1) ∧ w'.cell? ⟨w5.heap.size, 2, none⟩ = some (.int .i64 n1_2) ∧ w'.cell? ⟨w5.heap.size, 3, none⟩ = some (.int .i64 n1_3) ∧ w'.cell? ⟨w5.heap.size, 4, none⟩ = some (.slice aox1 l1 cx1) ∧ w'.cell? ⟨w5.heap.size, 5, none⟩ = some (.slice box1 m1 dx1)) (first | exact ⟨p0, p1, p2, p3, p4, p5, q0, q1, q2, q3, q4, q5⟩ | exact ⟨e0, e1, e2, e3, e4, e5, e6, e7, e8, e9, e10, e11⟩ | exact ⟨i0, i1, i2, i3, i4, i5, i6, i7, i8, i9, i10, i11⟩)
      (first | (go_at_call 13; refine (eqOp n1_0 n1_1 n1_2 n1_3 (F_x1.out.later HB6.out).rdI (F_x1.out.later HB6.out).rdJ HO6.out.rdI HO6.out.rdJ).mono ?_; rintro e w11 ⟨rfl, hb7⟩; have i0 := cell_later hb7 e0; have i1 := cell_later hb7 e1; have i2 := cell_later hb7 e2; have i3 := cell_later hb7 e3; have i4 := cell_later hb7 e4; have i5 := cell_later hb7 e5; have i6 := cell_later hb7 e6; have i7 := cell_later hb7 e7; have i8 := cell_later hb7 e8; have i9 := cell_later hb7 e9; have i10 := cell_later hb7 e10; have i11 := cell_later hb7 e11; have HB7 := hide (below_on HB6.out hb7); clear hb7) | (go_at_call 9; refine (toOpC n1_0 n1_1 n1_2 n1_3 (HY1.out.later (below_on BB.out (below_drewN _ 1))) (HZZ1.out.later (below_on BB.out (below_drewN _ 1))) (by rw [HL1.out]; exact hxl1) HQ1.out.1 HQ1.out.2.1).mono ?_; rintro e w10 ⟨ye1, ze1, rfl, hb, ho, hcp⟩; have e0 := cell_later hb p0; have e1 := cell_later hb p1; have e2 := cell_later hb p2; have e3 := cell_later hb p3; have e4 := cell_later hb p4; have e5 := cell_later hb p5; have e6 := cell_later hb q0; have e7 := cell_later hb q1; have e8 := cell_later hb q2; have e9 := cell_later hb q3; have e10 := cell_later hb q4; have e11 := cell_later hb q5; have HO6 := hide (ho); have HB6 := hide (below_on (below_drewN w9 1) hb); clear hb ho))
    have hb := HB7.out
    clear plt p0 p1 p2 p3 p4 p5
    clear qlt q0 q1 q2 q3 q4 q5
    have G_b0 := hide (F_b0.out.later hb)
    have G_b1 := hide (F_b1.out.later hb)
    have G_W := hide (F_W.out.later hb)
    have G_vW := hide (F_vW.out.later hb)
    have G_x0 := hide (F_x0.out.later hb)
    have G_x1 := hide (F_x1.out.later hb)
    have G_v0 := hide (F_v0.out.later hb)
    have G_G := hide (F_G.out.later hb)
    have G_v1 := hide (F_v1.out.later hb)
    have G_vG := hide (F_vG.out.later hb)
    have BC := hide (below_on BB.out hb)
    clear F_b0
    have F_b0 := G_b0
    clear G_b0
    clear F_b1
    have F_b1 := G_b1
    clear G_b1
    clear F_W
    have F_W := G_W
    clear G_W
    clear F_vW
    have F_vW := G_vW
    clear G_vW
    clear F_x0
    have F_x0 := G_x0
    clear G_x0
    clear F_x1
    have F_x1 := G_x1
    clear G_x1
    clear F_v0
    have F_v0 := G_v0
    clear G_v0
    clear F_G
    have F_G := G_G
    clear G_G
    clear F_v1
    have F_v1 := G_v1
    clear G_v1
    clear F_vG
    have F_vG := G_vG
    clear G_vG
    clear BB
    have BB := BC
    clear BC
    have z_w11 : w9.heap.size ≤ w11.heap.size := hb.size
    clear hb HB6 HB7 HO6 e0 i0 e1 i1 e2 i2 e3 i3 e4 i4 e5 i5 e6 i6 e7 i7 e8 i8 e9 i9 e10 i10 e11 i11
    have hK0 : (0 : Int) ≤ 1 := by omega
    have plt := F_v0.out.lt
    obtain ⟨p0, p1, p2, p3, p4, p5⟩ := F_v0.out
    (try simp only [Nat.add_zero] at plt)
    go_wp2_with fail
    refine (markRaft n0_0 n0_1 n0_2 n0_3 F_x0.out (by omega) (by rw [HL0.out, HT0.out]; omega)).mono ?_
    rintro e w12 ⟨he, _, hw⟩
    obtain ⟨K1, hK⟩ : ∃ K : Int, 1 + ((xs0.length : Int) + (totJ ps0 ps0.length : Int)) = K := ⟨_, rfl⟩
    rw [hK] at he
    subst he
    rw [HL0.out, HT0.out] at hK
    have hK1 : 0 ≤ K1 := by omega
    have hKb1 : K1 ≤ 8388608 := by omega
    clear hK
    clear plt p0 p1 p2 p3 p4 p5
    clear F_v0
    clear F_x0
    have z_w12 : w11.heap.size ≤ w12.heap.size := hw.size
    have G_b0 := hide (F_b0.out.wr hw (by have := F_b0.out.lt; simp <;> omega))
    have G_b1 := hide (F_b1.out.wr hw (by have := F_b1.out.lt; simp <;> omega))
    have G_W := hide (F_W.out.wr hw (by intro b; simp <;> omega))
    have G_vW := hide (F_vW.out.wr hw (by have := F_vW.out.lt; simp <;> omega))
    have G_x1 := hide (F_x1.out.wr hw (by intro b; simp <;> omega))
    have G_G := hide (F_G.out.wr hw (by intro b; simp <;> omega))
    have G_v1 := hide (F_v1.out.wr hw (by have := F_v1.out.lt; simp <;> omega))
    have G_vG := hide (F_vG.out.wr hw (by have := F_vG.out.lt; simp <;> omega))
    have BC := hide (BB.out.trans (hw.below (by omega) (by intro b hb; (try simp at hb); omega)))
    clear F_b0
    have F_b0 := G_b0
    clear G_b0
    clear F_b1
    have F_b1 := G_b1
    clear G_b1
    clear F_W
    have F_W := G_W
    clear G_W
    clear F_vW
    have F_vW := G_vW
    clear G_vW
    clear F_x1
    have F_x1 := G_x1
    clear G_x1
    clear F_G
    have F_G := G_G
    clear G_G
    clear F_v1
    have F_v1 := G_v1
    clear G_v1
    clear F_vG
    have F_vG := G_vG
    clear G_vG
    clear BB
    have BB := BC
    clear BC
    clear hw
    have plt := F_v1.out.lt
    obtain ⟨p0, p1, p2, p3, p4, p5⟩ := F_v1.out
    (try simp only [Nat.add_zero] at plt)
    go_wp2_with fail
    refine (markOp n1_0 n1_1 n1_2 n1_3 F_x1.out (by omega) (by rw [HL1.out, HT1.out]; omega)).mono ?_
    rintro e w13 ⟨he, _, hw⟩
    obtain ⟨K2, hK⟩ : ∃ K : Int, K1 + ((xs1.length : Int) + (totJ ps1 ps1.length : Int)) = K := ⟨_, rfl⟩
    rw [hK] at he
    subst he
    rw [HL1.out, HT1.out] at hK
    have hK2 : 0 ≤ K2 := by omega
    have hKb2 : K2 ≤ 16777216 := by omega
    clear hK
    clear plt p0 p1 p2 p3 p4 p5
    clear F_v1
    clear F_x1
    have z_w13 : w12.heap.size ≤ w13.heap.size := hw.size
    have G_b0 := hide (F_b0.out.wr hw (by have := F_b0.out.lt; simp <;> omega))
    have G_b1 := hide (F_b1.out.wr hw (by have := F_b1.out.lt; simp <;> omega))
    have G_W := hide (F_W.out.wr hw (by intro b; simp <;> omega))
    have G_vW := hide (F_vW.out.wr hw (by have := F_vW.out.lt; simp <;> omega))
    have G_G := hide (F_G.out.wr hw (by intro b; simp <;> omega))
    have G_vG := hide (F_vG.out.wr hw (by have := F_vG.out.lt; simp <;> omega))
    have BC := hide (BB.out.trans (hw.below (by omega) (by intro b hb; (try simp at hb); omega)))
    clear F_b0
    have F_b0 := G_b0
    clear G_b0
    clear F_b1
    have F_b1 := G_b1
    clear G_b1
    clear F_W
    have F_W := G_W
    clear G_W
    clear F_vW
    have F_vW := G_vW
    clear G_vW
    clear F_G
    have F_G := G_G
    clear G_G
    clear F_vG
    have F_vG := G_vG
    clear G_vG
    clear BB
    have BB := BC
    clear BC
    clear hw
    have plt := F_vG.out.lt
    obtain ⟨p0, p1, p2, p3, p4, p5, p6, p7, p8⟩ := F_vG.out
    (try simp only [Nat.add_zero] at plt)
    have qlt := F_vW.out.lt
    obtain ⟨q0, q1, q2, q3, q4, q5, q6, q7, q8⟩ := F_vW.out
    (try simp only [Nat.add_zero] at qlt)
    go_wp2_with fail
    refine (eqOpResult (r := ⟨rq0, rq1, rq2, rq3, rs, rp⟩) F_G.out.rdI F_G.out.rdJ F_W.out.rdI F_W.out.rdJ).mono ?_
    rintro e w14 ⟨rfl, hb⟩
    have G_b0 := hide (F_b0.out.later hb)
    have G_b1 := hide (F_b1.out.later hb)
    have G_W := hide (F_W.out.later hb)
    have G_vW := hide (F_vW.out.later hb)
    have G_G := hide (F_G.out.later hb)
    have G_vG := hide (F_vG.out.later hb)
    have BC := hide (below_on BB.out hb)
    have z_w14 : w13.heap.size ≤ w14.heap.size := by have := hb.size; simpa using this
    clear plt p0 p1 p2 p3 p4 p5 p6 p7 p8
    clear qlt q0 q1 q2 q3 q4 q5 q6 q7 q8
    clear F_b0
    have F_b0 := G_b0
    clear G_b0
    clear F_b1
    have F_b1 := G_b1
    clear G_b1
    clear F_W
    have F_W := G_W
    clear G_W
    clear F_vW
    have F_vW := G_vW
    clear G_vW
    clear F_G
    have F_G := G_G
    clear G_G
    clear F_vG
    have F_vG := G_vG
    clear G_vG
    clear BB
    have BB := BC
    clear BC
    clear hb
    have plt := F_vG.out.lt
    obtain ⟨p0, p1, p2, p3, p4, p5, p6, p7, p8⟩ := F_vG.out
    (try simp only [Nat.add_zero] at plt)
    go_wp2_with fail
    refine (markOpResult rq0 rq1 rq2 rq3 F_G.out (by omega) HRB.out).mono ?_
    rintro e w15 ⟨he, hr, hw⟩
    rw [HMe.out] at he
    subst he
    have N_R := hide hr
    clear plt p0 p1 p2 p3 p4 p5 p6 p7 p8
    clear F_G
    have z_w15 : w14.heap.size ≤ w15.heap.size := hw.size
    clear hr
    have G_b0 := hide (F_b0.out.wr hw (by have := F_b0.out.lt; simp <;> omega))
    have G_b1 := hide (F_b1.out.wr hw (by have := F_b1.out.lt; simp <;> omega))
    have G_W := hide (F_W.out.wr hw (by intro b; simp <;> omega))
    have G_vW := hide (F_vW.out.wr hw (by have := F_vW.out.lt; simp <;> omega))
    have G_vG := hide (F_vG.out.wr hw (by have := F_vG.out.lt; simp <;> omega))
    have BC := hide (BB.out.trans (hw.below (by omega) (by intro b hb; (try simp at hb); omega)))
    clear F_b0
    have F_b0 := G_b0
    clear G_b0
    clear F_b1
    have F_b1 := G_b1
    clear G_b1
    clear F_W
    have F_W := G_W
    clear G_W
    clear F_vW
    have F_vW := G_vW
    clear G_vW
    clear F_vG
    have F_vG := G_vG
    clear G_vG
    clear BB
    have BB := BC
    clear BC
    clear hw
    have F_R := N_R
    clear N_R
    have plt := F_vG.out.lt
    obtain ⟨p0, p1, p2, p3, p4, p5, p6, p7, p8⟩ := F_vG.out
    (try simp only [Nat.add_zero] at plt)
    go_wp2_with fail
    refine (heldOpResult rq0 rq1 rq2 rq3 F_R.out (by omega) HRB.out).mono ?_
    rintro e w16 ⟨he, hb⟩
    rw [HMe.out] at he
    subst he
    have G_b0 := hide (F_b0.out.later hb)
    have G_b1 := hide (F_b1.out.later hb)
    have G_W := hide (F_W.out.later hb)
    have G_vW := hide (F_vW.out.later hb)
    have G_vG := hide (F_vG.out.later hb)
    have G_R := hide (F_R.out.later hb)
    have BC := hide (below_on BB.out hb)
    have z_w16 : w15.heap.size ≤ w16.heap.size := by have := hb.size; simpa using this
    clear plt p0 p1 p2 p3 p4 p5 p6 p7 p8
    clear F_b0
    have F_b0 := G_b0
    clear G_b0
    clear F_b1
    have F_b1 := G_b1
    clear G_b1
    clear F_W
    have F_W := G_W
    clear G_W
    clear F_vW
    have F_vW := G_vW
    clear G_vW
    clear F_vG
    have F_vG := G_vG
    clear G_vG
    clear F_R
    have F_R := G_R
    clear G_R
    clear BB
    have BB := BC
    clear BC
    clear hb
    have p0_lt := F_b0.out.lt
    obtain ⟨p0_0, p0_1, p0_2, p0_3, p0_4, p0_5⟩ := F_b0.out
    (try simp only [Nat.add_zero] at p0_lt)
    have p1_lt := F_b1.out.lt
    obtain ⟨p1_0, p1_1, p1_2, p1_3, p1_4, p1_5⟩ := F_b1.out
    (try simp only [Nat.add_zero] at p1_lt)
    go_upto_region 31 with fail
    go_cut [13] from 75 to 79 (fun v wx => ∃ (hv : Nat) (ao : Option Addr) (c : Nat) (bo : Option Addr) (d : Nat), v = .pointer (some ⟨hv, 0, none⟩) ∧ w16.heap.size ≤ hv ∧ hv < wx.heap.size ∧ Hid (Var9 wx hv (.int .i64 code) (.int .i64 rep) (.int .i64 vlu) (.int .i64 rq0) (.int .i64 rq1) (.int .i64 rq2) (.int .i64 rq3) (.slice ao lr c) (.slice bo mr d) ∧ IvR w16.heap.size wx.heap.size wx (.slice ao lr c) (.slice bo mr d) rs rp ∧ Below w16.heap.size w16 wx))
    case first =>
      refine wp_region_held_drew (S := fun w' => w'.cell? ⟨w.heap.size, 0, none⟩ = some (.int .i64 n0_0) ∧ w'.cell? ⟨w.heap.size, 1, none⟩ = some (.int .i64 n0_1) ∧ w'.cell? ⟨w.heap.size, 2, none⟩ = some (.int .i64 n0_2) ∧ w'.cell? ⟨w.heap.size, 3, none⟩ = some (.int .i64 n0_3) ∧ w'.cell? ⟨w.heap.size, 4, none⟩ = some (.slice ay0 l0 cy0) ∧ w'.cell? ⟨w.heap.size, 5, none⟩ = some (.slice az0 m0 cz0) ∧ w'.cell? ⟨w.heap.size + 1, 0, none⟩ = some (.int .i64 n1_0) ∧ w'.cell? ⟨w.heap.size + 1, 1, none⟩ = some (.int .i64 n1_1) ∧ w'.cell? ⟨w.heap.size + 1, 2, none⟩ = some (.int .i64 n1_2) ∧ w'.cell? ⟨w.heap.size + 1, 3, none⟩ = some (.int .i64 n1_3) ∧ w'.cell? ⟨w.heap.size + 1, 4, none⟩ = some (.slice ay1 l1 cy1) ∧ w'.cell? ⟨w.heap.size + 1, 5, none⟩ = some (.slice az1 m1 cz1)) (by kernel_rfl) ⟨p0_0, p0_1, p0_2, p0_3, p0_4, p0_5, p1_0, p1_1, p1_2, p1_3, p1_4, p1_5⟩ (fun hHeld0 => ?_)
      refine forgetH (fun wx => (wx.cell? ⟨w.heap.size, 0, none⟩ = some (.int .i64 n0_0) ∧ wx.cell? ⟨w.heap.size, 1, none⟩ = some (.int .i64 n0_1) ∧ wx.cell? ⟨w.heap.size, 2, none⟩ = some (.int .i64 n0_2) ∧ wx.cell? ⟨w.heap.size, 3, none⟩ = some (.int .i64 n0_3) ∧ wx.cell? ⟨w.heap.size, 4, none⟩ = some (.slice ay0 l0 cy0) ∧ wx.cell? ⟨w.heap.size, 5, none⟩ = some (.slice az0 m0 cz0) ∧ wx.cell? ⟨w.heap.size + 1, 0, none⟩ = some (.int .i64 n1_0) ∧ wx.cell? ⟨w.heap.size + 1, 1, none⟩ = some (.int .i64 n1_1) ∧ wx.cell? ⟨w.heap.size + 1, 2, none⟩ = some (.int .i64 n1_2) ∧ wx.cell? ⟨w.heap.size + 1, 3, none⟩ = some (.int .i64 n1_3) ∧ wx.cell? ⟨w.heap.size + 1, 4, none⟩ = some (.slice ay1 l1 cy1) ∧ wx.cell? ⟨w.heap.size + 1, 5, none⟩ = some (.slice az1 m1 cz1)) ∧ Below w16.heap.size w16 wx) ⟨hHeld0, below_drewN w16 1⟩ ?_
      clear hHeld0
      rintro v0w ⟨hHeld, hbx⟩
      have HB_0 := hide hbx
      have hz_0 := hbx.size
      clear hbx
      obtain ⟨P0_0_0, P0_0_1, P0_0_2, P0_0_3, P0_0_4, P0_0_5, P0_1_0, P0_1_1, P0_1_2, P0_1_3, P0_1_4, P0_1_5⟩ := id hHeld
      refine wpAnyH_take (i := 0) (v := ?v31x0) rfl (by kernel_rfl) (by kernel_rfl) (by kernel_rfl) (fun _ _ _ h => h) (Or.inl ⟨by rfl, ?h31x0⟩) hHeld ?r31x0
      case h31x0 => intro w9 hSw; (try dsimp only at hSw); first | (go_simp; done) | (go_simp; with_reducible rfl)
      try simp only [Act.put, List.setIfInBounds_toArray, List.set_cons_zero, List.set_cons_succ, List.getElem_toArray, List.getElem_cons_zero, List.getElem_cons_succ]
      refine wpAnyH_take (i := 2) (v := ?v31x2) rfl (by kernel_rfl) (by kernel_rfl) (by kernel_rfl) (fun _ _ _ h => h) (Or.inl ⟨by rfl, ?h31x2⟩) hHeld ?r31x2
      case h31x2 => intro w9 hSw; (try dsimp only at hSw); first | (go_simp; done) | (go_simp; with_reducible rfl)
      try simp only [Act.put, List.setIfInBounds_toArray, List.set_cons_zero, List.set_cons_succ, List.getElem_toArray, List.getElem_cons_zero, List.getElem_cons_succ]
      refine wpAnyH_ready (rs := [1, 5]) (by kernel_rfl) (by simp) (AllReadyH.cons rfl (fun K hK => ?_) (AllReadyH.cons rfl (fun K hK => ?_) (AllReadyH.nil)))
      · skip
        go_simp
        go_at_call 8
        refine (toRaftC n0_0 n0_1 n0_2 n0_3 (HY0.out.later (below_on BB.out HB_0.out)) (HZZ0.out.later (below_on BB.out HB_0.out)) (by rw [HL0.out]; exact hxl0) HQ0.out.1 HQ0.out.2.1).mono ?_
        rintro e v1w ⟨y_0, z_0, rfl, hb, ho, hcp⟩
        obtain ⟨ao_0, c_0, bo_0, d_0, hy_0, hz_0⟩ := ho.shape
        rw [HL0.out] at hy_0
        rw [HM0.out] at hz_0
        subst hy_0
        subst hz_0
        have HCp_0 := hide hcp
        clear hcp
        have P1_0_0 := cell_later hb P0_0_0
        have P1_0_1 := cell_later hb P0_0_1
        have P1_0_2 := cell_later hb P0_0_2
        have P1_0_3 := cell_later hb P0_0_3
        have P1_0_4 := cell_later hb P0_0_4
        have P1_0_5 := cell_later hb P0_0_5
        have P1_1_0 := cell_later hb P0_1_0
        have P1_1_1 := cell_later hb P0_1_1
        have P1_1_2 := cell_later hb P0_1_2
        have P1_1_3 := cell_later hb P0_1_3
        have P1_1_4 := cell_later hb P0_1_4
        have P1_1_5 := cell_later hb P0_1_5
        have HB_1 := hide (below_on HB_0.out hb)
        have hz_1 : v0w.heap.size ≤ v1w.heap.size := hb.size
        have O_0 := hide (ho)
        clear hb ho
        refine hK.out _ _ ⟨P1_0_0, P1_0_1, P1_0_2, P1_0_3, P1_0_4, P1_0_5, P1_1_0, P1_1_1, P1_1_2, P1_1_3, P1_1_4, P1_1_5⟩ (fun _ => ?_)
        clear hK K
        try simp only [Act.put, List.setIfInBounds_toArray, List.set_cons_zero, List.set_cons_succ, List.getElem_toArray, List.getElem_cons_zero, List.getElem_cons_succ]
        refine wpAnyH_ready (rs := [3, 5]) (by kernel_rfl) (by simp) (AllReadyH.cons rfl (fun K hK => ?_) (AllReadyH.cons rfl (fun K hK => ?_) (AllReadyH.nil)))
        · skip
          go_simp
          go_at_call 9
          refine (toOpC n1_0 n1_1 n1_2 n1_3 (HY1.out.later (below_on BB.out HB_1.out)) (HZZ1.out.later (below_on BB.out HB_1.out)) (by rw [HL1.out]; exact hxl1) HQ1.out.1 HQ1.out.2.1).mono ?_
          rintro e v2w ⟨y_1, z_1, rfl, hb, ho, hcp⟩
          obtain ⟨ao_1, c_1, bo_1, d_1, hy_1, hz_1⟩ := ho.shape
          rw [HL1.out] at hy_1
          rw [HM1.out] at hz_1
          subst hy_1
          subst hz_1
          have HCp_1 := hide hcp
          clear hcp
          have P2_0_0 := cell_later hb P1_0_0
          have P2_0_1 := cell_later hb P1_0_1
          have P2_0_2 := cell_later hb P1_0_2
          have P2_0_3 := cell_later hb P1_0_3
          have P2_0_4 := cell_later hb P1_0_4
          have P2_0_5 := cell_later hb P1_0_5
          have P2_1_0 := cell_later hb P1_1_0
          have P2_1_1 := cell_later hb P1_1_1
          have P2_1_2 := cell_later hb P1_1_2
          have P2_1_3 := cell_later hb P1_1_3
          have P2_1_4 := cell_later hb P1_1_4
          have P2_1_5 := cell_later hb P1_1_5
          have HB_2 := hide (below_on HB_1.out hb)
          have hz_2 : v1w.heap.size ≤ v2w.heap.size := hb.size
          have O_0n := hide (O_0.out.later hb)
          clear O_0
          have O_0 := O_0n
          clear O_0n
          have O_1 := hide (ho)
          clear hb ho
          refine hK.out _ _ ⟨P2_0_0, P2_0_1, P2_0_2, P2_0_3, P2_0_4, P2_0_5, P2_1_0, P2_1_1, P2_1_2, P2_1_3, P2_1_4, P2_1_5⟩ (fun _ => ?_)
          clear hK K
          try simp only [Act.put, List.setIfInBounds_toArray, List.set_cons_zero, List.set_cons_succ, List.getElem_toArray, List.getElem_cons_zero, List.getElem_cons_succ]
          refine wpAnyH_ready (rs := [4, 5]) (by kernel_rfl) (by simp) (AllReadyH.cons rfl (fun K hK => ?_) (AllReadyH.cons rfl (fun K hK => ?_) (AllReadyH.nil)))
          · skip
            go_simp
            go_at_call 10
            refine (HI.out _ _ _ _ _ _ _ _ _ (below_on BB.out HB_2.out) O_0.out.rdI O_0.out.rdJ (by first | exact HCpH0.out | exact HCpx0.out | exact HCpW0.out | exact HCp_0.out) O_1.out.rdI O_1.out.rdJ (by first | exact HCpH1.out | exact HCpx1.out | exact HCpW1.out | exact HCp_1.out)).mono ?_
            rintro e v3w ⟨y_r, z_r, rfl, hb, ho⟩
            obtain ⟨ao_r, c_r, bo_r, d_r, hy_r, hz_r⟩ := ho.shape
            rw [HLr.out] at hy_r
            rw [HMr.out] at hz_r
            subst hy_r
            subst hz_r
            have P3_0_0 := cell_later hb P2_0_0
            have P3_0_1 := cell_later hb P2_0_1
            have P3_0_2 := cell_later hb P2_0_2
            have P3_0_3 := cell_later hb P2_0_3
            have P3_0_4 := cell_later hb P2_0_4
            have P3_0_5 := cell_later hb P2_0_5
            have P3_1_0 := cell_later hb P2_1_0
            have P3_1_1 := cell_later hb P2_1_1
            have P3_1_2 := cell_later hb P2_1_2
            have P3_1_3 := cell_later hb P2_1_3
            have P3_1_4 := cell_later hb P2_1_4
            have P3_1_5 := cell_later hb P2_1_5
            have HB_3 := hide (below_on HB_2.out hb)
            have hz_3 : v2w.heap.size ≤ v3w.heap.size := hb.size
            have O_0n := hide (O_0.out.later hb)
            clear O_0
            have O_0 := O_0n
            clear O_0n
            have O_1n := hide (O_1.out.later hb)
            clear O_1
            have O_1 := O_1n
            clear O_1n
            have O_r : Hid (IvR v2w.heap.size v3w.heap.size v3w (.slice ao_r lr c_r) (.slice bo_r mr d_r) rs rp) := ho
            clear hb ho
            refine hK.out _ _ ⟨P3_0_0, P3_0_1, P3_0_2, P3_0_3, P3_0_4, P3_0_5, P3_1_0, P3_1_1, P3_1_2, P3_1_3, P3_1_4, P3_1_5⟩ (fun _ => ?_)
            clear hK K
            try simp only [Act.put, List.setIfInBounds_toArray, List.set_cons_zero, List.set_cons_succ, List.getElem_toArray, List.getElem_cons_zero, List.getElem_cons_succ]
            refine wpAnyH_ready (rs := [5]) (by kernel_rfl) (by simp) (AllReadyH.cons rfl (fun K hK => ?_) (AllReadyH.nil))
            go_simp
            have hb := below_alloc v3w (.cells #[.int .i64 0, .int .i64 0, .int .i64 0, .int .i64 0, .int .i64 0, .int .i64 0, .int .i64 0, .slice none 0 0, .slice none 0 0] 34)
            refine hK.out _ _ ⟨cell_later hb P3_0_0, cell_later hb P3_0_1, cell_later hb P3_0_2, cell_later hb P3_0_3, cell_later hb P3_0_4, cell_later hb P3_0_5, cell_later hb P3_1_0, cell_later hb P3_1_1, cell_later hb P3_1_2, cell_later hb P3_1_3, cell_later hb P3_1_4, cell_later hb P3_1_5⟩ (fun _ => ?_)
            clear hK K
            try simp only [Act.put, List.setIfInBounds_toArray, List.set_cons_zero, List.set_cons_succ, List.getElem_toArray, List.getElem_cons_zero, List.getElem_cons_succ]
            refine forgetH (fun wx => (wx.cell? ⟨w.heap.size, 0, none⟩ = some (.int .i64 n0_0) ∧ wx.cell? ⟨w.heap.size, 1, none⟩ = some (.int .i64 n0_1) ∧ wx.cell? ⟨w.heap.size, 2, none⟩ = some (.int .i64 n0_2) ∧ wx.cell? ⟨w.heap.size, 3, none⟩ = some (.int .i64 n0_3) ∧ wx.cell? ⟨w.heap.size, 4, none⟩ = some (.slice ay0 l0 cy0) ∧ wx.cell? ⟨w.heap.size, 5, none⟩ = some (.slice az0 m0 cz0) ∧ wx.cell? ⟨w.heap.size + 1, 0, none⟩ = some (.int .i64 n1_0) ∧ wx.cell? ⟨w.heap.size + 1, 1, none⟩ = some (.int .i64 n1_1) ∧ wx.cell? ⟨w.heap.size + 1, 2, none⟩ = some (.int .i64 n1_2) ∧ wx.cell? ⟨w.heap.size + 1, 3, none⟩ = some (.int .i64 n1_3) ∧ wx.cell? ⟨w.heap.size + 1, 4, none⟩ = some (.slice ay1 l1 cy1) ∧ wx.cell? ⟨w.heap.size + 1, 5, none⟩ = some (.slice az1 m1 cz1)) ∧ Below v3w.heap.size v3w wx ∧ Var9 wx v3w.heap.size (.int .i64 0) (.int .i64 0) (.int .i64 0) (.int .i64 0) (.int .i64 0) (.int .i64 0) (.int .i64 0) (.slice none 0 0) (.slice none 0 0) ∧ (∀ o, wx.frozen? ⟨v3w.heap.size, o, none⟩ = false) ∧ v3w.heap.size < wx.heap.size) ⟨⟨cell_later hb P3_0_0, cell_later hb P3_0_1, cell_later hb P3_0_2, cell_later hb P3_0_3, cell_later hb P3_0_4, cell_later hb P3_0_5, cell_later hb P3_1_0, cell_later hb P3_1_1, cell_later hb P3_1_2, cell_later hb P3_1_3, cell_later hb P3_1_4, cell_later hb P3_1_5⟩, hb, Var9_new _ _ _ _ _ _ _ _ _ _ _ , fun o => by simp [go_sem], by simp⟩ ?_
            clear hb
            rintro v4w ⟨⟨P4_0_0, P4_0_1, P4_0_2, P4_0_3, P4_0_4, P4_0_5, P4_1_0, P4_1_1, P4_1_2, P4_1_3, P4_1_4, P4_1_5⟩, hb, za, zf, hvl⟩
            have HB_4 := hide (below_on HB_3.out hb)
            have hz_4 : v3w.heap.size ≤ v4w.heap.size := hb.size
            have O_0n := hide (O_0.out.later hb)
            clear O_0
            have O_0 := O_0n
            clear O_0n
            have O_1n := hide (O_1.out.later hb)
            clear O_1
            have O_1 := O_1n
            clear O_1n
            have O_rn := hide (O_r.out.later hb)
            clear O_r
            have O_r := O_rn
            clear O_rn
            obtain ⟨hv, hhv⟩ : ∃ hv, v3w.heap.size = hv := ⟨_, rfl⟩
            have ZA := hide za
            have ZF := hide zf
            clear za zf hb
            rw [hhv] at ZA ZF hvl ⊢
            have hv2 : w16.heap.size ≤ hv := by omega
            have hdj : v3w.heap.size ≤ hv ∨ hv < v2w.heap.size := Or.inl (by omega)
            have HHv := hide hhv
            clear hhv
            refine wpAnyH_ready (rs := [6]) (by kernel_rfl) (by simp) (AllReadyH.cons rfl (fun K hK => ?_) (AllReadyH.nil))
            obtain ⟨Z_0, Z_1, Z_2, Z_3, Z_4, Z_5, Z_6, Z_7, Z_8⟩ := ZA.out
            have Y_0 := ZF.out 0
            have Y_1 := ZF.out 1
            have Y_2 := ZF.out 2
            have Y_3 := ZF.out 3
            have Y_4 := ZF.out 4
            have Y_5 := ZF.out 5
            have Y_6 := ZF.out 6
            have Y_7 := ZF.out 7
            have Y_8 := ZF.out 8
            go_simp
            have hn0 : w.heap.size ≠ hv := by omega
            have hn1 : w.heap.size + 1 ≠ hv := by omega
            have hw : Wr (fun y => y = hv) v4w (((((((((v4w.setCell ⟨hv, 0, none⟩ (.int .i64 code)).setCell ⟨hv, 1, none⟩ (.int .i64 rep)).setCell ⟨hv, 2, none⟩ (.int .i64 vlu)).setCell ⟨hv, 3, none⟩ (.int .i64 rq0)).setCell ⟨hv, 4, none⟩ (.int .i64 rq1)).setCell ⟨hv, 5, none⟩ (.int .i64 rq2)).setCell ⟨hv, 6, none⟩ (.int .i64 rq3)).setCell ⟨hv, 7, none⟩ (.slice ao_r lr c_r)).setCell ⟨hv, 8, none⟩ (.slice bo_r mr d_r)) := ((((((((((Wr.refl (fun y => y = hv) _).setCell (p := ⟨hv, 0, none⟩) rfl _).setCell (p := ⟨hv, 1, none⟩) rfl _).setCell (p := ⟨hv, 2, none⟩) rfl _).setCell (p := ⟨hv, 3, none⟩) rfl _).setCell (p := ⟨hv, 4, none⟩) rfl _).setCell (p := ⟨hv, 5, none⟩) rfl _).setCell (p := ⟨hv, 6, none⟩) rfl _).setCell (p := ⟨hv, 7, none⟩) rfl _).setCell (p := ⟨hv, 8, none⟩) rfl _)
            have HW := hide hw
            clear hw
            refine hK.out _ _ ⟨(set9_other hn0).trans P4_0_0, (set9_other hn0).trans P4_0_1, (set9_other hn0).trans P4_0_2, (set9_other hn0).trans P4_0_3, (set9_other hn0).trans P4_0_4, (set9_other hn0).trans P4_0_5, (set9_other hn1).trans P4_1_0, (set9_other hn1).trans P4_1_1, (set9_other hn1).trans P4_1_2, (set9_other hn1).trans P4_1_3, (set9_other hn1).trans P4_1_4, (set9_other hn1).trans P4_1_5⟩ (fun _ => ?_)
            clear hK K
            try simp only [Act.put, List.setIfInBounds_toArray, List.set_cons_zero, List.set_cons_succ, List.getElem_toArray, List.getElem_cons_zero, List.getElem_cons_succ]
            refine wpAnyH_done (by kernel_rfl) ?_ _
            go_wp2_with fail
            go_meet
            case rel =>
              refine ⟨hv, ao_r, c_r, bo_r, d_r, rfl, hv2, by simpa using hvl, ⟨by simp [go_sem, Z_0], by simp [go_sem, Z_1], by simp [go_sem, Z_2], by simp [go_sem, Z_3], by simp [go_sem, Z_4], by simp [go_sem, Z_5], by simp [go_sem, Z_6], by simp [go_sem, Z_7], by simp [go_sem, Z_8]⟩, ?_, ?_⟩
              · exact IvR.up (O_r.out.wr HW.out (fun b h1 h2 => by show ¬ (b = hv); omega)) (by omega) (by first | (simp; done) | (simp; omega))
              · exact HB_4.out.trans (HW.out.below HB_4.out.size (fun b hb => by subst hb; exact hv2))
          · skip
            go_simp
            have hb := below_alloc v2w (.cells #[.int .i64 0, .int .i64 0, .int .i64 0, .int .i64 0, .int .i64 0, .int .i64 0, .int .i64 0, .slice none 0 0, .slice none 0 0] 34)
            refine hK.out _ _ ⟨cell_later hb P2_0_0, cell_later hb P2_0_1, cell_later hb P2_0_2, cell_later hb P2_0_3, cell_later hb P2_0_4, cell_later hb P2_0_5, cell_later hb P2_1_0, cell_later hb P2_1_1, cell_later hb P2_1_2, cell_later hb P2_1_3, cell_later hb P2_1_4, cell_later hb P2_1_5⟩ (fun _ => ?_)
            clear hK K
            try simp only [Act.put, List.setIfInBounds_toArray, List.set_cons_zero, List.set_cons_succ, List.getElem_toArray, List.getElem_cons_zero, List.getElem_cons_succ]
            refine forgetH (fun wx => (wx.cell? ⟨w.heap.size, 0, none⟩ = some (.int .i64 n0_0) ∧ wx.cell? ⟨w.heap.size, 1, none⟩ = some (.int .i64 n0_1) ∧ wx.cell? ⟨w.heap.size, 2, none⟩ = some (.int .i64 n0_2) ∧ wx.cell? ⟨w.heap.size, 3, none⟩ = some (.int .i64 n0_3) ∧ wx.cell? ⟨w.heap.size, 4, none⟩ = some (.slice ay0 l0 cy0) ∧ wx.cell? ⟨w.heap.size, 5, none⟩ = some (.slice az0 m0 cz0) ∧ wx.cell? ⟨w.heap.size + 1, 0, none⟩ = some (.int .i64 n1_0) ∧ wx.cell? ⟨w.heap.size + 1, 1, none⟩ = some (.int .i64 n1_1) ∧ wx.cell? ⟨w.heap.size + 1, 2, none⟩ = some (.int .i64 n1_2) ∧ wx.cell? ⟨w.heap.size + 1, 3, none⟩ = some (.int .i64 n1_3) ∧ wx.cell? ⟨w.heap.size + 1, 4, none⟩ = some (.slice ay1 l1 cy1) ∧ wx.cell? ⟨w.heap.size + 1, 5, none⟩ = some (.slice az1 m1 cz1)) ∧ Below v2w.heap.size v2w wx ∧ Var9 wx v2w.heap.size (.int .i64 0) (.int .i64 0) (.int .i64 0) (.int .i64 0) (.int .i64 0) (.int .i64 0) (.int .i64 0) (.slice none 0 0) (.slice none 0 0) ∧ (∀ o, wx.frozen? ⟨v2w.heap.size, o, none⟩ = false) ∧ v2w.heap.size < wx.heap.size) ⟨⟨cell_later hb P2_0_0, cell_later hb P2_0_1, cell_later hb P2_0_2, cell_later hb P2_0_3, cell_later hb P2_0_4, cell_later hb P2_0_5, cell_later hb P2_1_0, cell_later hb P2_1_1, cell_later hb P2_1_2, cell_later hb P2_1_3, cell_later hb P2_1_4, cell_later hb P2_1_5⟩, hb, Var9_new _ _ _ _ _ _ _ _ _ _ _ , fun o => by simp [go_sem], by simp⟩ ?_
            clear hb
            rintro v3w ⟨⟨P3_0_0, P3_0_1, P3_0_2, P3_0_3, P3_0_4, P3_0_5, P3_1_0, P3_1_1, P3_1_2, P3_1_3, P3_1_4, P3_1_5⟩, hb, za, zf, hvl⟩
            have HB_3 := hide (below_on HB_2.out hb)
            have hz_3 : v2w.heap.size ≤ v3w.heap.size := hb.size
            have O_0n := hide (O_0.out.later hb)
            clear O_0
            have O_0 := O_0n
            clear O_0n
            have O_1n := hide (O_1.out.later hb)
            clear O_1
            have O_1 := O_1n
            clear O_1n
            obtain ⟨hv, hhv⟩ : ∃ hv, v2w.heap.size = hv := ⟨_, rfl⟩
            have ZA := hide za
            have ZF := hide zf
            clear za zf hb
            rw [hhv] at ZA ZF hvl ⊢
            have hv2 : w16.heap.size ≤ hv := by omega
            have HHv := hide hhv
            clear hhv
            refine wpAnyH_ready (rs := [4]) (by kernel_rfl) (by simp) (AllReadyH.cons rfl (fun K hK => ?_) (AllReadyH.nil))
            go_simp
            go_at_call 10
            refine (HI.out _ _ _ _ _ _ _ _ _ (below_on BB.out HB_3.out) O_0.out.rdI O_0.out.rdJ (by first | exact HCpH0.out | exact HCpx0.out | exact HCpW0.out | exact HCp_0.out) O_1.out.rdI O_1.out.rdJ (by first | exact HCpH1.out | exact HCpx1.out | exact HCpW1.out | exact HCp_1.out)).mono ?_
            rintro e v4w ⟨y_r, z_r, rfl, hb, ho⟩
            obtain ⟨ao_r, c_r, bo_r, d_r, hy_r, hz_r⟩ := ho.shape
            rw [HLr.out] at hy_r
            rw [HMr.out] at hz_r
            subst hy_r
            subst hz_r
            have P4_0_0 := cell_later hb P3_0_0
            have P4_0_1 := cell_later hb P3_0_1
            have P4_0_2 := cell_later hb P3_0_2
            have P4_0_3 := cell_later hb P3_0_3
            have P4_0_4 := cell_later hb P3_0_4
            have P4_0_5 := cell_later hb P3_0_5
            have P4_1_0 := cell_later hb P3_1_0
            have P4_1_1 := cell_later hb P3_1_1
            have P4_1_2 := cell_later hb P3_1_2
            have P4_1_3 := cell_later hb P3_1_3
            have P4_1_4 := cell_later hb P3_1_4
            have P4_1_5 := cell_later hb P3_1_5
            have HB_4 := hide (below_on HB_3.out hb)
            have hz_4 : v3w.heap.size ≤ v4w.heap.size := hb.size
            have O_0n := hide (O_0.out.later hb)
            clear O_0
            have O_0 := O_0n
            clear O_0n
            have O_1n := hide (O_1.out.later hb)
            clear O_1
            have O_1 := O_1n
            clear O_1n
            have O_r : Hid (IvR v3w.heap.size v4w.heap.size v4w (.slice ao_r lr c_r) (.slice bo_r mr d_r) rs rp) := ho
            have ZAn := hide (ZA.out.later hb)
            clear ZA
            have ZA := ZAn
            clear ZAn
            have ZFn : Hid (∀ o, v4w.frozen? ⟨hv, o, none⟩ = false) := fun o => ((bcell hb).2 _ _ hvl).trans (ZF.out o)
            clear ZF
            have ZF := ZFn
            clear ZFn
            have hdj : v4w.heap.size ≤ hv ∨ hv < v3w.heap.size := Or.inr hvl
            have hvl2 : hv < v4w.heap.size := by omega
            clear hvl
            have hvl := hvl2
            clear hvl2
            clear hb ho
            refine hK.out _ _ ⟨P4_0_0, P4_0_1, P4_0_2, P4_0_3, P4_0_4, P4_0_5, P4_1_0, P4_1_1, P4_1_2, P4_1_3, P4_1_4, P4_1_5⟩ (fun _ => ?_)
            clear hK K
            try simp only [Act.put, List.setIfInBounds_toArray, List.set_cons_zero, List.set_cons_succ, List.getElem_toArray, List.getElem_cons_zero, List.getElem_cons_succ]
            refine wpAnyH_ready (rs := [6]) (by kernel_rfl) (by simp) (AllReadyH.cons rfl (fun K hK => ?_) (AllReadyH.nil))
            obtain ⟨Z_0, Z_1, Z_2, Z_3, Z_4, Z_5, Z_6, Z_7, Z_8⟩ := ZA.out
            have Y_0 := ZF.out 0
            have Y_1 := ZF.out 1
            have Y_2 := ZF.out 2
            have Y_3 := ZF.out 3
            have Y_4 := ZF.out 4
            have Y_5 := ZF.out 5
            have Y_6 := ZF.out 6
            have Y_7 := ZF.out 7
            have Y_8 := ZF.out 8
            go_simp
            have hn0 : w.heap.size ≠ hv := by omega
            have hn1 : w.heap.size + 1 ≠ hv := by omega
            have hw : Wr (fun y => y = hv) v4w (((((((((v4w.setCell ⟨hv, 0, none⟩ (.int .i64 code)).setCell ⟨hv, 1, none⟩ (.int .i64 rep)).setCell ⟨hv, 2, none⟩ (.int .i64 vlu)).setCell ⟨hv, 3, none⟩ (.int .i64 rq0)).setCell ⟨hv, 4, none⟩ (.int .i64 rq1)).setCell ⟨hv, 5, none⟩ (.int .i64 rq2)).setCell ⟨hv, 6, none⟩ (.int .i64 rq3)).setCell ⟨hv, 7, none⟩ (.slice ao_r lr c_r)).setCell ⟨hv, 8, none⟩ (.slice bo_r mr d_r)) := ((((((((((Wr.refl (fun y => y = hv) _).setCell (p := ⟨hv, 0, none⟩) rfl _).setCell (p := ⟨hv, 1, none⟩) rfl _).setCell (p := ⟨hv, 2, none⟩) rfl _).setCell (p := ⟨hv, 3, none⟩) rfl _).setCell (p := ⟨hv, 4, none⟩) rfl _).setCell (p := ⟨hv, 5, none⟩) rfl _).setCell (p := ⟨hv, 6, none⟩) rfl _).setCell (p := ⟨hv, 7, none⟩) rfl _).setCell (p := ⟨hv, 8, none⟩) rfl _)
            have HW := hide hw
            clear hw
            refine hK.out _ _ ⟨(set9_other hn0).trans P4_0_0, (set9_other hn0).trans P4_0_1, (set9_other hn0).trans P4_0_2, (set9_other hn0).trans P4_0_3, (set9_other hn0).trans P4_0_4, (set9_other hn0).trans P4_0_5, (set9_other hn1).trans P4_1_0, (set9_other hn1).trans P4_1_1, (set9_other hn1).trans P4_1_2, (set9_other hn1).trans P4_1_3, (set9_other hn1).trans P4_1_4, (set9_other hn1).trans P4_1_5⟩ (fun _ => ?_)
            clear hK K
            try simp only [Act.put, List.setIfInBounds_toArray, List.set_cons_zero, List.set_cons_succ, List.getElem_toArray, List.getElem_cons_zero, List.getElem_cons_succ]
            refine wpAnyH_done (by kernel_rfl) ?_ _
            go_wp2_with fail
            go_meet
            case rel =>
              refine ⟨hv, ao_r, c_r, bo_r, d_r, rfl, hv2, by simpa using hvl, ⟨by simp [go_sem, Z_0], by simp [go_sem, Z_1], by simp [go_sem, Z_2], by simp [go_sem, Z_3], by simp [go_sem, Z_4], by simp [go_sem, Z_5], by simp [go_sem, Z_6], by simp [go_sem, Z_7], by simp [go_sem, Z_8]⟩, ?_, ?_⟩
              · exact IvR.up (O_r.out.wr HW.out (fun b h1 h2 => by show ¬ (b = hv); omega)) (by omega) (by first | (simp; done) | (simp; omega))
              · exact HB_4.out.trans (HW.out.below HB_4.out.size (fun b hb => by subst hb; exact hv2))
        · skip
          go_simp
          have hb := below_alloc v1w (.cells #[.int .i64 0, .int .i64 0, .int .i64 0, .int .i64 0, .int .i64 0, .int .i64 0, .int .i64 0, .slice none 0 0, .slice none 0 0] 34)
          refine hK.out _ _ ⟨cell_later hb P1_0_0, cell_later hb P1_0_1, cell_later hb P1_0_2, cell_later hb P1_0_3, cell_later hb P1_0_4, cell_later hb P1_0_5, cell_later hb P1_1_0, cell_later hb P1_1_1, cell_later hb P1_1_2, cell_later hb P1_1_3, cell_later hb P1_1_4, cell_later hb P1_1_5⟩ (fun _ => ?_)
          clear hK K
          try simp only [Act.put, List.setIfInBounds_toArray, List.set_cons_zero, List.set_cons_succ, List.getElem_toArray, List.getElem_cons_zero, List.getElem_cons_succ]
          refine forgetH (fun wx => (wx.cell? ⟨w.heap.size, 0, none⟩ = some (.int .i64 n0_0) ∧ wx.cell? ⟨w.heap.size, 1, none⟩ = some (.int .i64 n0_1) ∧ wx.cell? ⟨w.heap.size, 2, none⟩ = some (.int .i64 n0_2) ∧ wx.cell? ⟨w.heap.size, 3, none⟩ = some (.int .i64 n0_3) ∧ wx.cell? ⟨w.heap.size, 4, none⟩ = some (.slice ay0 l0 cy0) ∧ wx.cell? ⟨w.heap.size, 5, none⟩ = some (.slice az0 m0 cz0) ∧ wx.cell? ⟨w.heap.size + 1, 0, none⟩ = some (.int .i64 n1_0) ∧ wx.cell? ⟨w.heap.size + 1, 1, none⟩ = some (.int .i64 n1_1) ∧ wx.cell? ⟨w.heap.size + 1, 2, none⟩ = some (.int .i64 n1_2) ∧ wx.cell? ⟨w.heap.size + 1, 3, none⟩ = some (.int .i64 n1_3) ∧ wx.cell? ⟨w.heap.size + 1, 4, none⟩ = some (.slice ay1 l1 cy1) ∧ wx.cell? ⟨w.heap.size + 1, 5, none⟩ = some (.slice az1 m1 cz1)) ∧ Below v1w.heap.size v1w wx ∧ Var9 wx v1w.heap.size (.int .i64 0) (.int .i64 0) (.int .i64 0) (.int .i64 0) (.int .i64 0) (.int .i64 0) (.int .i64 0) (.slice none 0 0) (.slice none 0 0) ∧ (∀ o, wx.frozen? ⟨v1w.heap.size, o, none⟩ = false) ∧ v1w.heap.size < wx.heap.size) ⟨⟨cell_later hb P1_0_0, cell_later hb P1_0_1, cell_later hb P1_0_2, cell_later hb P1_0_3, cell_later hb P1_0_4, cell_later hb P1_0_5, cell_later hb P1_1_0, cell_later hb P1_1_1, cell_later hb P1_1_2, cell_later hb P1_1_3, cell_later hb P1_1_4, cell_later hb P1_1_5⟩, hb, Var9_new _ _ _ _ _ _ _ _ _ _ _ , fun o => by simp [go_sem], by simp⟩ ?_
          clear hb
          rintro v2w ⟨⟨P2_0_0, P2_0_1, P2_0_2, P2_0_3, P2_0_4, P2_0_5, P2_1_0, P2_1_1, P2_1_2, P2_1_3, P2_1_4, P2_1_5⟩, hb, za, zf, hvl⟩
          have HB_2 := hide (below_on HB_1.out hb)
          have hz_2 : v1w.heap.size ≤ v2w.heap.size := hb.size
          have O_0n := hide (O_0.out.later hb)
          clear O_0
          have O_0 := O_0n
          clear O_0n
          obtain ⟨hv, hhv⟩ : ∃ hv, v1w.heap.size = hv := ⟨_, rfl⟩
          have ZA := hide za
          have ZF := hide zf
          clear za zf hb
          rw [hhv] at ZA ZF hvl ⊢
          have hv2 : w16.heap.size ≤ hv := by omega
          have HHv := hide hhv
          clear hhv
          refine wpAnyH_ready (rs := [3]) (by kernel_rfl) (by simp) (AllReadyH.cons rfl (fun K hK => ?_) (AllReadyH.nil))
          go_simp
          go_at_call 9
          refine (toOpC n1_0 n1_1 n1_2 n1_3 (HY1.out.later (below_on BB.out HB_2.out)) (HZZ1.out.later (below_on BB.out HB_2.out)) (by rw [HL1.out]; exact hxl1) HQ1.out.1 HQ1.out.2.1).mono ?_
          rintro e v3w ⟨y_1, z_1, rfl, hb, ho, hcp⟩
          obtain ⟨ao_1, c_1, bo_1, d_1, hy_1, hz_1⟩ := ho.shape
          rw [HL1.out] at hy_1
          rw [HM1.out] at hz_1
          subst hy_1
          subst hz_1
          have HCp_1 := hide hcp
          clear hcp
          have P3_0_0 := cell_later hb P2_0_0
          have P3_0_1 := cell_later hb P2_0_1
          have P3_0_2 := cell_later hb P2_0_2
          have P3_0_3 := cell_later hb P2_0_3
          have P3_0_4 := cell_later hb P2_0_4
          have P3_0_5 := cell_later hb P2_0_5
          have P3_1_0 := cell_later hb P2_1_0
          have P3_1_1 := cell_later hb P2_1_1
          have P3_1_2 := cell_later hb P2_1_2
          have P3_1_3 := cell_later hb P2_1_3
          have P3_1_4 := cell_later hb P2_1_4
          have P3_1_5 := cell_later hb P2_1_5
          have HB_3 := hide (below_on HB_2.out hb)
          have hz_3 : v2w.heap.size ≤ v3w.heap.size := hb.size
          have O_0n := hide (O_0.out.later hb)
          clear O_0
          have O_0 := O_0n
          clear O_0n
          have O_1 := hide (ho)
          have ZAn := hide (ZA.out.later hb)
          clear ZA
          have ZA := ZAn
          clear ZAn
          have ZFn : Hid (∀ o, v3w.frozen? ⟨hv, o, none⟩ = false) := fun o => ((bcell hb).2 _ _ hvl).trans (ZF.out o)
          clear ZF
          have ZF := ZFn
          clear ZFn
          have hvl2 : hv < v3w.heap.size := by omega
          clear hvl
          have hvl := hvl2
          clear hvl2
          clear hb ho
          refine hK.out _ _ ⟨P3_0_0, P3_0_1, P3_0_2, P3_0_3, P3_0_4, P3_0_5, P3_1_0, P3_1_1, P3_1_2, P3_1_3, P3_1_4, P3_1_5⟩ (fun _ => ?_)
          clear hK K
          try simp only [Act.put, List.setIfInBounds_toArray, List.set_cons_zero, List.set_cons_succ, List.getElem_toArray, List.getElem_cons_zero, List.getElem_cons_succ]
          refine wpAnyH_ready (rs := [4]) (by kernel_rfl) (by simp) (AllReadyH.cons rfl (fun K hK => ?_) (AllReadyH.nil))
          go_simp
          go_at_call 10
          refine (HI.out _ _ _ _ _ _ _ _ _ (below_on BB.out HB_3.out) O_0.out.rdI O_0.out.rdJ (by first | exact HCpH0.out | exact HCpx0.out | exact HCpW0.out | exact HCp_0.out) O_1.out.rdI O_1.out.rdJ (by first | exact HCpH1.out | exact HCpx1.out | exact HCpW1.out | exact HCp_1.out)).mono ?_
          rintro e v4w ⟨y_r, z_r, rfl, hb, ho⟩
          obtain ⟨ao_r, c_r, bo_r, d_r, hy_r, hz_r⟩ := ho.shape
          rw [HLr.out] at hy_r
          rw [HMr.out] at hz_r
          subst hy_r
          subst hz_r
          have P4_0_0 := cell_later hb P3_0_0
          have P4_0_1 := cell_later hb P3_0_1
          have P4_0_2 := cell_later hb P3_0_2
          have P4_0_3 := cell_later hb P3_0_3
          have P4_0_4 := cell_later hb P3_0_4
          have P4_0_5 := cell_later hb P3_0_5
          have P4_1_0 := cell_later hb P3_1_0
          have P4_1_1 := cell_later hb P3_1_1
          have P4_1_2 := cell_later hb P3_1_2
          have P4_1_3 := cell_later hb P3_1_3
          have P4_1_4 := cell_later hb P3_1_4
          have P4_1_5 := cell_later hb P3_1_5
          have HB_4 := hide (below_on HB_3.out hb)
          have hz_4 : v3w.heap.size ≤ v4w.heap.size := hb.size
          have O_0n := hide (O_0.out.later hb)
          clear O_0
          have O_0 := O_0n
          clear O_0n
          have O_1n := hide (O_1.out.later hb)
          clear O_1
          have O_1 := O_1n
          clear O_1n
          have O_r : Hid (IvR v3w.heap.size v4w.heap.size v4w (.slice ao_r lr c_r) (.slice bo_r mr d_r) rs rp) := ho
          have ZAn := hide (ZA.out.later hb)
          clear ZA
          have ZA := ZAn
          clear ZAn
          have ZFn : Hid (∀ o, v4w.frozen? ⟨hv, o, none⟩ = false) := fun o => ((bcell hb).2 _ _ hvl).trans (ZF.out o)
          clear ZF
          have ZF := ZFn
          clear ZFn
          have hdj : v4w.heap.size ≤ hv ∨ hv < v3w.heap.size := Or.inr hvl
          have hvl2 : hv < v4w.heap.size := by omega
          clear hvl
          have hvl := hvl2
          clear hvl2
          clear hb ho
          refine hK.out _ _ ⟨P4_0_0, P4_0_1, P4_0_2, P4_0_3, P4_0_4, P4_0_5, P4_1_0, P4_1_1, P4_1_2, P4_1_3, P4_1_4, P4_1_5⟩ (fun _ => ?_)
          clear hK K
          try simp only [Act.put, List.setIfInBounds_toArray, List.set_cons_zero, List.set_cons_succ, List.getElem_toArray, List.getElem_cons_zero, List.getElem_cons_succ]
          refine wpAnyH_ready (rs := [6]) (by kernel_rfl) (by simp) (AllReadyH.cons rfl (fun K hK => ?_) (AllReadyH.nil))
          obtain ⟨Z_0, Z_1, Z_2, Z_3, Z_4, Z_5, Z_6, Z_7, Z_8⟩ := ZA.out
          have Y_0 := ZF.out 0
          have Y_1 := ZF.out 1
          have Y_2 := ZF.out 2
          have Y_3 := ZF.out 3
          have Y_4 := ZF.out 4
          have Y_5 := ZF.out 5
          have Y_6 := ZF.out 6
          have Y_7 := ZF.out 7
          have Y_8 := ZF.out 8
          go_simp
          have hn0 : w.heap.size ≠ hv := by omega
          have hn1 : w.heap.size + 1 ≠ hv := by omega
          have hw : Wr (fun y => y = hv) v4w (((((((((v4w.setCell ⟨hv, 0, none⟩ (.int .i64 code)).setCell ⟨hv, 1, none⟩ (.int .i64 rep)).setCell ⟨hv, 2, none⟩ (.int .i64 vlu)).setCell ⟨hv, 3, none⟩ (.int .i64 rq0)).setCell ⟨hv, 4, none⟩ (.int .i64 rq1)).setCell ⟨hv, 5, none⟩ (.int .i64 rq2)).setCell ⟨hv, 6, none⟩ (.int .i64 rq3)).setCell ⟨hv, 7, none⟩ (.slice ao_r lr c_r)).setCell ⟨hv, 8, none⟩ (.slice bo_r mr d_r)) := ((((((((((Wr.refl (fun y => y = hv) _).setCell (p := ⟨hv, 0, none⟩) rfl _).setCell (p := ⟨hv, 1, none⟩) rfl _).setCell (p := ⟨hv, 2, none⟩) rfl _).setCell (p := ⟨hv, 3, none⟩) rfl _).setCell (p := ⟨hv, 4, none⟩) rfl _).setCell (p := ⟨hv, 5, none⟩) rfl _).setCell (p := ⟨hv, 6, none⟩) rfl _).setCell (p := ⟨hv, 7, none⟩) rfl _).setCell (p := ⟨hv, 8, none⟩) rfl _)
          have HW := hide hw
          clear hw
          refine hK.out _ _ ⟨(set9_other hn0).trans P4_0_0, (set9_other hn0).trans P4_0_1, (set9_other hn0).trans P4_0_2, (set9_other hn0).trans P4_0_3, (set9_other hn0).trans P4_0_4, (set9_other hn0).trans P4_0_5, (set9_other hn1).trans P4_1_0, (set9_other hn1).trans P4_1_1, (set9_other hn1).trans P4_1_2, (set9_other hn1).trans P4_1_3, (set9_other hn1).trans P4_1_4, (set9_other hn1).trans P4_1_5⟩ (fun _ => ?_)
          clear hK K
          try simp only [Act.put, List.setIfInBounds_toArray, List.set_cons_zero, List.set_cons_succ, List.getElem_toArray, List.getElem_cons_zero, List.getElem_cons_succ]
          refine wpAnyH_done (by kernel_rfl) ?_ _
          go_wp2_with fail
          go_meet
          case rel =>
            refine ⟨hv, ao_r, c_r, bo_r, d_r, rfl, hv2, by simpa using hvl, ⟨by simp [go_sem, Z_0], by simp [go_sem, Z_1], by simp [go_sem, Z_2], by simp [go_sem, Z_3], by simp [go_sem, Z_4], by simp [go_sem, Z_5], by simp [go_sem, Z_6], by simp [go_sem, Z_7], by simp [go_sem, Z_8]⟩, ?_, ?_⟩
            · exact IvR.up (O_r.out.wr HW.out (fun b h1 h2 => by show ¬ (b = hv); omega)) (by omega) (by first | (simp; done) | (simp; omega))
            · exact HB_4.out.trans (HW.out.below HB_4.out.size (fun b hb => by subst hb; exact hv2))
      · skip
        go_simp
        have hb := below_alloc v0w (.cells #[.int .i64 0, .int .i64 0, .int .i64 0, .int .i64 0, .int .i64 0, .int .i64 0, .int .i64 0, .slice none 0 0, .slice none 0 0] 34)
        refine hK.out _ _ ⟨cell_later hb P0_0_0, cell_later hb P0_0_1, cell_later hb P0_0_2, cell_later hb P0_0_3, cell_later hb P0_0_4, cell_later hb P0_0_5, cell_later hb P0_1_0, cell_later hb P0_1_1, cell_later hb P0_1_2, cell_later hb P0_1_3, cell_later hb P0_1_4, cell_later hb P0_1_5⟩ (fun _ => ?_)
        clear hK K
        try simp only [Act.put, List.setIfInBounds_toArray, List.set_cons_zero, List.set_cons_succ, List.getElem_toArray, List.getElem_cons_zero, List.getElem_cons_succ]
        refine forgetH (fun wx => (wx.cell? ⟨w.heap.size, 0, none⟩ = some (.int .i64 n0_0) ∧ wx.cell? ⟨w.heap.size, 1, none⟩ = some (.int .i64 n0_1) ∧ wx.cell? ⟨w.heap.size, 2, none⟩ = some (.int .i64 n0_2) ∧ wx.cell? ⟨w.heap.size, 3, none⟩ = some (.int .i64 n0_3) ∧ wx.cell? ⟨w.heap.size, 4, none⟩ = some (.slice ay0 l0 cy0) ∧ wx.cell? ⟨w.heap.size, 5, none⟩ = some (.slice az0 m0 cz0) ∧ wx.cell? ⟨w.heap.size + 1, 0, none⟩ = some (.int .i64 n1_0) ∧ wx.cell? ⟨w.heap.size + 1, 1, none⟩ = some (.int .i64 n1_1) ∧ wx.cell? ⟨w.heap.size + 1, 2, none⟩ = some (.int .i64 n1_2) ∧ wx.cell? ⟨w.heap.size + 1, 3, none⟩ = some (.int .i64 n1_3) ∧ wx.cell? ⟨w.heap.size + 1, 4, none⟩ = some (.slice ay1 l1 cy1) ∧ wx.cell? ⟨w.heap.size + 1, 5, none⟩ = some (.slice az1 m1 cz1)) ∧ Below v0w.heap.size v0w wx ∧ Var9 wx v0w.heap.size (.int .i64 0) (.int .i64 0) (.int .i64 0) (.int .i64 0) (.int .i64 0) (.int .i64 0) (.int .i64 0) (.slice none 0 0) (.slice none 0 0) ∧ (∀ o, wx.frozen? ⟨v0w.heap.size, o, none⟩ = false) ∧ v0w.heap.size < wx.heap.size) ⟨⟨cell_later hb P0_0_0, cell_later hb P0_0_1, cell_later hb P0_0_2, cell_later hb P0_0_3, cell_later hb P0_0_4, cell_later hb P0_0_5, cell_later hb P0_1_0, cell_later hb P0_1_1, cell_later hb P0_1_2, cell_later hb P0_1_3, cell_later hb P0_1_4, cell_later hb P0_1_5⟩, hb, Var9_new _ _ _ _ _ _ _ _ _ _ _ , fun o => by simp [go_sem], by simp⟩ ?_
        clear hb
        rintro v1w ⟨⟨P1_0_0, P1_0_1, P1_0_2, P1_0_3, P1_0_4, P1_0_5, P1_1_0, P1_1_1, P1_1_2, P1_1_3, P1_1_4, P1_1_5⟩, hb, za, zf, hvl⟩
        have HB_1 := hide (below_on HB_0.out hb)
        have hz_1 : v0w.heap.size ≤ v1w.heap.size := hb.size
        obtain ⟨hv, hhv⟩ : ∃ hv, v0w.heap.size = hv := ⟨_, rfl⟩
        have ZA := hide za
        have ZF := hide zf
        clear za zf hb
        rw [hhv] at ZA ZF hvl ⊢
        have hv2 : w16.heap.size ≤ hv := by omega
        have HHv := hide hhv
        clear hhv
        refine wpAnyH_ready (rs := [1]) (by kernel_rfl) (by simp) (AllReadyH.cons rfl (fun K hK => ?_) (AllReadyH.nil))
        go_simp
        go_at_call 8
        refine (toRaftC n0_0 n0_1 n0_2 n0_3 (HY0.out.later (below_on BB.out HB_1.out)) (HZZ0.out.later (below_on BB.out HB_1.out)) (by rw [HL0.out]; exact hxl0) HQ0.out.1 HQ0.out.2.1).mono ?_
        rintro e v2w ⟨y_0, z_0, rfl, hb, ho, hcp⟩
        obtain ⟨ao_0, c_0, bo_0, d_0, hy_0, hz_0⟩ := ho.shape
        rw [HL0.out] at hy_0
        rw [HM0.out] at hz_0
        subst hy_0
        subst hz_0
        have HCp_0 := hide hcp
        clear hcp
        have P2_0_0 := cell_later hb P1_0_0
        have P2_0_1 := cell_later hb P1_0_1
        have P2_0_2 := cell_later hb P1_0_2
        have P2_0_3 := cell_later hb P1_0_3
        have P2_0_4 := cell_later hb P1_0_4
        have P2_0_5 := cell_later hb P1_0_5
        have P2_1_0 := cell_later hb P1_1_0
        have P2_1_1 := cell_later hb P1_1_1
        have P2_1_2 := cell_later hb P1_1_2
        have P2_1_3 := cell_later hb P1_1_3
        have P2_1_4 := cell_later hb P1_1_4
        have P2_1_5 := cell_later hb P1_1_5
        have HB_2 := hide (below_on HB_1.out hb)
        have hz_2 : v1w.heap.size ≤ v2w.heap.size := hb.size
        have O_0 := hide (ho)
        have ZAn := hide (ZA.out.later hb)
        clear ZA
        have ZA := ZAn
        clear ZAn
        have ZFn : Hid (∀ o, v2w.frozen? ⟨hv, o, none⟩ = false) := fun o => ((bcell hb).2 _ _ hvl).trans (ZF.out o)
        clear ZF
        have ZF := ZFn
        clear ZFn
        have hvl2 : hv < v2w.heap.size := by omega
        clear hvl
        have hvl := hvl2
        clear hvl2
        clear hb ho
        refine hK.out _ _ ⟨P2_0_0, P2_0_1, P2_0_2, P2_0_3, P2_0_4, P2_0_5, P2_1_0, P2_1_1, P2_1_2, P2_1_3, P2_1_4, P2_1_5⟩ (fun _ => ?_)
        clear hK K
        try simp only [Act.put, List.setIfInBounds_toArray, List.set_cons_zero, List.set_cons_succ, List.getElem_toArray, List.getElem_cons_zero, List.getElem_cons_succ]
        refine wpAnyH_ready (rs := [3]) (by kernel_rfl) (by simp) (AllReadyH.cons rfl (fun K hK => ?_) (AllReadyH.nil))
        go_simp
        go_at_call 9
        refine (toOpC n1_0 n1_1 n1_2 n1_3 (HY1.out.later (below_on BB.out HB_2.out)) (HZZ1.out.later (below_on BB.out HB_2.out)) (by rw [HL1.out]; exact hxl1) HQ1.out.1 HQ1.out.2.1).mono ?_
        rintro e v3w ⟨y_1, z_1, rfl, hb, ho, hcp⟩
        obtain ⟨ao_1, c_1, bo_1, d_1, hy_1, hz_1⟩ := ho.shape
        rw [HL1.out] at hy_1
        rw [HM1.out] at hz_1
        subst hy_1
        subst hz_1
        have HCp_1 := hide hcp
        clear hcp
        have P3_0_0 := cell_later hb P2_0_0
        have P3_0_1 := cell_later hb P2_0_1
        have P3_0_2 := cell_later hb P2_0_2
        have P3_0_3 := cell_later hb P2_0_3
        have P3_0_4 := cell_later hb P2_0_4
        have P3_0_5 := cell_later hb P2_0_5
        have P3_1_0 := cell_later hb P2_1_0
        have P3_1_1 := cell_later hb P2_1_1
        have P3_1_2 := cell_later hb P2_1_2
        have P3_1_3 := cell_later hb P2_1_3
        have P3_1_4 := cell_later hb P2_1_4
        have P3_1_5 := cell_later hb P2_1_5
        have HB_3 := hide (below_on HB_2.out hb)
        have hz_3 : v2w.heap.size ≤ v3w.heap.size := hb.size
        have O_0n := hide (O_0.out.later hb)
        clear O_0
        have O_0 := O_0n
        clear O_0n
        have O_1 := hide (ho)
        have ZAn := hide (ZA.out.later hb)
        clear ZA
        have ZA := ZAn
        clear ZAn
        have ZFn : Hid (∀ o, v3w.frozen? ⟨hv, o, none⟩ = false) := fun o => ((bcell hb).2 _ _ hvl).trans (ZF.out o)
        clear ZF
        have ZF := ZFn
        clear ZFn
        have hvl2 : hv < v3w.heap.size := by omega
        clear hvl
        have hvl := hvl2
        clear hvl2
        clear hb ho
        refine hK.out _ _ ⟨P3_0_0, P3_0_1, P3_0_2, P3_0_3, P3_0_4, P3_0_5, P3_1_0, P3_1_1, P3_1_2, P3_1_3, P3_1_4, P3_1_5⟩ (fun _ => ?_)
        clear hK K
        try simp only [Act.put, List.setIfInBounds_toArray, List.set_cons_zero, List.set_cons_succ, List.getElem_toArray, List.getElem_cons_zero, List.getElem_cons_succ]
        refine wpAnyH_ready (rs := [4]) (by kernel_rfl) (by simp) (AllReadyH.cons rfl (fun K hK => ?_) (AllReadyH.nil))
        go_simp
        go_at_call 10
        refine (HI.out _ _ _ _ _ _ _ _ _ (below_on BB.out HB_3.out) O_0.out.rdI O_0.out.rdJ (by first | exact HCpH0.out | exact HCpx0.out | exact HCpW0.out | exact HCp_0.out) O_1.out.rdI O_1.out.rdJ (by first | exact HCpH1.out | exact HCpx1.out | exact HCpW1.out | exact HCp_1.out)).mono ?_
        rintro e v4w ⟨y_r, z_r, rfl, hb, ho⟩
        obtain ⟨ao_r, c_r, bo_r, d_r, hy_r, hz_r⟩ := ho.shape
        rw [HLr.out] at hy_r
        rw [HMr.out] at hz_r
        subst hy_r
        subst hz_r
        have P4_0_0 := cell_later hb P3_0_0
        have P4_0_1 := cell_later hb P3_0_1
        have P4_0_2 := cell_later hb P3_0_2
        have P4_0_3 := cell_later hb P3_0_3
        have P4_0_4 := cell_later hb P3_0_4
        have P4_0_5 := cell_later hb P3_0_5
        have P4_1_0 := cell_later hb P3_1_0
        have P4_1_1 := cell_later hb P3_1_1
        have P4_1_2 := cell_later hb P3_1_2
        have P4_1_3 := cell_later hb P3_1_3
        have P4_1_4 := cell_later hb P3_1_4
        have P4_1_5 := cell_later hb P3_1_5
        have HB_4 := hide (below_on HB_3.out hb)
        have hz_4 : v3w.heap.size ≤ v4w.heap.size := hb.size
        have O_0n := hide (O_0.out.later hb)
        clear O_0
        have O_0 := O_0n
        clear O_0n
        have O_1n := hide (O_1.out.later hb)
        clear O_1
        have O_1 := O_1n
        clear O_1n
        have O_r : Hid (IvR v3w.heap.size v4w.heap.size v4w (.slice ao_r lr c_r) (.slice bo_r mr d_r) rs rp) := ho
        have ZAn := hide (ZA.out.later hb)
        clear ZA
        have ZA := ZAn
        clear ZAn
        have ZFn : Hid (∀ o, v4w.frozen? ⟨hv, o, none⟩ = false) := fun o => ((bcell hb).2 _ _ hvl).trans (ZF.out o)
        clear ZF
        have ZF := ZFn
        clear ZFn
        have hdj : v4w.heap.size ≤ hv ∨ hv < v3w.heap.size := Or.inr hvl
        have hvl2 : hv < v4w.heap.size := by omega
        clear hvl
        have hvl := hvl2
        clear hvl2
        clear hb ho
        refine hK.out _ _ ⟨P4_0_0, P4_0_1, P4_0_2, P4_0_3, P4_0_4, P4_0_5, P4_1_0, P4_1_1, P4_1_2, P4_1_3, P4_1_4, P4_1_5⟩ (fun _ => ?_)
        clear hK K
        try simp only [Act.put, List.setIfInBounds_toArray, List.set_cons_zero, List.set_cons_succ, List.getElem_toArray, List.getElem_cons_zero, List.getElem_cons_succ]
        refine wpAnyH_ready (rs := [6]) (by kernel_rfl) (by simp) (AllReadyH.cons rfl (fun K hK => ?_) (AllReadyH.nil))
        obtain ⟨Z_0, Z_1, Z_2, Z_3, Z_4, Z_5, Z_6, Z_7, Z_8⟩ := ZA.out
        have Y_0 := ZF.out 0
        have Y_1 := ZF.out 1
        have Y_2 := ZF.out 2
        have Y_3 := ZF.out 3
        have Y_4 := ZF.out 4
        have Y_5 := ZF.out 5
        have Y_6 := ZF.out 6
        have Y_7 := ZF.out 7
        have Y_8 := ZF.out 8
        go_simp
        have hn0 : w.heap.size ≠ hv := by omega
        have hn1 : w.heap.size + 1 ≠ hv := by omega
        have hw : Wr (fun y => y = hv) v4w (((((((((v4w.setCell ⟨hv, 0, none⟩ (.int .i64 code)).setCell ⟨hv, 1, none⟩ (.int .i64 rep)).setCell ⟨hv, 2, none⟩ (.int .i64 vlu)).setCell ⟨hv, 3, none⟩ (.int .i64 rq0)).setCell ⟨hv, 4, none⟩ (.int .i64 rq1)).setCell ⟨hv, 5, none⟩ (.int .i64 rq2)).setCell ⟨hv, 6, none⟩ (.int .i64 rq3)).setCell ⟨hv, 7, none⟩ (.slice ao_r lr c_r)).setCell ⟨hv, 8, none⟩ (.slice bo_r mr d_r)) := ((((((((((Wr.refl (fun y => y = hv) _).setCell (p := ⟨hv, 0, none⟩) rfl _).setCell (p := ⟨hv, 1, none⟩) rfl _).setCell (p := ⟨hv, 2, none⟩) rfl _).setCell (p := ⟨hv, 3, none⟩) rfl _).setCell (p := ⟨hv, 4, none⟩) rfl _).setCell (p := ⟨hv, 5, none⟩) rfl _).setCell (p := ⟨hv, 6, none⟩) rfl _).setCell (p := ⟨hv, 7, none⟩) rfl _).setCell (p := ⟨hv, 8, none⟩) rfl _)
        have HW := hide hw
        clear hw
        refine hK.out _ _ ⟨(set9_other hn0).trans P4_0_0, (set9_other hn0).trans P4_0_1, (set9_other hn0).trans P4_0_2, (set9_other hn0).trans P4_0_3, (set9_other hn0).trans P4_0_4, (set9_other hn0).trans P4_0_5, (set9_other hn1).trans P4_1_0, (set9_other hn1).trans P4_1_1, (set9_other hn1).trans P4_1_2, (set9_other hn1).trans P4_1_3, (set9_other hn1).trans P4_1_4, (set9_other hn1).trans P4_1_5⟩ (fun _ => ?_)
        clear hK K
        try simp only [Act.put, List.setIfInBounds_toArray, List.set_cons_zero, List.set_cons_succ, List.getElem_toArray, List.getElem_cons_zero, List.getElem_cons_succ]
        refine wpAnyH_done (by kernel_rfl) ?_ _
        go_wp2_with fail
        go_meet
        case rel =>
          refine ⟨hv, ao_r, c_r, bo_r, d_r, rfl, hv2, by simpa using hvl, ⟨by simp [go_sem, Z_0], by simp [go_sem, Z_1], by simp [go_sem, Z_2], by simp [go_sem, Z_3], by simp [go_sem, Z_4], by simp [go_sem, Z_5], by simp [go_sem, Z_6], by simp [go_sem, Z_7], by simp [go_sem, Z_8]⟩, ?_, ?_⟩
          · exact IvR.up (O_r.out.wr HW.out (fun b h1 h2 => by show ¬ (b = hv); omega)) (by omega) (by first | (simp; done) | (simp; omega))
          · exact HB_4.out.trans (HW.out.below HB_4.out.size (fun b hb => by subst hb; exact hv2))
    case rest =>
      obtain ⟨hvH, aoH, cH, boH, dH, rfl, hgH, hlH, HW⟩ := hcut
      obtain ⟨hV, hI, hb⟩ := HW.out
      clear HW
      clear p0_lt p0_0 p0_1 p0_2 p0_3 p0_4 p0_5
      clear p1_lt p1_0 p1_1 p1_2 p1_3 p1_4 p1_5
      have N_H := hide hI
      have N_vH := hide hV
      have z_H : w16.heap.size ≤ wc.heap.size := hb.size
      have G_b0 := hide (F_b0.out.later hb)
      have G_b1 := hide (F_b1.out.later hb)
      have G_W := hide (F_W.out.later hb)
      have G_vW := hide (F_vW.out.later hb)
      have G_vG := hide (F_vG.out.later hb)
      have G_R := hide (F_R.out.later hb)
      have BC := hide (below_on BB.out hb)
      clear F_b0
      have F_b0 := G_b0
      clear G_b0
      clear F_b1
      have F_b1 := G_b1
      clear G_b1
      clear F_W
      have F_W := G_W
      clear G_W
      clear F_vW
      have F_vW := G_vW
      clear G_vW
      clear F_vG
      have F_vG := G_vG
      clear G_vG
      clear F_R
      have F_R := G_R
      clear G_R
      clear BB
      have BB := BC
      clear BC
      clear hb hI hV
      have F_H := N_H
      clear N_H
      have F_vH := N_vH
      clear N_vH
      obtain ⟨w17, hw17⟩ : ∃ x, wc = x := ⟨_, rfl⟩
      subst hw17
      have plt := F_vH.out.lt
      obtain ⟨p0, p1, p2, p3, p4, p5, p6, p7, p8⟩ := F_vH.out
      (try simp only [Nat.add_zero] at plt)
      have qlt := F_vW.out.lt
      obtain ⟨q0, q1, q2, q3, q4, q5, q6, q7, q8⟩ := F_vW.out
      (try simp only [Nat.add_zero] at qlt)
      go_wp2_with fail
      refine (eqOpResult (r := ⟨rq0, rq1, rq2, rq3, rs, rp⟩) F_H.out.rdI F_H.out.rdJ F_W.out.rdI F_W.out.rdJ).mono ?_
      rintro e w18 ⟨rfl, hb⟩
      have G_b0 := hide (F_b0.out.later hb)
      have G_b1 := hide (F_b1.out.later hb)
      have G_W := hide (F_W.out.later hb)
      have G_vW := hide (F_vW.out.later hb)
      have G_vG := hide (F_vG.out.later hb)
      have G_R := hide (F_R.out.later hb)
      have G_H := hide (F_H.out.later hb)
      have G_vH := hide (F_vH.out.later hb)
      have BC := hide (below_on BB.out hb)
      have z_w18 : wc.heap.size ≤ w18.heap.size := by have := hb.size; simpa using this
      clear plt p0 p1 p2 p3 p4 p5 p6 p7 p8
      clear qlt q0 q1 q2 q3 q4 q5 q6 q7 q8
      clear F_b0
      have F_b0 := G_b0
      clear G_b0
      clear F_b1
      have F_b1 := G_b1
      clear G_b1
      clear F_W
      have F_W := G_W
      clear G_W
      clear F_vW
      have F_vW := G_vW
      clear G_vW
      clear F_vG
      have F_vG := G_vG
      clear G_vG
      clear F_R
      have F_R := G_R
      clear G_R
      clear F_H
      have F_H := G_H
      clear G_H
      clear F_vH
      have F_vH := G_vH
      clear G_vH
      clear BB
      have BB := BC
      clear BC
      clear hb
      clear F_H
      clear F_W
      clear F_vH
      clear F_vW
      have plt := F_vG.out.lt
      obtain ⟨p0, p1, p2, p3, p4, p5, p6, p7, p8⟩ := F_vG.out
      (try simp only [Nat.add_zero] at plt)
      go_wp2_with fail
      refine (heldOpResult rq0 rq1 rq2 rq3 F_R.out (by omega) HRB.out).mono ?_
      rintro e w19 ⟨he, hb⟩
      rw [HMe.out] at he
      subst he
      have G_b0 := hide (F_b0.out.later hb)
      have G_b1 := hide (F_b1.out.later hb)
      have G_vG := hide (F_vG.out.later hb)
      have G_R := hide (F_R.out.later hb)
      have BC := hide (below_on BB.out hb)
      have z_w19 : w18.heap.size ≤ w19.heap.size := by have := hb.size; simpa using this
      clear plt p0 p1 p2 p3 p4 p5 p6 p7 p8
      clear F_b0
      have F_b0 := G_b0
      clear G_b0
      clear F_b1
      have F_b1 := G_b1
      clear G_b1
      clear F_vG
      have F_vG := G_vG
      clear G_vG
      clear F_R
      have F_R := G_R
      clear G_R
      clear BB
      have BB := BC
      clear BC
      clear hb
      go_wp2
      go_ret
      exact ⟨rfl, BB.out⟩
end Go.Proofs.YtlljcajfdeiigaaGreatDoor
