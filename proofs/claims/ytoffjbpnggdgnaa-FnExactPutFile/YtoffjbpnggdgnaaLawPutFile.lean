/- The law 'FnExactPutFile' walked, out of what the program's function and the model's leave. Made by program (lawgen.py). -/
import Derived.Test.YtoffjbpnggdgnaaFs4
import Derived.Test.YtoffjbpnggdgnaaIv5
import Derived.Test.YtoffjbpnggdgnaaFi
import Derived.Test.YtoffjbpnggdgnaaIv
import Derived.Deep.CutRange
namespace Go.Proofs.Ytoffjbpnggdgnaa
open Go.RowKit

set_option linter.unusedSimpArgs false in
set_option maxHeartbeats 8000000 in
set_option maxRecDepth 4000 in
theorem lawPutFile_small {S0 S1 : Nat → Prop} {w : World} {y0 : Value} {xs0 : List Oj} (n1_0 n1_1 : Int) {y1 : Value} {xs1 : List Int} (hy0 : RdJ S0 w y0 xs0) (hy1 : RdI S1 w y1 xs1) (code : Int) (rs : List Oj) (hres : totJ rs rs.length ≤ 1048576)
    (hsz : szU xs0 + (xs1.length : Int) ≤ 1048576)
    (hspec : ∀ (S0 S1 : Nat → Prop) (w : World) (y0 y1 : Value), RdJ S0 w y0 xs0 → RdI S1 w y1 xs1 → Calls Try.prog 7 #[y0, .agg #[.int .i64 n1_0, .int .i64 n1_1, y1]] w (EndsFi code rs w))
    (himpl : ∀ (S0 S1 : Nat → Prop) (w : World) (y0 y1 : Value), RdJ S0 w y0 xs0 → RdI S1 w y1 xs1 → Calls Try.prog 10 #[y0, .agg #[.int .i64 n1_0, .int .i64 n1_1, y1]] w (EndsFi code rs w)) :
    Calls Try.prog 3 #[y0, .agg #[.int .i64 n1_0, .int .i64 n1_1, y1]] w fun e w' => e = .returned (.bool true) ∧ Below w.heap.size w w' := by
  have HS := hide hspec
  have HI := hide himpl
  clear hspec himpl
  obtain ⟨ay0, cy0, rfl, _⟩ := hy0.shape
  obtain ⟨l0, hll0⟩ : ∃ l, xs0.length = l := ⟨_, rfl⟩
  have HL0 := hide hll0
  rw [hll0] at hy0 ⊢
  have HY0 := hide hy0
  clear hy0 hll0
  have HQ0 := hide (smallU (qs := xs0) (by omega))
  obtain ⟨s0, hs0⟩ : ∃ s, szU xs0 = s := ⟨_, rfl⟩
  have hsn0 := szU_nonneg xs0
  rw [hs0] at hsz hsn0
  have HSz0 := hide hs0
  clear hs0
  obtain ⟨T0, hT0⟩ : ∃ T : Nat, totJ xs0 xs0.length = T := ⟨_, rfl⟩
  have hTb0 : (T0 : Int) ≤ 4194304 := by have := HQ0.out.2.2; rw [hT0] at this; exact this
  have HT0 := hide hT0
  clear hT0
  obtain ⟨ay1, cy1, rfl⟩ := hy1.shape
  obtain ⟨l1, hll1⟩ : ∃ l, xs1.length = l := ⟨_, rfl⟩
  have HL1 := hide hll1
  rw [hll1] at hsz hy1 ⊢
  have HY1 := hide hy1
  clear hy1 hll1
  have hl1 : l1 ≤ 1048576 := by omega
  have HZ0 := hide (szv_yes (left := (1048576 : Int)) (s := s0) (by omega))
  have hp0 : ¬ ((1048576 : Int) - s0 < 0) := by omega
  have HZ1 := hide (szv_yes (left := (1048576 : Int) - s0) (s := (l1 : Int)) (by omega))
  have hp1 : ¬ ((1048576 : Int) - s0 - (l1 : Int) < 0) := by omega
  obtain ⟨lr, hlr⟩ : ∃ l, rs.length = l := ⟨_, rfl⟩
  have HLr := hide hlr
  clear hlr
  have HRB := hide (show (1 : Int) + (totJ rs rs.length : Int) ≤ 9223372036854775807 by omega)
  have hM : 0 ≤ (1 : Int) + (totJ rs rs.length : Int) := by omega
  obtain ⟨M, hMe⟩ : ∃ M : Int, (1 : Int) + (totJ rs rs.length : Int) = M := ⟨_, rfl⟩
  rw [hMe] at hM
  have HMe := hide hMe
  clear hMe hres
  go_enter Try.func3, Try.ntmps3
  have BB := hide (Below.refl w.heap.size w)
  have F_b1 : Hid (Var3 (w.alloc (.cells #[.int .i64 n1_0, .int .i64 n1_1, .slice ay1 l1 cy1] 25)) (w.heap.size) (.int .i64 n1_0) (.int .i64 n1_1) (.slice ay1 l1 cy1)) := by have h := Var3_new w (.int .i64 n1_0) (.int .i64 n1_1) (.slice ay1 l1 cy1) 25; (try simp at h); unfold Hid; exact h
  clear BB
  have BB := hide (below_on (Below.refl w.heap.size w) (below_alloc _ (.cells #[.int .i64 n1_0, .int .i64 n1_1, .slice ay1 l1 cy1] 25)))
  have p1_lt := F_b1.out.lt
  obtain ⟨p1_0, p1_1, p1_2⟩ := F_b1.out
  (try simp only [Nat.add_zero] at p1_lt)
  go_wp2_with fail
  refine (szFiU (HY0.out.later BB.out) (by omega) (by omega)).mono ?_
  rintro e w1 ⟨he, hb⟩
  rw [HSz0.out, HZ0.out] at he
  subst he
  have G_b1 := hide (F_b1.out.later hb)
  have BC := hide (below_on BB.out hb)
  have z_w1 : w.heap.size + 1 ≤ w1.heap.size := by have := hb.size; simpa using this
  clear p1_lt p1_0 p1_1 p1_2
  clear F_b1
  have F_b1 := G_b1
  clear G_b1
  clear BB
  have BB := BC
  clear BC
  clear hb
  have p1_lt := F_b1.out.lt
  obtain ⟨p1_0, p1_1, p1_2⟩ := F_b1.out
  (try simp only [Nat.add_zero] at p1_lt)
  go_wp2_with fail
  refine (szFile n1_0 n1_1 (HY1.out.later BB.out) (by omega) (by omega)).mono ?_
  rintro e w2 ⟨he, hb⟩
  rw [HL1.out, HZ1.out] at he
  subst he
  have G_b1 := hide (F_b1.out.later hb)
  have BC := hide (below_on BB.out hb)
  have z_w2 : w1.heap.size ≤ w2.heap.size := by have := hb.size; simpa using this
  clear p1_lt p1_0 p1_1 p1_2
  clear F_b1
  have F_b1 := G_b1
  clear G_b1
  clear BB
  have BB := BC
  clear BC
  clear hb
  have p1_lt := F_b1.out.lt
  obtain ⟨p1_0, p1_1, p1_2⟩ := F_b1.out
  (try simp only [Nat.add_zero] at p1_lt)
  go_upto_region 8 with fail
  go_cut [6] from 24 to 28 (fun v wx => ∃ (hv : Nat) (ao : Option Addr) (c : Nat), v = .pointer (some ⟨hv, 0, none⟩) ∧ w2.heap.size ≤ hv ∧ hv < wx.heap.size ∧ Hid (Var2 wx hv (.int .i64 code) (.slice ao lr c) ∧ IvJ w2.heap.size wx.heap.size wx (.slice ao lr c) rs ∧ Below w2.heap.size w2 wx))
  case first =>
    refine wp_region_held_drew (S := fun w' => w'.cell? ⟨w.heap.size, 0, none⟩ = some (.int .i64 n1_0) ∧ w'.cell? ⟨w.heap.size, 1, none⟩ = some (.int .i64 n1_1) ∧ w'.cell? ⟨w.heap.size, 2, none⟩ = some (.slice ay1 l1 cy1)) (by kernel_rfl) ⟨p1_0, p1_1, p1_2⟩ (fun hHeld0 => ?_)
    refine forgetH (fun wx => (wx.cell? ⟨w.heap.size, 0, none⟩ = some (.int .i64 n1_0) ∧ wx.cell? ⟨w.heap.size, 1, none⟩ = some (.int .i64 n1_1) ∧ wx.cell? ⟨w.heap.size, 2, none⟩ = some (.slice ay1 l1 cy1)) ∧ Below w2.heap.size w2 wx) ⟨hHeld0, below_drewN w2 1⟩ ?_
    clear hHeld0
    rintro v0w ⟨hHeld, hbx⟩
    have HB_0 := hide hbx
    have hz_0 := hbx.size
    clear hbx
    obtain ⟨P0_1_0, P0_1_1, P0_1_2⟩ := id hHeld
    refine wpAnyH_take (i := 0) (v := ?v8x0) rfl (by kernel_rfl) (by kernel_rfl) (by kernel_rfl) (fun _ _ _ h => h) (Or.inl ⟨by rfl, ?h8x0⟩) hHeld ?r8x0
    case h8x0 => intro w9 hSw; (try dsimp only at hSw); first | (go_simp; done) | (go_simp; with_reducible rfl)
    try simp only [Act.put, List.setIfInBounds_toArray, List.set_cons_zero, List.set_cons_succ, List.getElem_toArray, List.getElem_cons_zero, List.getElem_cons_succ]
    refine wpAnyH_take (i := 2) (v := ?v8x2) rfl (by kernel_rfl) (by kernel_rfl) (by kernel_rfl) (fun _ _ _ h => h) (Or.inl ⟨by rfl, ?h8x2⟩) hHeld ?r8x2
    case h8x2 => intro w9 hSw; (try dsimp only at hSw); first | (go_simp; done) | (go_simp; with_reducible rfl)
    try simp only [Act.put, List.setIfInBounds_toArray, List.set_cons_zero, List.set_cons_succ, List.getElem_toArray, List.getElem_cons_zero, List.getElem_cons_succ]
    refine wpAnyH_ready (rs := [1, 5]) (by kernel_rfl) (by simp) (AllReadyH.cons rfl (fun K hK => ?_) (AllReadyH.cons rfl (fun K hK => ?_) (AllReadyH.nil)))
    · skip
      go_simp
      go_at_call 8
      refine (toFi (HY0.out.later (below_on BB.out HB_0.out)) HQ0.out.1 HQ0.out.2.1).mono ?_
      rintro e v1w ⟨z_0, rfl, hb, ho⟩
      obtain ⟨ao_0, c_0, hz_0⟩ := ho.shape
      rw [HL0.out] at hz_0
      subst hz_0
      have P1_1_0 := cell_later hb P0_1_0
      have P1_1_1 := cell_later hb P0_1_1
      have P1_1_2 := cell_later hb P0_1_2
      have HB_1 := hide (below_on HB_0.out hb)
      have hz_1 : v0w.heap.size ≤ v1w.heap.size := hb.size
      have O_0 := hide (ho.iv)
      clear hb ho
      refine hK.out _ _ ⟨P1_1_0, P1_1_1, P1_1_2⟩ (fun _ => ?_)
      clear hK K
      try simp only [Act.put, List.setIfInBounds_toArray, List.set_cons_zero, List.set_cons_succ, List.getElem_toArray, List.getElem_cons_zero, List.getElem_cons_succ]
      refine wpAnyH_ready (rs := [3, 5]) (by kernel_rfl) (by simp) (AllReadyH.cons rfl (fun K hK => ?_) (AllReadyH.cons rfl (fun K hK => ?_) (AllReadyH.nil)))
      · skip
        go_simp
        go_at_call 9
        refine (toFile n1_0 n1_1 (HY1.out.later (below_on BB.out HB_1.out)) (by rw [HL1.out]; exact hl1)).mono ?_
        rintro e v2w ⟨z_1, rfl, hb, ho⟩
        obtain ⟨ao_1, c_1, hz_1⟩ := ho.shape
        rw [HL1.out] at hz_1
        subst hz_1
        have P2_1_0 := cell_later hb P1_1_0
        have P2_1_1 := cell_later hb P1_1_1
        have P2_1_2 := cell_later hb P1_1_2
        have HB_2 := hide (below_on HB_1.out hb)
        have hz_2 : v1w.heap.size ≤ v2w.heap.size := hb.size
        have O_0n := hide (O_0.out.later hb)
        clear O_0
        have O_0 := O_0n
        clear O_0n
        have O_1 := hide (ho.iv)
        clear hb ho
        refine hK.out _ _ ⟨P2_1_0, P2_1_1, P2_1_2⟩ (fun _ => ?_)
        clear hK K
        try simp only [Act.put, List.setIfInBounds_toArray, List.set_cons_zero, List.set_cons_succ, List.getElem_toArray, List.getElem_cons_zero, List.getElem_cons_succ]
        refine wpAnyH_ready (rs := [4, 5]) (by kernel_rfl) (by simp) (AllReadyH.cons rfl (fun K hK => ?_) (AllReadyH.cons rfl (fun K hK => ?_) (AllReadyH.nil)))
        · skip
          go_simp
          go_at_call 7
          refine (HS.out _ _ _ _ _ O_0.out.rd O_1.out.rd).mono ?_
          rintro e v3w ⟨z_r, rfl, hb, ho⟩
          obtain ⟨ao_r, c_r, hz_r⟩ := ho.shape
          rw [HLr.out] at hz_r
          subst hz_r
          have P3_1_0 := cell_later hb P2_1_0
          have P3_1_1 := cell_later hb P2_1_1
          have P3_1_2 := cell_later hb P2_1_2
          have HB_3 := hide (below_on HB_2.out hb)
          have hz_3 : v2w.heap.size ≤ v3w.heap.size := hb.size
          have O_0n := hide (O_0.out.later hb)
          clear O_0
          have O_0 := O_0n
          clear O_0n
          have O_1n := hide (O_1.out.later hb)
          clear O_1
          have O_1 := O_1n
          clear O_1n
          have O_r : Hid (IvJ v2w.heap.size v3w.heap.size v3w (.slice ao_r lr c_r) rs) := ho.iv
          clear hb ho
          refine hK.out _ _ ⟨P3_1_0, P3_1_1, P3_1_2⟩ (fun _ => ?_)
          clear hK K
          try simp only [Act.put, List.setIfInBounds_toArray, List.set_cons_zero, List.set_cons_succ, List.getElem_toArray, List.getElem_cons_zero, List.getElem_cons_succ]
          refine wpAnyH_ready (rs := [5]) (by kernel_rfl) (by simp) (AllReadyH.cons rfl (fun K hK => ?_) (AllReadyH.nil))
          go_simp
          have hb := below_alloc v3w (.cells #[.int .i64 0, .slice none 0 0] 30)
          refine hK.out _ _ ⟨cell_later hb P3_1_0, cell_later hb P3_1_1, cell_later hb P3_1_2⟩ (fun _ => ?_)
          clear hK K
          try simp only [Act.put, List.setIfInBounds_toArray, List.set_cons_zero, List.set_cons_succ, List.getElem_toArray, List.getElem_cons_zero, List.getElem_cons_succ]
          refine forgetH (fun wx => (wx.cell? ⟨w.heap.size, 0, none⟩ = some (.int .i64 n1_0) ∧ wx.cell? ⟨w.heap.size, 1, none⟩ = some (.int .i64 n1_1) ∧ wx.cell? ⟨w.heap.size, 2, none⟩ = some (.slice ay1 l1 cy1)) ∧ Below v3w.heap.size v3w wx ∧ Var2 wx v3w.heap.size (.int .i64 0) (.slice none 0 0) ∧ (∀ o, wx.frozen? ⟨v3w.heap.size, o, none⟩ = false) ∧ v3w.heap.size < wx.heap.size) ⟨⟨cell_later hb P3_1_0, cell_later hb P3_1_1, cell_later hb P3_1_2⟩, hb, Var2_new _ _ _ _ , fun o => by simp [go_sem], by simp⟩ ?_
          clear hb
          rintro v4w ⟨⟨P4_1_0, P4_1_1, P4_1_2⟩, hb, za, zf, hvl⟩
          have HB_4 := hide (below_on HB_3.out hb)
          have hz_4 : v3w.heap.size ≤ v4w.heap.size := hb.size
          have O_0n := hide (O_0.out.later hb)
          clear O_0
          have O_0 := O_0n
          clear O_0n
          have O_1n := hide (O_1.out.later hb)
          clear O_1
          have O_1 := O_1n
          clear O_1n
          have O_rn := hide (O_r.out.later hb)
          clear O_r
          have O_r := O_rn
          clear O_rn
          obtain ⟨hv, hhv⟩ : ∃ hv, v3w.heap.size = hv := ⟨_, rfl⟩
          have ZA := hide za
          have ZF := hide zf
          clear za zf hb
          rw [hhv] at ZA ZF hvl ⊢
          have hv2 : w2.heap.size ≤ hv := by omega
          have hdj : v3w.heap.size ≤ hv ∨ hv < v2w.heap.size := Or.inl (by omega)
          have HHv := hide hhv
          clear hhv
          refine wpAnyH_ready (rs := [6]) (by kernel_rfl) (by simp) (AllReadyH.cons rfl (fun K hK => ?_) (AllReadyH.nil))
          obtain ⟨Z_0, Z_1⟩ := ZA.out
          have Y_0 := ZF.out 0
          have Y_1 := ZF.out 1
          go_simp
          have hn1 : w.heap.size ≠ hv := by omega
          have hw : Wr (fun y => y = hv) v4w ((v4w.setCell ⟨hv, 0, none⟩ (.int .i64 code)).setCell ⟨hv, 1, none⟩ (.slice ao_r lr c_r)) := (((Wr.refl (fun y => y = hv) _).setCell (p := ⟨hv, 0, none⟩) rfl _).setCell (p := ⟨hv, 1, none⟩) rfl _)
          have HW := hide hw
          clear hw
          refine hK.out _ _ ⟨(set2_other hn1).trans P4_1_0, (set2_other hn1).trans P4_1_1, (set2_other hn1).trans P4_1_2⟩ (fun _ => ?_)
          clear hK K
          try simp only [Act.put, List.setIfInBounds_toArray, List.set_cons_zero, List.set_cons_succ, List.getElem_toArray, List.getElem_cons_zero, List.getElem_cons_succ]
          refine wpAnyH_done (by kernel_rfl) ?_ _
          go_wp2_with fail
          go_meet
          case rel =>
            refine ⟨hv, ao_r, c_r, rfl, hv2, by simpa using hvl, ⟨by simp [go_sem, Z_0], by simp [go_sem, Z_1]⟩, ?_, ?_⟩
            · exact IvJ.up (O_r.out.wr HW.out (fun b h1 h2 => by show ¬ (b = hv); omega)) (by omega) (by first | (simp; done) | (simp; omega))
            · exact HB_4.out.trans (HW.out.below HB_4.out.size (fun b hb => by subst hb; exact hv2))
        · skip
          go_simp
          have hb := below_alloc v2w (.cells #[.int .i64 0, .slice none 0 0] 30)
          refine hK.out _ _ ⟨cell_later hb P2_1_0, cell_later hb P2_1_1, cell_later hb P2_1_2⟩ (fun _ => ?_)
          clear hK K
          try simp only [Act.put, List.setIfInBounds_toArray, List.set_cons_zero, List.set_cons_succ, List.getElem_toArray, List.getElem_cons_zero, List.getElem_cons_succ]
          refine forgetH (fun wx => (wx.cell? ⟨w.heap.size, 0, none⟩ = some (.int .i64 n1_0) ∧ wx.cell? ⟨w.heap.size, 1, none⟩ = some (.int .i64 n1_1) ∧ wx.cell? ⟨w.heap.size, 2, none⟩ = some (.slice ay1 l1 cy1)) ∧ Below v2w.heap.size v2w wx ∧ Var2 wx v2w.heap.size (.int .i64 0) (.slice none 0 0) ∧ (∀ o, wx.frozen? ⟨v2w.heap.size, o, none⟩ = false) ∧ v2w.heap.size < wx.heap.size) ⟨⟨cell_later hb P2_1_0, cell_later hb P2_1_1, cell_later hb P2_1_2⟩, hb, Var2_new _ _ _ _ , fun o => by simp [go_sem], by simp⟩ ?_
          clear hb
          rintro v3w ⟨⟨P3_1_0, P3_1_1, P3_1_2⟩, hb, za, zf, hvl⟩
          have HB_3 := hide (below_on HB_2.out hb)
          have hz_3 : v2w.heap.size ≤ v3w.heap.size := hb.size
          have O_0n := hide (O_0.out.later hb)
          clear O_0
          have O_0 := O_0n
          clear O_0n
          have O_1n := hide (O_1.out.later hb)
          clear O_1
          have O_1 := O_1n
          clear O_1n
          obtain ⟨hv, hhv⟩ : ∃ hv, v2w.heap.size = hv := ⟨_, rfl⟩
          have ZA := hide za
          have ZF := hide zf
          clear za zf hb
          rw [hhv] at ZA ZF hvl ⊢
          have hv2 : w2.heap.size ≤ hv := by omega
          have HHv := hide hhv
          clear hhv
          refine wpAnyH_ready (rs := [4]) (by kernel_rfl) (by simp) (AllReadyH.cons rfl (fun K hK => ?_) (AllReadyH.nil))
          go_simp
          go_at_call 7
          refine (HS.out _ _ _ _ _ O_0.out.rd O_1.out.rd).mono ?_
          rintro e v4w ⟨z_r, rfl, hb, ho⟩
          obtain ⟨ao_r, c_r, hz_r⟩ := ho.shape
          rw [HLr.out] at hz_r
          subst hz_r
          have P4_1_0 := cell_later hb P3_1_0
          have P4_1_1 := cell_later hb P3_1_1
          have P4_1_2 := cell_later hb P3_1_2
          have HB_4 := hide (below_on HB_3.out hb)
          have hz_4 : v3w.heap.size ≤ v4w.heap.size := hb.size
          have O_0n := hide (O_0.out.later hb)
          clear O_0
          have O_0 := O_0n
          clear O_0n
          have O_1n := hide (O_1.out.later hb)
          clear O_1
          have O_1 := O_1n
          clear O_1n
          have O_r : Hid (IvJ v3w.heap.size v4w.heap.size v4w (.slice ao_r lr c_r) rs) := ho.iv
          have ZAn := hide (ZA.out.later hb)
          clear ZA
          have ZA := ZAn
          clear ZAn
          have ZFn : Hid (∀ o, v4w.frozen? ⟨hv, o, none⟩ = false) := fun o => ((bcell hb).2 _ _ hvl).trans (ZF.out o)
          clear ZF
          have ZF := ZFn
          clear ZFn
          have hdj : v4w.heap.size ≤ hv ∨ hv < v3w.heap.size := Or.inr hvl
          have hvl2 : hv < v4w.heap.size := by omega
          clear hvl
          have hvl := hvl2
          clear hvl2
          clear hb ho
          refine hK.out _ _ ⟨P4_1_0, P4_1_1, P4_1_2⟩ (fun _ => ?_)
          clear hK K
          try simp only [Act.put, List.setIfInBounds_toArray, List.set_cons_zero, List.set_cons_succ, List.getElem_toArray, List.getElem_cons_zero, List.getElem_cons_succ]
          refine wpAnyH_ready (rs := [6]) (by kernel_rfl) (by simp) (AllReadyH.cons rfl (fun K hK => ?_) (AllReadyH.nil))
          obtain ⟨Z_0, Z_1⟩ := ZA.out
          have Y_0 := ZF.out 0
          have Y_1 := ZF.out 1
          go_simp
          have hn1 : w.heap.size ≠ hv := by omega
          have hw : Wr (fun y => y = hv) v4w ((v4w.setCell ⟨hv, 0, none⟩ (.int .i64 code)).setCell ⟨hv, 1, none⟩ (.slice ao_r lr c_r)) := (((Wr.refl (fun y => y = hv) _).setCell (p := ⟨hv, 0, none⟩) rfl _).setCell (p := ⟨hv, 1, none⟩) rfl _)
          have HW := hide hw
          clear hw
          refine hK.out _ _ ⟨(set2_other hn1).trans P4_1_0, (set2_other hn1).trans P4_1_1, (set2_other hn1).trans P4_1_2⟩ (fun _ => ?_)
          clear hK K
          try simp only [Act.put, List.setIfInBounds_toArray, List.set_cons_zero, List.set_cons_succ, List.getElem_toArray, List.getElem_cons_zero, List.getElem_cons_succ]
          refine wpAnyH_done (by kernel_rfl) ?_ _
          go_wp2_with fail
          go_meet
          case rel =>
            refine ⟨hv, ao_r, c_r, rfl, hv2, by simpa using hvl, ⟨by simp [go_sem, Z_0], by simp [go_sem, Z_1]⟩, ?_, ?_⟩
            · exact IvJ.up (O_r.out.wr HW.out (fun b h1 h2 => by show ¬ (b = hv); omega)) (by omega) (by first | (simp; done) | (simp; omega))
            · exact HB_4.out.trans (HW.out.below HB_4.out.size (fun b hb => by subst hb; exact hv2))
      · skip
        go_simp
        have hb := below_alloc v1w (.cells #[.int .i64 0, .slice none 0 0] 30)
        refine hK.out _ _ ⟨cell_later hb P1_1_0, cell_later hb P1_1_1, cell_later hb P1_1_2⟩ (fun _ => ?_)
        clear hK K
        try simp only [Act.put, List.setIfInBounds_toArray, List.set_cons_zero, List.set_cons_succ, List.getElem_toArray, List.getElem_cons_zero, List.getElem_cons_succ]
        refine forgetH (fun wx => (wx.cell? ⟨w.heap.size, 0, none⟩ = some (.int .i64 n1_0) ∧ wx.cell? ⟨w.heap.size, 1, none⟩ = some (.int .i64 n1_1) ∧ wx.cell? ⟨w.heap.size, 2, none⟩ = some (.slice ay1 l1 cy1)) ∧ Below v1w.heap.size v1w wx ∧ Var2 wx v1w.heap.size (.int .i64 0) (.slice none 0 0) ∧ (∀ o, wx.frozen? ⟨v1w.heap.size, o, none⟩ = false) ∧ v1w.heap.size < wx.heap.size) ⟨⟨cell_later hb P1_1_0, cell_later hb P1_1_1, cell_later hb P1_1_2⟩, hb, Var2_new _ _ _ _ , fun o => by simp [go_sem], by simp⟩ ?_
        clear hb
        rintro v2w ⟨⟨P2_1_0, P2_1_1, P2_1_2⟩, hb, za, zf, hvl⟩
        have HB_2 := hide (below_on HB_1.out hb)
        have hz_2 : v1w.heap.size ≤ v2w.heap.size := hb.size
        have O_0n := hide (O_0.out.later hb)
        clear O_0
        have O_0 := O_0n
        clear O_0n
        obtain ⟨hv, hhv⟩ : ∃ hv, v1w.heap.size = hv := ⟨_, rfl⟩
        have ZA := hide za
        have ZF := hide zf
        clear za zf hb
        rw [hhv] at ZA ZF hvl ⊢
        have hv2 : w2.heap.size ≤ hv := by omega
        have HHv := hide hhv
        clear hhv
        refine wpAnyH_ready (rs := [3]) (by kernel_rfl) (by simp) (AllReadyH.cons rfl (fun K hK => ?_) (AllReadyH.nil))
        go_simp
        go_at_call 9
        refine (toFile n1_0 n1_1 (HY1.out.later (below_on BB.out HB_2.out)) (by rw [HL1.out]; exact hl1)).mono ?_
        rintro e v3w ⟨z_1, rfl, hb, ho⟩
        obtain ⟨ao_1, c_1, hz_1⟩ := ho.shape
        rw [HL1.out] at hz_1
        subst hz_1
        have P3_1_0 := cell_later hb P2_1_0
        have P3_1_1 := cell_later hb P2_1_1
        have P3_1_2 := cell_later hb P2_1_2
        have HB_3 := hide (below_on HB_2.out hb)
        have hz_3 : v2w.heap.size ≤ v3w.heap.size := hb.size
        have O_0n := hide (O_0.out.later hb)
        clear O_0
        have O_0 := O_0n
        clear O_0n
        have O_1 := hide (ho.iv)
        have ZAn := hide (ZA.out.later hb)
        clear ZA
        have ZA := ZAn
        clear ZAn
        have ZFn : Hid (∀ o, v3w.frozen? ⟨hv, o, none⟩ = false) := fun o => ((bcell hb).2 _ _ hvl).trans (ZF.out o)
        clear ZF
        have ZF := ZFn
        clear ZFn
        have hvl2 : hv < v3w.heap.size := by omega
        clear hvl
        have hvl := hvl2
        clear hvl2
        clear hb ho
        refine hK.out _ _ ⟨P3_1_0, P3_1_1, P3_1_2⟩ (fun _ => ?_)
        clear hK K
        try simp only [Act.put, List.setIfInBounds_toArray, List.set_cons_zero, List.set_cons_succ, List.getElem_toArray, List.getElem_cons_zero, List.getElem_cons_succ]
        refine wpAnyH_ready (rs := [4]) (by kernel_rfl) (by simp) (AllReadyH.cons rfl (fun K hK => ?_) (AllReadyH.nil))
        go_simp
        go_at_call 7
        refine (HS.out _ _ _ _ _ O_0.out.rd O_1.out.rd).mono ?_
        rintro e v4w ⟨z_r, rfl, hb, ho⟩
        obtain ⟨ao_r, c_r, hz_r⟩ := ho.shape
        rw [HLr.out] at hz_r
        subst hz_r
        have P4_1_0 := cell_later hb P3_1_0
        have P4_1_1 := cell_later hb P3_1_1
        have P4_1_2 := cell_later hb P3_1_2
        have HB_4 := hide (below_on HB_3.out hb)
        have hz_4 : v3w.heap.size ≤ v4w.heap.size := hb.size
        have O_0n := hide (O_0.out.later hb)
        clear O_0
        have O_0 := O_0n
        clear O_0n
        have O_1n := hide (O_1.out.later hb)
        clear O_1
        have O_1 := O_1n
        clear O_1n
        have O_r : Hid (IvJ v3w.heap.size v4w.heap.size v4w (.slice ao_r lr c_r) rs) := ho.iv
        have ZAn := hide (ZA.out.later hb)
        clear ZA
        have ZA := ZAn
        clear ZAn
        have ZFn : Hid (∀ o, v4w.frozen? ⟨hv, o, none⟩ = false) := fun o => ((bcell hb).2 _ _ hvl).trans (ZF.out o)
        clear ZF
        have ZF := ZFn
        clear ZFn
        have hdj : v4w.heap.size ≤ hv ∨ hv < v3w.heap.size := Or.inr hvl
        have hvl2 : hv < v4w.heap.size := by omega
        clear hvl
        have hvl := hvl2
        clear hvl2
        clear hb ho
        refine hK.out _ _ ⟨P4_1_0, P4_1_1, P4_1_2⟩ (fun _ => ?_)
        clear hK K
        try simp only [Act.put, List.setIfInBounds_toArray, List.set_cons_zero, List.set_cons_succ, List.getElem_toArray, List.getElem_cons_zero, List.getElem_cons_succ]
        refine wpAnyH_ready (rs := [6]) (by kernel_rfl) (by simp) (AllReadyH.cons rfl (fun K hK => ?_) (AllReadyH.nil))
        obtain ⟨Z_0, Z_1⟩ := ZA.out
        have Y_0 := ZF.out 0
        have Y_1 := ZF.out 1
        go_simp
        have hn1 : w.heap.size ≠ hv := by omega
        have hw : Wr (fun y => y = hv) v4w ((v4w.setCell ⟨hv, 0, none⟩ (.int .i64 code)).setCell ⟨hv, 1, none⟩ (.slice ao_r lr c_r)) := (((Wr.refl (fun y => y = hv) _).setCell (p := ⟨hv, 0, none⟩) rfl _).setCell (p := ⟨hv, 1, none⟩) rfl _)
        have HW := hide hw
        clear hw
        refine hK.out _ _ ⟨(set2_other hn1).trans P4_1_0, (set2_other hn1).trans P4_1_1, (set2_other hn1).trans P4_1_2⟩ (fun _ => ?_)
        clear hK K
        try simp only [Act.put, List.setIfInBounds_toArray, List.set_cons_zero, List.set_cons_succ, List.getElem_toArray, List.getElem_cons_zero, List.getElem_cons_succ]
        refine wpAnyH_done (by kernel_rfl) ?_ _
        go_wp2_with fail
        go_meet
        case rel =>
          refine ⟨hv, ao_r, c_r, rfl, hv2, by simpa using hvl, ⟨by simp [go_sem, Z_0], by simp [go_sem, Z_1]⟩, ?_, ?_⟩
          · exact IvJ.up (O_r.out.wr HW.out (fun b h1 h2 => by show ¬ (b = hv); omega)) (by omega) (by first | (simp; done) | (simp; omega))
          · exact HB_4.out.trans (HW.out.below HB_4.out.size (fun b hb => by subst hb; exact hv2))
    · skip
      go_simp
      have hb := below_alloc v0w (.cells #[.int .i64 0, .slice none 0 0] 30)
      refine hK.out _ _ ⟨cell_later hb P0_1_0, cell_later hb P0_1_1, cell_later hb P0_1_2⟩ (fun _ => ?_)
      clear hK K
      try simp only [Act.put, List.setIfInBounds_toArray, List.set_cons_zero, List.set_cons_succ, List.getElem_toArray, List.getElem_cons_zero, List.getElem_cons_succ]
      refine forgetH (fun wx => (wx.cell? ⟨w.heap.size, 0, none⟩ = some (.int .i64 n1_0) ∧ wx.cell? ⟨w.heap.size, 1, none⟩ = some (.int .i64 n1_1) ∧ wx.cell? ⟨w.heap.size, 2, none⟩ = some (.slice ay1 l1 cy1)) ∧ Below v0w.heap.size v0w wx ∧ Var2 wx v0w.heap.size (.int .i64 0) (.slice none 0 0) ∧ (∀ o, wx.frozen? ⟨v0w.heap.size, o, none⟩ = false) ∧ v0w.heap.size < wx.heap.size) ⟨⟨cell_later hb P0_1_0, cell_later hb P0_1_1, cell_later hb P0_1_2⟩, hb, Var2_new _ _ _ _ , fun o => by simp [go_sem], by simp⟩ ?_
      clear hb
      rintro v1w ⟨⟨P1_1_0, P1_1_1, P1_1_2⟩, hb, za, zf, hvl⟩
      have HB_1 := hide (below_on HB_0.out hb)
      have hz_1 : v0w.heap.size ≤ v1w.heap.size := hb.size
      obtain ⟨hv, hhv⟩ : ∃ hv, v0w.heap.size = hv := ⟨_, rfl⟩
      have ZA := hide za
      have ZF := hide zf
      clear za zf hb
      rw [hhv] at ZA ZF hvl ⊢
      have hv2 : w2.heap.size ≤ hv := by omega
      have HHv := hide hhv
      clear hhv
      refine wpAnyH_ready (rs := [1]) (by kernel_rfl) (by simp) (AllReadyH.cons rfl (fun K hK => ?_) (AllReadyH.nil))
      go_simp
      go_at_call 8
      refine (toFi (HY0.out.later (below_on BB.out HB_1.out)) HQ0.out.1 HQ0.out.2.1).mono ?_
      rintro e v2w ⟨z_0, rfl, hb, ho⟩
      obtain ⟨ao_0, c_0, hz_0⟩ := ho.shape
      rw [HL0.out] at hz_0
      subst hz_0
      have P2_1_0 := cell_later hb P1_1_0
      have P2_1_1 := cell_later hb P1_1_1
      have P2_1_2 := cell_later hb P1_1_2
      have HB_2 := hide (below_on HB_1.out hb)
      have hz_2 : v1w.heap.size ≤ v2w.heap.size := hb.size
      have O_0 := hide (ho.iv)
      have ZAn := hide (ZA.out.later hb)
      clear ZA
      have ZA := ZAn
      clear ZAn
      have ZFn : Hid (∀ o, v2w.frozen? ⟨hv, o, none⟩ = false) := fun o => ((bcell hb).2 _ _ hvl).trans (ZF.out o)
      clear ZF
      have ZF := ZFn
      clear ZFn
      have hvl2 : hv < v2w.heap.size := by omega
      clear hvl
      have hvl := hvl2
      clear hvl2
      clear hb ho
      refine hK.out _ _ ⟨P2_1_0, P2_1_1, P2_1_2⟩ (fun _ => ?_)
      clear hK K
      try simp only [Act.put, List.setIfInBounds_toArray, List.set_cons_zero, List.set_cons_succ, List.getElem_toArray, List.getElem_cons_zero, List.getElem_cons_succ]
      refine wpAnyH_ready (rs := [3]) (by kernel_rfl) (by simp) (AllReadyH.cons rfl (fun K hK => ?_) (AllReadyH.nil))
      go_simp
      go_at_call 9
      refine (toFile n1_0 n1_1 (HY1.out.later (below_on BB.out HB_2.out)) (by rw [HL1.out]; exact hl1)).mono ?_
      rintro e v3w ⟨z_1, rfl, hb, ho⟩
      obtain ⟨ao_1, c_1, hz_1⟩ := ho.shape
      rw [HL1.out] at hz_1
      subst hz_1
      have P3_1_0 := cell_later hb P2_1_0
      have P3_1_1 := cell_later hb P2_1_1
      have P3_1_2 := cell_later hb P2_1_2
      have HB_3 := hide (below_on HB_2.out hb)
      have hz_3 : v2w.heap.size ≤ v3w.heap.size := hb.size
      have O_0n := hide (O_0.out.later hb)
      clear O_0
      have O_0 := O_0n
      clear O_0n
      have O_1 := hide (ho.iv)
      have ZAn := hide (ZA.out.later hb)
      clear ZA
      have ZA := ZAn
      clear ZAn
      have ZFn : Hid (∀ o, v3w.frozen? ⟨hv, o, none⟩ = false) := fun o => ((bcell hb).2 _ _ hvl).trans (ZF.out o)
      clear ZF
      have ZF := ZFn
      clear ZFn
      have hvl2 : hv < v3w.heap.size := by omega
      clear hvl
      have hvl := hvl2
      clear hvl2
      clear hb ho
      refine hK.out _ _ ⟨P3_1_0, P3_1_1, P3_1_2⟩ (fun _ => ?_)
      clear hK K
      try simp only [Act.put, List.setIfInBounds_toArray, List.set_cons_zero, List.set_cons_succ, List.getElem_toArray, List.getElem_cons_zero, List.getElem_cons_succ]
      refine wpAnyH_ready (rs := [4]) (by kernel_rfl) (by simp) (AllReadyH.cons rfl (fun K hK => ?_) (AllReadyH.nil))
      go_simp
      go_at_call 7
      refine (HS.out _ _ _ _ _ O_0.out.rd O_1.out.rd).mono ?_
      rintro e v4w ⟨z_r, rfl, hb, ho⟩
      obtain ⟨ao_r, c_r, hz_r⟩ := ho.shape
      rw [HLr.out] at hz_r
      subst hz_r
      have P4_1_0 := cell_later hb P3_1_0
      have P4_1_1 := cell_later hb P3_1_1
      have P4_1_2 := cell_later hb P3_1_2
      have HB_4 := hide (below_on HB_3.out hb)
      have hz_4 : v3w.heap.size ≤ v4w.heap.size := hb.size
      have O_0n := hide (O_0.out.later hb)
      clear O_0
      have O_0 := O_0n
      clear O_0n
      have O_1n := hide (O_1.out.later hb)
      clear O_1
      have O_1 := O_1n
      clear O_1n
      have O_r : Hid (IvJ v3w.heap.size v4w.heap.size v4w (.slice ao_r lr c_r) rs) := ho.iv
      have ZAn := hide (ZA.out.later hb)
      clear ZA
      have ZA := ZAn
      clear ZAn
      have ZFn : Hid (∀ o, v4w.frozen? ⟨hv, o, none⟩ = false) := fun o => ((bcell hb).2 _ _ hvl).trans (ZF.out o)
      clear ZF
      have ZF := ZFn
      clear ZFn
      have hdj : v4w.heap.size ≤ hv ∨ hv < v3w.heap.size := Or.inr hvl
      have hvl2 : hv < v4w.heap.size := by omega
      clear hvl
      have hvl := hvl2
      clear hvl2
      clear hb ho
      refine hK.out _ _ ⟨P4_1_0, P4_1_1, P4_1_2⟩ (fun _ => ?_)
      clear hK K
      try simp only [Act.put, List.setIfInBounds_toArray, List.set_cons_zero, List.set_cons_succ, List.getElem_toArray, List.getElem_cons_zero, List.getElem_cons_succ]
      refine wpAnyH_ready (rs := [6]) (by kernel_rfl) (by simp) (AllReadyH.cons rfl (fun K hK => ?_) (AllReadyH.nil))
      obtain ⟨Z_0, Z_1⟩ := ZA.out
      have Y_0 := ZF.out 0
      have Y_1 := ZF.out 1
      go_simp
      have hn1 : w.heap.size ≠ hv := by omega
      have hw : Wr (fun y => y = hv) v4w ((v4w.setCell ⟨hv, 0, none⟩ (.int .i64 code)).setCell ⟨hv, 1, none⟩ (.slice ao_r lr c_r)) := (((Wr.refl (fun y => y = hv) _).setCell (p := ⟨hv, 0, none⟩) rfl _).setCell (p := ⟨hv, 1, none⟩) rfl _)
      have HW := hide hw
      clear hw
      refine hK.out _ _ ⟨(set2_other hn1).trans P4_1_0, (set2_other hn1).trans P4_1_1, (set2_other hn1).trans P4_1_2⟩ (fun _ => ?_)
      clear hK K
      try simp only [Act.put, List.setIfInBounds_toArray, List.set_cons_zero, List.set_cons_succ, List.getElem_toArray, List.getElem_cons_zero, List.getElem_cons_succ]
      refine wpAnyH_done (by kernel_rfl) ?_ _
      go_wp2_with fail
      go_meet
      case rel =>
        refine ⟨hv, ao_r, c_r, rfl, hv2, by simpa using hvl, ⟨by simp [go_sem, Z_0], by simp [go_sem, Z_1]⟩, ?_, ?_⟩
        · exact IvJ.up (O_r.out.wr HW.out (fun b h1 h2 => by show ¬ (b = hv); omega)) (by omega) (by first | (simp; done) | (simp; omega))
        · exact HB_4.out.trans (HW.out.below HB_4.out.size (fun b hb => by subst hb; exact hv2))
  case rest =>
    obtain ⟨hvW, aoW, cW, rfl, hgW, hlW, HW⟩ := hcut
    obtain ⟨hV, hI, hb⟩ := HW.out
    clear HW
    clear p1_lt p1_0 p1_1 p1_2
    have N_W := hide hI
    have N_vW := hide hV
    have z_W : w2.heap.size ≤ wc.heap.size := hb.size
    have G_b1 := hide (F_b1.out.later hb)
    have BC := hide (below_on BB.out hb)
    clear F_b1
    have F_b1 := G_b1
    clear G_b1
    clear BB
    have BB := BC
    clear BC
    clear hb hI hV
    have F_W := N_W
    clear N_W
    have F_vW := N_vW
    clear N_vW
    obtain ⟨w3, hw3⟩ : ∃ x, wc = x := ⟨_, rfl⟩
    subst hw3
    have p1_lt := F_b1.out.lt
    obtain ⟨p1_0, p1_1, p1_2⟩ := F_b1.out
    (try simp only [Nat.add_zero] at p1_lt)
    go_wp2_with fail
    refine (toFi (HY0.out.later BB.out) HQ0.out.1 HQ0.out.2.1).mono ?_
    rintro e w4 ⟨zx0, rfl, hb, ho⟩
    obtain ⟨aox0, cx0, hzx0⟩ := ho.shape
    rw [HL0.out] at hzx0
    subst hzx0
    have G_b1 := hide (F_b1.out.later hb)
    have G_W := hide (F_W.out.later hb)
    have G_vW := hide (F_vW.out.later hb)
    have BC := hide (below_on BB.out hb)
    have z_w4 : wc.heap.size ≤ w4.heap.size := by have := hb.size; simpa using this
    have N_x0 := hide (ho.iv)
    clear p1_lt p1_0 p1_1 p1_2
    clear F_b1
    have F_b1 := G_b1
    clear G_b1
    clear F_W
    have F_W := G_W
    clear G_W
    clear F_vW
    have F_vW := G_vW
    clear G_vW
    clear BB
    have BB := BC
    clear BC
    have F_x0 := N_x0
    clear N_x0
    clear hb
    clear ho
    have p1_lt := F_b1.out.lt
    obtain ⟨p1_0, p1_1, p1_2⟩ := F_b1.out
    (try simp only [Nat.add_zero] at p1_lt)
    go_wp2_with fail
    refine (toFile n1_0 n1_1 (HY1.out.later BB.out) (by rw [HL1.out]; exact hl1)).mono ?_
    rintro e w5 ⟨zx1, rfl, hb, ho⟩
    obtain ⟨aox1, cx1, hzx1⟩ := ho.shape
    rw [HL1.out] at hzx1
    subst hzx1
    have G_b1 := hide (F_b1.out.later hb)
    have G_W := hide (F_W.out.later hb)
    have G_vW := hide (F_vW.out.later hb)
    have G_x0 := hide (F_x0.out.later hb)
    have BC := hide (below_on BB.out hb)
    have z_w5 : w4.heap.size ≤ w5.heap.size := by have := hb.size; simpa using this
    have N_x1 := hide (ho.iv)
    clear p1_lt p1_0 p1_1 p1_2
    clear F_b1
    have F_b1 := G_b1
    clear G_b1
    clear F_W
    have F_W := G_W
    clear G_W
    clear F_vW
    have F_vW := G_vW
    clear G_vW
    clear F_x0
    have F_x0 := G_x0
    clear G_x0
    clear BB
    have BB := BC
    clear BC
    have F_x1 := N_x1
    clear N_x1
    clear hb
    clear ho
    go_wp2_with fail
    refine (HI.out _ _ _ _ _ (F_x0.out.later (below_alloc _ (.cells #[.int .i64 n1_0, .int .i64 n1_1, .slice aox1 l1 cx1] 33))).rd (F_x1.out.later (below_alloc _ (.cells #[.int .i64 n1_0, .int .i64 n1_1, .slice aox1 l1 cx1] 33))).rd).mono ?_
    rintro e w6 ⟨zG, rfl, hb, ho⟩
    obtain ⟨aoG, cG, hzG⟩ := ho.shape
    rw [HLr.out] at hzG
    subst hzG
    have G_b1 := hide ((F_b1.out.later (below_alloc _ (.cells #[.int .i64 n1_0, .int .i64 n1_1, .slice aox1 l1 cx1] 33))).later hb)
    have G_W := hide ((F_W.out.later (below_alloc _ (.cells #[.int .i64 n1_0, .int .i64 n1_1, .slice aox1 l1 cx1] 33))).later hb)
    have G_vW := hide ((F_vW.out.later (below_alloc _ (.cells #[.int .i64 n1_0, .int .i64 n1_1, .slice aox1 l1 cx1] 33))).later hb)
    have G_x0 := hide ((F_x0.out.later (below_alloc _ (.cells #[.int .i64 n1_0, .int .i64 n1_1, .slice aox1 l1 cx1] 33))).later hb)
    have G_x1 := hide ((F_x1.out.later (below_alloc _ (.cells #[.int .i64 n1_0, .int .i64 n1_1, .slice aox1 l1 cx1] 33))).later hb)
    have BC := hide (below_on (below_on BB.out (below_alloc _ (.cells #[.int .i64 n1_0, .int .i64 n1_1, .slice aox1 l1 cx1] 33))) hb)
    have z_w6 : w5.heap.size + 1 ≤ w6.heap.size := by have := hb.size; simpa using this
    have N_G := hide (ho.iv)
    have N_v1 := hide ((Var3_new w5 (.int .i64 n1_0) (.int .i64 n1_1) (.slice aox1 l1 cx1) 33).later hb)
    clear F_b1
    have F_b1 := G_b1
    clear G_b1
    clear F_W
    have F_W := G_W
    clear G_W
    clear F_vW
    have F_vW := G_vW
    clear G_vW
    clear F_x0
    have F_x0 := G_x0
    clear G_x0
    clear F_x1
    have F_x1 := G_x1
    clear G_x1
    clear BB
    have BB := BC
    clear BC
    have F_G := N_G
    clear N_G
    have F_v1 := N_v1
    clear N_v1
    clear hb
    clear ho
    have qlt := F_vW.out.lt
    obtain ⟨q0, q1⟩ := F_vW.out
    (try simp only [Nat.add_zero] at qlt)
    go_wp2_with fail
    refine (eqFilesResult (F_G.out.later (below_alloc _ (.cells #[.int .i64 code, .slice aoG lr cG] 30))).rd (F_W.out.later (below_alloc _ (.cells #[.int .i64 code, .slice aoG lr cG] 30))).rd).mono ?_
    rintro e w7 ⟨rfl, hb⟩
    have G_b1 := hide ((F_b1.out.later (below_alloc _ (.cells #[.int .i64 code, .slice aoG lr cG] 30))).later hb)
    have G_W := hide ((F_W.out.later (below_alloc _ (.cells #[.int .i64 code, .slice aoG lr cG] 30))).later hb)
    have G_vW := hide ((F_vW.out.later (below_alloc _ (.cells #[.int .i64 code, .slice aoG lr cG] 30))).later hb)
    have G_x0 := hide ((F_x0.out.later (below_alloc _ (.cells #[.int .i64 code, .slice aoG lr cG] 30))).later hb)
    have G_x1 := hide ((F_x1.out.later (below_alloc _ (.cells #[.int .i64 code, .slice aoG lr cG] 30))).later hb)
    have G_G := hide ((F_G.out.later (below_alloc _ (.cells #[.int .i64 code, .slice aoG lr cG] 30))).later hb)
    have G_v1 := hide ((F_v1.out.later (below_alloc _ (.cells #[.int .i64 code, .slice aoG lr cG] 30))).later hb)
    have BC := hide (below_on (below_on BB.out (below_alloc _ (.cells #[.int .i64 code, .slice aoG lr cG] 30))) hb)
    have z_w7 : w6.heap.size + 1 ≤ w7.heap.size := by have := hb.size; simpa using this
    have N_vG := hide ((Var2_new w6 (.int .i64 code) (.slice aoG lr cG) 30).later hb)
    clear qlt q0 q1
    clear F_b1
    have F_b1 := G_b1
    clear G_b1
    clear F_W
    have F_W := G_W
    clear G_W
    clear F_vW
    have F_vW := G_vW
    clear G_vW
    clear F_x0
    have F_x0 := G_x0
    clear G_x0
    clear F_x1
    have F_x1 := G_x1
    clear G_x1
    clear F_G
    have F_G := G_G
    clear G_G
    clear F_v1
    have F_v1 := G_v1
    clear G_v1
    clear BB
    have BB := BC
    clear BC
    have F_vG := N_vG
    clear N_vG
    clear hb
    go_wp2_with fail
    refine (toFi (HY0.out.later BB.out) HQ0.out.1 HQ0.out.2.1).mono ?_
    rintro e w8 ⟨ze0, rfl, hb, ho⟩
    obtain ⟨aoe0, ce0, hze0⟩ := ho.shape
    rw [HL0.out] at hze0
    subst hze0
    have G_b1 := hide (F_b1.out.later hb)
    have G_W := hide (F_W.out.later hb)
    have G_vW := hide (F_vW.out.later hb)
    have G_x0 := hide (F_x0.out.later hb)
    have G_x1 := hide (F_x1.out.later hb)
    have G_G := hide (F_G.out.later hb)
    have G_v1 := hide (F_v1.out.later hb)
    have G_vG := hide (F_vG.out.later hb)
    have BC := hide (below_on BB.out hb)
    have z_w8 : w7.heap.size ≤ w8.heap.size := by have := hb.size; simpa using this
    have N_t0 := hide (ho.iv)
    clear F_b1
    have F_b1 := G_b1
    clear G_b1
    clear F_W
    have F_W := G_W
    clear G_W
    clear F_vW
    have F_vW := G_vW
    clear G_vW
    clear F_x0
    have F_x0 := G_x0
    clear G_x0
    clear F_x1
    have F_x1 := G_x1
    clear G_x1
    clear F_G
    have F_G := G_G
    clear G_G
    clear F_v1
    have F_v1 := G_v1
    clear G_v1
    clear F_vG
    have F_vG := G_vG
    clear G_vG
    clear BB
    have BB := BC
    clear BC
    have F_t0 := N_t0
    clear N_t0
    clear hb
    clear ho
    go_wp2_with fail
    refine (eqFi F_x0.out.rd F_t0.out.rd).mono ?_
    rintro e w9 ⟨rfl, hb⟩
    have G_b1 := hide (F_b1.out.later hb)
    have G_W := hide (F_W.out.later hb)
    have G_vW := hide (F_vW.out.later hb)
    have G_x0 := hide (F_x0.out.later hb)
    have G_x1 := hide (F_x1.out.later hb)
    have G_G := hide (F_G.out.later hb)
    have G_v1 := hide (F_v1.out.later hb)
    have G_vG := hide (F_vG.out.later hb)
    have G_t0 := hide (F_t0.out.later hb)
    have BC := hide (below_on BB.out hb)
    have z_w9 : w8.heap.size ≤ w9.heap.size := by have := hb.size; simpa using this
    clear F_b1
    have F_b1 := G_b1
    clear G_b1
    clear F_W
    have F_W := G_W
    clear G_W
    clear F_vW
    have F_vW := G_vW
    clear G_vW
    clear F_x0
    have F_x0 := G_x0
    clear G_x0
    clear F_x1
    have F_x1 := G_x1
    clear G_x1
    clear F_G
    have F_G := G_G
    clear G_G
    clear F_v1
    have F_v1 := G_v1
    clear G_v1
    clear F_vG
    have F_vG := G_vG
    clear G_vG
    clear F_t0
    have F_t0 := G_t0
    clear G_t0
    clear BB
    have BB := BC
    clear BC
    clear hb
    clear F_t0
    have plt := F_b1.out.lt
    obtain ⟨p0, p1, p2⟩ := F_b1.out
    (try simp only [Nat.add_zero] at plt)
    have qlt := F_v1.out.lt
    obtain ⟨q0, q1, q2⟩ := F_v1.out
    (try simp only [Nat.add_zero] at qlt)
    go_wp2_with fail
    go_region_held3 (fun w' => w'.cell? ⟨w.heap.size, 0, none⟩ = some (.int .i64 n1_0) ∧ w'.cell? ⟨w.heap.size, 1, none⟩ = some (.int .i64 n1_1) ∧ w'.cell? ⟨w.heap.size, 2, none⟩ = some (.slice ay1 l1 cy1) ∧ w'.cell? ⟨w5.heap.size, 0, none⟩ = some (.int .i64 n1_0) ∧ w'.cell? ⟨w5.heap.size, 1, none⟩ = some (.int .i64 n1_1) ∧ w'.cell? ⟨w5.heap.size, 2, none⟩ = some (.slice aox1 l1 cx1)) (first | exact ⟨p0, p1, p2, q0, q1, q2⟩ | exact ⟨e0, e1, e2, e3, e4, e5⟩ | exact ⟨i0, i1, i2, i3, i4, i5⟩)
      (first | (go_at_call 13; refine (eqFile n1_0 n1_1 (F_x1.out.later HB6.out).rd HO6.out.rd).mono ?_; rintro e w11 ⟨rfl, hb7⟩; have i0 := cell_later hb7 e0; have i1 := cell_later hb7 e1; have i2 := cell_later hb7 e2; have i3 := cell_later hb7 e3; have i4 := cell_later hb7 e4; have i5 := cell_later hb7 e5; have HB7 := hide (below_on HB6.out hb7); clear hb7) | (go_at_call 9; refine (toFile n1_0 n1_1 (HY1.out.later (below_on BB.out (below_drewN _ 1))) (by rw [HL1.out]; exact hl1)).mono ?_; rintro e w10 ⟨ze1, rfl, hb, ho⟩; have e0 := cell_later hb p0; have e1 := cell_later hb p1; have e2 := cell_later hb p2; have e3 := cell_later hb q0; have e4 := cell_later hb q1; have e5 := cell_later hb q2; have HO6 := hide (ho.iv); have HB6 := hide (below_on (below_drewN w9 1) hb); clear hb ho))
    have hb := HB7.out
    clear plt p0 p1 p2
    clear qlt q0 q1 q2
    have G_b1 := hide (F_b1.out.later hb)
    have G_W := hide (F_W.out.later hb)
    have G_vW := hide (F_vW.out.later hb)
    have G_x0 := hide (F_x0.out.later hb)
    have G_x1 := hide (F_x1.out.later hb)
    have G_G := hide (F_G.out.later hb)
    have G_v1 := hide (F_v1.out.later hb)
    have G_vG := hide (F_vG.out.later hb)
    have BC := hide (below_on BB.out hb)
    clear F_b1
    have F_b1 := G_b1
    clear G_b1
    clear F_W
    have F_W := G_W
    clear G_W
    clear F_vW
    have F_vW := G_vW
    clear G_vW
    clear F_x0
    have F_x0 := G_x0
    clear G_x0
    clear F_x1
    have F_x1 := G_x1
    clear G_x1
    clear F_G
    have F_G := G_G
    clear G_G
    clear F_v1
    have F_v1 := G_v1
    clear G_v1
    clear F_vG
    have F_vG := G_vG
    clear G_vG
    clear BB
    have BB := BC
    clear BC
    have z_w11 : w9.heap.size ≤ w11.heap.size := hb.size
    clear hb HB6 HB7 HO6 e0 i0 e1 i1 e2 i2 e3 i3 e4 i4 e5 i5
    have hK0 : (0 : Int) ≤ 1 := by omega
    go_wp2_with fail
    refine (markFiIv F_x0.out (by omega) (by rw [HT0.out]; omega)).mono ?_
    rintro e w12 ⟨he, hw⟩
    obtain ⟨K1, hK⟩ : ∃ K : Int, 1 + (totJ xs0 xs0.length : Int) = K := ⟨_, rfl⟩
    rw [hK] at he
    subst he
    rw [HT0.out] at hK
    have hK1 : 0 ≤ K1 := by omega
    have hKb1 : K1 ≤ 8388608 := by omega
    clear hK
    clear F_x0
    have z_w12 : w11.heap.size ≤ w12.heap.size := hw.size
    have G_b1 := hide (F_b1.out.wr hw (by have := F_b1.out.lt; simp <;> omega))
    have G_W := hide (F_W.out.wr hw (by intro b; simp <;> omega))
    have G_vW := hide (F_vW.out.wr hw (by have := F_vW.out.lt; simp <;> omega))
    have G_x1 := hide (F_x1.out.wr hw (by intro b; simp <;> omega))
    have G_G := hide (F_G.out.wr hw (by intro b; simp <;> omega))
    have G_v1 := hide (F_v1.out.wr hw (by have := F_v1.out.lt; simp <;> omega))
    have G_vG := hide (F_vG.out.wr hw (by have := F_vG.out.lt; simp <;> omega))
    have BC := hide (BB.out.trans (hw.below (by omega) (by intro b hb; (try simp at hb); omega)))
    clear F_b1
    have F_b1 := G_b1
    clear G_b1
    clear F_W
    have F_W := G_W
    clear G_W
    clear F_vW
    have F_vW := G_vW
    clear G_vW
    clear F_x1
    have F_x1 := G_x1
    clear G_x1
    clear F_G
    have F_G := G_G
    clear G_G
    clear F_v1
    have F_v1 := G_v1
    clear G_v1
    clear F_vG
    have F_vG := G_vG
    clear G_vG
    clear BB
    have BB := BC
    clear BC
    clear hw
    have plt := F_v1.out.lt
    obtain ⟨p0, p1, p2⟩ := F_v1.out
    (try simp only [Nat.add_zero] at plt)
    go_wp2_with fail
    refine (markFile n1_0 n1_1 F_x1.out (by omega) (by rw [HL1.out]; omega)).mono ?_
    rintro e w13 ⟨he, _, hw⟩
    obtain ⟨K2, hK⟩ : ∃ K : Int, K1 + (xs1.length : Int) = K := ⟨_, rfl⟩
    rw [hK] at he
    subst he
    rw [HL1.out] at hK
    have hK2 : 0 ≤ K2 := by omega
    have hKb2 : K2 ≤ 16777216 := by omega
    clear hK
    clear plt p0 p1 p2
    clear F_v1
    clear F_x1
    have z_w13 : w12.heap.size ≤ w13.heap.size := hw.size
    have G_b1 := hide (F_b1.out.wr hw (by have := F_b1.out.lt; simp <;> omega))
    have G_W := hide (F_W.out.wr hw (by intro b; simp <;> omega))
    have G_vW := hide (F_vW.out.wr hw (by have := F_vW.out.lt; simp <;> omega))
    have G_G := hide (F_G.out.wr hw (by intro b; simp <;> omega))
    have G_vG := hide (F_vG.out.wr hw (by have := F_vG.out.lt; simp <;> omega))
    have BC := hide (BB.out.trans (hw.below (by omega) (by intro b hb; (try simp at hb); omega)))
    clear F_b1
    have F_b1 := G_b1
    clear G_b1
    clear F_W
    have F_W := G_W
    clear G_W
    clear F_vW
    have F_vW := G_vW
    clear G_vW
    clear F_G
    have F_G := G_G
    clear G_G
    clear F_vG
    have F_vG := G_vG
    clear G_vG
    clear BB
    have BB := BC
    clear BC
    clear hw
    have plt := F_vG.out.lt
    obtain ⟨p0, p1⟩ := F_vG.out
    (try simp only [Nat.add_zero] at plt)
    have qlt := F_vW.out.lt
    obtain ⟨q0, q1⟩ := F_vW.out
    (try simp only [Nat.add_zero] at qlt)
    go_wp2_with fail
    refine (eqFilesResult F_G.out.rd F_W.out.rd).mono ?_
    rintro e w14 ⟨rfl, hb⟩
    have G_b1 := hide (F_b1.out.later hb)
    have G_W := hide (F_W.out.later hb)
    have G_vW := hide (F_vW.out.later hb)
    have G_G := hide (F_G.out.later hb)
    have G_vG := hide (F_vG.out.later hb)
    have BC := hide (below_on BB.out hb)
    have z_w14 : w13.heap.size ≤ w14.heap.size := by have := hb.size; simpa using this
    clear plt p0 p1
    clear qlt q0 q1
    clear F_b1
    have F_b1 := G_b1
    clear G_b1
    clear F_W
    have F_W := G_W
    clear G_W
    clear F_vW
    have F_vW := G_vW
    clear G_vW
    clear F_G
    have F_G := G_G
    clear G_G
    clear F_vG
    have F_vG := G_vG
    clear G_vG
    clear BB
    have BB := BC
    clear BC
    clear hb
    have plt := F_vG.out.lt
    obtain ⟨p0, p1⟩ := F_vG.out
    (try simp only [Nat.add_zero] at plt)
    go_wp2_with fail
    refine (markFilesResult F_G.out (by omega) HRB.out).mono ?_
    rintro e w15 ⟨he, hr, hw⟩
    rw [HMe.out] at he
    subst he
    have N_R := hide hr
    clear plt p0 p1
    clear F_G
    have z_w15 : w14.heap.size ≤ w15.heap.size := hw.size
    clear hr
    have G_b1 := hide (F_b1.out.wr hw (by have := F_b1.out.lt; simp <;> omega))
    have G_W := hide (F_W.out.wr hw (by intro b; simp <;> omega))
    have G_vW := hide (F_vW.out.wr hw (by have := F_vW.out.lt; simp <;> omega))
    have G_vG := hide (F_vG.out.wr hw (by have := F_vG.out.lt; simp <;> omega))
    have BC := hide (BB.out.trans (hw.below (by omega) (by intro b hb; (try simp at hb); omega)))
    clear F_b1
    have F_b1 := G_b1
    clear G_b1
    clear F_W
    have F_W := G_W
    clear G_W
    clear F_vW
    have F_vW := G_vW
    clear G_vW
    clear F_vG
    have F_vG := G_vG
    clear G_vG
    clear BB
    have BB := BC
    clear BC
    clear hw
    have F_R := N_R
    clear N_R
    have plt := F_vG.out.lt
    obtain ⟨p0, p1⟩ := F_vG.out
    (try simp only [Nat.add_zero] at plt)
    go_wp2_with fail
    refine (heldFilesResult F_R.out (by omega) HRB.out).mono ?_
    rintro e w16 ⟨he, hb⟩
    rw [HMe.out] at he
    subst he
    have G_b1 := hide (F_b1.out.later hb)
    have G_W := hide (F_W.out.later hb)
    have G_vW := hide (F_vW.out.later hb)
    have G_vG := hide (F_vG.out.later hb)
    have G_R := hide (F_R.out.later hb)
    have BC := hide (below_on BB.out hb)
    have z_w16 : w15.heap.size ≤ w16.heap.size := by have := hb.size; simpa using this
    clear plt p0 p1
    clear F_b1
    have F_b1 := G_b1
    clear G_b1
    clear F_W
    have F_W := G_W
    clear G_W
    clear F_vW
    have F_vW := G_vW
    clear G_vW
    clear F_vG
    have F_vG := G_vG
    clear G_vG
    clear F_R
    have F_R := G_R
    clear G_R
    clear BB
    have BB := BC
    clear BC
    clear hb
    have p1_lt := F_b1.out.lt
    obtain ⟨p1_0, p1_1, p1_2⟩ := F_b1.out
    (try simp only [Nat.add_zero] at p1_lt)
    go_upto_region 31 with fail
    go_cut [13] from 75 to 79 (fun v wx => ∃ (hv : Nat) (ao : Option Addr) (c : Nat), v = .pointer (some ⟨hv, 0, none⟩) ∧ w16.heap.size ≤ hv ∧ hv < wx.heap.size ∧ Hid (Var2 wx hv (.int .i64 code) (.slice ao lr c) ∧ IvJ w16.heap.size wx.heap.size wx (.slice ao lr c) rs ∧ Below w16.heap.size w16 wx))
    case first =>
      refine wp_region_held_drew (S := fun w' => w'.cell? ⟨w.heap.size, 0, none⟩ = some (.int .i64 n1_0) ∧ w'.cell? ⟨w.heap.size, 1, none⟩ = some (.int .i64 n1_1) ∧ w'.cell? ⟨w.heap.size, 2, none⟩ = some (.slice ay1 l1 cy1)) (by kernel_rfl) ⟨p1_0, p1_1, p1_2⟩ (fun hHeld0 => ?_)
      refine forgetH (fun wx => (wx.cell? ⟨w.heap.size, 0, none⟩ = some (.int .i64 n1_0) ∧ wx.cell? ⟨w.heap.size, 1, none⟩ = some (.int .i64 n1_1) ∧ wx.cell? ⟨w.heap.size, 2, none⟩ = some (.slice ay1 l1 cy1)) ∧ Below w16.heap.size w16 wx) ⟨hHeld0, below_drewN w16 1⟩ ?_
      clear hHeld0
      rintro v0w ⟨hHeld, hbx⟩
      have HB_0 := hide hbx
      have hz_0 := hbx.size
      clear hbx
      obtain ⟨P0_1_0, P0_1_1, P0_1_2⟩ := id hHeld
      refine wpAnyH_take (i := 0) (v := ?v31x0) rfl (by kernel_rfl) (by kernel_rfl) (by kernel_rfl) (fun _ _ _ h => h) (Or.inl ⟨by rfl, ?h31x0⟩) hHeld ?r31x0
      case h31x0 => intro w9 hSw; (try dsimp only at hSw); first | (go_simp; done) | (go_simp; with_reducible rfl)
      try simp only [Act.put, List.setIfInBounds_toArray, List.set_cons_zero, List.set_cons_succ, List.getElem_toArray, List.getElem_cons_zero, List.getElem_cons_succ]
      refine wpAnyH_take (i := 2) (v := ?v31x2) rfl (by kernel_rfl) (by kernel_rfl) (by kernel_rfl) (fun _ _ _ h => h) (Or.inl ⟨by rfl, ?h31x2⟩) hHeld ?r31x2
      case h31x2 => intro w9 hSw; (try dsimp only at hSw); first | (go_simp; done) | (go_simp; with_reducible rfl)
      try simp only [Act.put, List.setIfInBounds_toArray, List.set_cons_zero, List.set_cons_succ, List.getElem_toArray, List.getElem_cons_zero, List.getElem_cons_succ]
      refine wpAnyH_ready (rs := [1, 5]) (by kernel_rfl) (by simp) (AllReadyH.cons rfl (fun K hK => ?_) (AllReadyH.cons rfl (fun K hK => ?_) (AllReadyH.nil)))
      · skip
        go_simp
        go_at_call 8
        refine (toFi (HY0.out.later (below_on BB.out HB_0.out)) HQ0.out.1 HQ0.out.2.1).mono ?_
        rintro e v1w ⟨z_0, rfl, hb, ho⟩
        obtain ⟨ao_0, c_0, hz_0⟩ := ho.shape
        rw [HL0.out] at hz_0
        subst hz_0
        have P1_1_0 := cell_later hb P0_1_0
        have P1_1_1 := cell_later hb P0_1_1
        have P1_1_2 := cell_later hb P0_1_2
        have HB_1 := hide (below_on HB_0.out hb)
        have hz_1 : v0w.heap.size ≤ v1w.heap.size := hb.size
        have O_0 := hide (ho.iv)
        clear hb ho
        refine hK.out _ _ ⟨P1_1_0, P1_1_1, P1_1_2⟩ (fun _ => ?_)
        clear hK K
        try simp only [Act.put, List.setIfInBounds_toArray, List.set_cons_zero, List.set_cons_succ, List.getElem_toArray, List.getElem_cons_zero, List.getElem_cons_succ]
        refine wpAnyH_ready (rs := [3, 5]) (by kernel_rfl) (by simp) (AllReadyH.cons rfl (fun K hK => ?_) (AllReadyH.cons rfl (fun K hK => ?_) (AllReadyH.nil)))
        · skip
          go_simp
          go_at_call 9
          refine (toFile n1_0 n1_1 (HY1.out.later (below_on BB.out HB_1.out)) (by rw [HL1.out]; exact hl1)).mono ?_
          rintro e v2w ⟨z_1, rfl, hb, ho⟩
          obtain ⟨ao_1, c_1, hz_1⟩ := ho.shape
          rw [HL1.out] at hz_1
          subst hz_1
          have P2_1_0 := cell_later hb P1_1_0
          have P2_1_1 := cell_later hb P1_1_1
          have P2_1_2 := cell_later hb P1_1_2
          have HB_2 := hide (below_on HB_1.out hb)
          have hz_2 : v1w.heap.size ≤ v2w.heap.size := hb.size
          have O_0n := hide (O_0.out.later hb)
          clear O_0
          have O_0 := O_0n
          clear O_0n
          have O_1 := hide (ho.iv)
          clear hb ho
          refine hK.out _ _ ⟨P2_1_0, P2_1_1, P2_1_2⟩ (fun _ => ?_)
          clear hK K
          try simp only [Act.put, List.setIfInBounds_toArray, List.set_cons_zero, List.set_cons_succ, List.getElem_toArray, List.getElem_cons_zero, List.getElem_cons_succ]
          refine wpAnyH_ready (rs := [4, 5]) (by kernel_rfl) (by simp) (AllReadyH.cons rfl (fun K hK => ?_) (AllReadyH.cons rfl (fun K hK => ?_) (AllReadyH.nil)))
          · skip
            go_simp
            go_at_call 10
            refine (HI.out _ _ _ _ _ O_0.out.rd O_1.out.rd).mono ?_
            rintro e v3w ⟨z_r, rfl, hb, ho⟩
            obtain ⟨ao_r, c_r, hz_r⟩ := ho.shape
            rw [HLr.out] at hz_r
            subst hz_r
            have P3_1_0 := cell_later hb P2_1_0
            have P3_1_1 := cell_later hb P2_1_1
            have P3_1_2 := cell_later hb P2_1_2
            have HB_3 := hide (below_on HB_2.out hb)
            have hz_3 : v2w.heap.size ≤ v3w.heap.size := hb.size
            have O_0n := hide (O_0.out.later hb)
            clear O_0
            have O_0 := O_0n
            clear O_0n
            have O_1n := hide (O_1.out.later hb)
            clear O_1
            have O_1 := O_1n
            clear O_1n
            have O_r : Hid (IvJ v2w.heap.size v3w.heap.size v3w (.slice ao_r lr c_r) rs) := ho.iv
            clear hb ho
            refine hK.out _ _ ⟨P3_1_0, P3_1_1, P3_1_2⟩ (fun _ => ?_)
            clear hK K
            try simp only [Act.put, List.setIfInBounds_toArray, List.set_cons_zero, List.set_cons_succ, List.getElem_toArray, List.getElem_cons_zero, List.getElem_cons_succ]
            refine wpAnyH_ready (rs := [5]) (by kernel_rfl) (by simp) (AllReadyH.cons rfl (fun K hK => ?_) (AllReadyH.nil))
            go_simp
            have hb := below_alloc v3w (.cells #[.int .i64 0, .slice none 0 0] 30)
            refine hK.out _ _ ⟨cell_later hb P3_1_0, cell_later hb P3_1_1, cell_later hb P3_1_2⟩ (fun _ => ?_)
            clear hK K
            try simp only [Act.put, List.setIfInBounds_toArray, List.set_cons_zero, List.set_cons_succ, List.getElem_toArray, List.getElem_cons_zero, List.getElem_cons_succ]
            refine forgetH (fun wx => (wx.cell? ⟨w.heap.size, 0, none⟩ = some (.int .i64 n1_0) ∧ wx.cell? ⟨w.heap.size, 1, none⟩ = some (.int .i64 n1_1) ∧ wx.cell? ⟨w.heap.size, 2, none⟩ = some (.slice ay1 l1 cy1)) ∧ Below v3w.heap.size v3w wx ∧ Var2 wx v3w.heap.size (.int .i64 0) (.slice none 0 0) ∧ (∀ o, wx.frozen? ⟨v3w.heap.size, o, none⟩ = false) ∧ v3w.heap.size < wx.heap.size) ⟨⟨cell_later hb P3_1_0, cell_later hb P3_1_1, cell_later hb P3_1_2⟩, hb, Var2_new _ _ _ _ , fun o => by simp [go_sem], by simp⟩ ?_
            clear hb
            rintro v4w ⟨⟨P4_1_0, P4_1_1, P4_1_2⟩, hb, za, zf, hvl⟩
            have HB_4 := hide (below_on HB_3.out hb)
            have hz_4 : v3w.heap.size ≤ v4w.heap.size := hb.size
            have O_0n := hide (O_0.out.later hb)
            clear O_0
            have O_0 := O_0n
            clear O_0n
            have O_1n := hide (O_1.out.later hb)
            clear O_1
            have O_1 := O_1n
            clear O_1n
            have O_rn := hide (O_r.out.later hb)
            clear O_r
            have O_r := O_rn
            clear O_rn
            obtain ⟨hv, hhv⟩ : ∃ hv, v3w.heap.size = hv := ⟨_, rfl⟩
            have ZA := hide za
            have ZF := hide zf
            clear za zf hb
            rw [hhv] at ZA ZF hvl ⊢
            have hv2 : w16.heap.size ≤ hv := by omega
            have hdj : v3w.heap.size ≤ hv ∨ hv < v2w.heap.size := Or.inl (by omega)
            have HHv := hide hhv
            clear hhv
            refine wpAnyH_ready (rs := [6]) (by kernel_rfl) (by simp) (AllReadyH.cons rfl (fun K hK => ?_) (AllReadyH.nil))
            obtain ⟨Z_0, Z_1⟩ := ZA.out
            have Y_0 := ZF.out 0
            have Y_1 := ZF.out 1
            go_simp
            have hn1 : w.heap.size ≠ hv := by omega
            have hw : Wr (fun y => y = hv) v4w ((v4w.setCell ⟨hv, 0, none⟩ (.int .i64 code)).setCell ⟨hv, 1, none⟩ (.slice ao_r lr c_r)) := (((Wr.refl (fun y => y = hv) _).setCell (p := ⟨hv, 0, none⟩) rfl _).setCell (p := ⟨hv, 1, none⟩) rfl _)
            have HW := hide hw
            clear hw
            refine hK.out _ _ ⟨(set2_other hn1).trans P4_1_0, (set2_other hn1).trans P4_1_1, (set2_other hn1).trans P4_1_2⟩ (fun _ => ?_)
            clear hK K
            try simp only [Act.put, List.setIfInBounds_toArray, List.set_cons_zero, List.set_cons_succ, List.getElem_toArray, List.getElem_cons_zero, List.getElem_cons_succ]
            refine wpAnyH_done (by kernel_rfl) ?_ _
            go_wp2_with fail
            go_meet
            case rel =>
              refine ⟨hv, ao_r, c_r, rfl, hv2, by simpa using hvl, ⟨by simp [go_sem, Z_0], by simp [go_sem, Z_1]⟩, ?_, ?_⟩
              · exact IvJ.up (O_r.out.wr HW.out (fun b h1 h2 => by show ¬ (b = hv); omega)) (by omega) (by first | (simp; done) | (simp; omega))
              · exact HB_4.out.trans (HW.out.below HB_4.out.size (fun b hb => by subst hb; exact hv2))
          · skip
            go_simp
            have hb := below_alloc v2w (.cells #[.int .i64 0, .slice none 0 0] 30)
            refine hK.out _ _ ⟨cell_later hb P2_1_0, cell_later hb P2_1_1, cell_later hb P2_1_2⟩ (fun _ => ?_)
            clear hK K
            try simp only [Act.put, List.setIfInBounds_toArray, List.set_cons_zero, List.set_cons_succ, List.getElem_toArray, List.getElem_cons_zero, List.getElem_cons_succ]
            refine forgetH (fun wx => (wx.cell? ⟨w.heap.size, 0, none⟩ = some (.int .i64 n1_0) ∧ wx.cell? ⟨w.heap.size, 1, none⟩ = some (.int .i64 n1_1) ∧ wx.cell? ⟨w.heap.size, 2, none⟩ = some (.slice ay1 l1 cy1)) ∧ Below v2w.heap.size v2w wx ∧ Var2 wx v2w.heap.size (.int .i64 0) (.slice none 0 0) ∧ (∀ o, wx.frozen? ⟨v2w.heap.size, o, none⟩ = false) ∧ v2w.heap.size < wx.heap.size) ⟨⟨cell_later hb P2_1_0, cell_later hb P2_1_1, cell_later hb P2_1_2⟩, hb, Var2_new _ _ _ _ , fun o => by simp [go_sem], by simp⟩ ?_
            clear hb
            rintro v3w ⟨⟨P3_1_0, P3_1_1, P3_1_2⟩, hb, za, zf, hvl⟩
            have HB_3 := hide (below_on HB_2.out hb)
            have hz_3 : v2w.heap.size ≤ v3w.heap.size := hb.size
            have O_0n := hide (O_0.out.later hb)
            clear O_0
            have O_0 := O_0n
            clear O_0n
            have O_1n := hide (O_1.out.later hb)
            clear O_1
            have O_1 := O_1n
            clear O_1n
            obtain ⟨hv, hhv⟩ : ∃ hv, v2w.heap.size = hv := ⟨_, rfl⟩
            have ZA := hide za
            have ZF := hide zf
            clear za zf hb
            rw [hhv] at ZA ZF hvl ⊢
            have hv2 : w16.heap.size ≤ hv := by omega
            have HHv := hide hhv
            clear hhv
            refine wpAnyH_ready (rs := [4]) (by kernel_rfl) (by simp) (AllReadyH.cons rfl (fun K hK => ?_) (AllReadyH.nil))
            go_simp
            go_at_call 10
            refine (HI.out _ _ _ _ _ O_0.out.rd O_1.out.rd).mono ?_
            rintro e v4w ⟨z_r, rfl, hb, ho⟩
            obtain ⟨ao_r, c_r, hz_r⟩ := ho.shape
            rw [HLr.out] at hz_r
            subst hz_r
            have P4_1_0 := cell_later hb P3_1_0
            have P4_1_1 := cell_later hb P3_1_1
            have P4_1_2 := cell_later hb P3_1_2
            have HB_4 := hide (below_on HB_3.out hb)
            have hz_4 : v3w.heap.size ≤ v4w.heap.size := hb.size
            have O_0n := hide (O_0.out.later hb)
            clear O_0
            have O_0 := O_0n
            clear O_0n
            have O_1n := hide (O_1.out.later hb)
            clear O_1
            have O_1 := O_1n
            clear O_1n
            have O_r : Hid (IvJ v3w.heap.size v4w.heap.size v4w (.slice ao_r lr c_r) rs) := ho.iv
            have ZAn := hide (ZA.out.later hb)
            clear ZA
            have ZA := ZAn
            clear ZAn
            have ZFn : Hid (∀ o, v4w.frozen? ⟨hv, o, none⟩ = false) := fun o => ((bcell hb).2 _ _ hvl).trans (ZF.out o)
            clear ZF
            have ZF := ZFn
            clear ZFn
            have hdj : v4w.heap.size ≤ hv ∨ hv < v3w.heap.size := Or.inr hvl
            have hvl2 : hv < v4w.heap.size := by omega
            clear hvl
            have hvl := hvl2
            clear hvl2
            clear hb ho
            refine hK.out _ _ ⟨P4_1_0, P4_1_1, P4_1_2⟩ (fun _ => ?_)
            clear hK K
            try simp only [Act.put, List.setIfInBounds_toArray, List.set_cons_zero, List.set_cons_succ, List.getElem_toArray, List.getElem_cons_zero, List.getElem_cons_succ]
            refine wpAnyH_ready (rs := [6]) (by kernel_rfl) (by simp) (AllReadyH.cons rfl (fun K hK => ?_) (AllReadyH.nil))
            obtain ⟨Z_0, Z_1⟩ := ZA.out
            have Y_0 := ZF.out 0
            have Y_1 := ZF.out 1
            go_simp
            have hn1 : w.heap.size ≠ hv := by omega
            have hw : Wr (fun y => y = hv) v4w ((v4w.setCell ⟨hv, 0, none⟩ (.int .i64 code)).setCell ⟨hv, 1, none⟩ (.slice ao_r lr c_r)) := (((Wr.refl (fun y => y = hv) _).setCell (p := ⟨hv, 0, none⟩) rfl _).setCell (p := ⟨hv, 1, none⟩) rfl _)
            have HW := hide hw
            clear hw
            refine hK.out _ _ ⟨(set2_other hn1).trans P4_1_0, (set2_other hn1).trans P4_1_1, (set2_other hn1).trans P4_1_2⟩ (fun _ => ?_)
            clear hK K
            try simp only [Act.put, List.setIfInBounds_toArray, List.set_cons_zero, List.set_cons_succ, List.getElem_toArray, List.getElem_cons_zero, List.getElem_cons_succ]
            refine wpAnyH_done (by kernel_rfl) ?_ _
            go_wp2_with fail
            go_meet
            case rel =>
              refine ⟨hv, ao_r, c_r, rfl, hv2, by simpa using hvl, ⟨by simp [go_sem, Z_0], by simp [go_sem, Z_1]⟩, ?_, ?_⟩
              · exact IvJ.up (O_r.out.wr HW.out (fun b h1 h2 => by show ¬ (b = hv); omega)) (by omega) (by first | (simp; done) | (simp; omega))
              · exact HB_4.out.trans (HW.out.below HB_4.out.size (fun b hb => by subst hb; exact hv2))
        · skip
          go_simp
          have hb := below_alloc v1w (.cells #[.int .i64 0, .slice none 0 0] 30)
          refine hK.out _ _ ⟨cell_later hb P1_1_0, cell_later hb P1_1_1, cell_later hb P1_1_2⟩ (fun _ => ?_)
          clear hK K
          try simp only [Act.put, List.setIfInBounds_toArray, List.set_cons_zero, List.set_cons_succ, List.getElem_toArray, List.getElem_cons_zero, List.getElem_cons_succ]
          refine forgetH (fun wx => (wx.cell? ⟨w.heap.size, 0, none⟩ = some (.int .i64 n1_0) ∧ wx.cell? ⟨w.heap.size, 1, none⟩ = some (.int .i64 n1_1) ∧ wx.cell? ⟨w.heap.size, 2, none⟩ = some (.slice ay1 l1 cy1)) ∧ Below v1w.heap.size v1w wx ∧ Var2 wx v1w.heap.size (.int .i64 0) (.slice none 0 0) ∧ (∀ o, wx.frozen? ⟨v1w.heap.size, o, none⟩ = false) ∧ v1w.heap.size < wx.heap.size) ⟨⟨cell_later hb P1_1_0, cell_later hb P1_1_1, cell_later hb P1_1_2⟩, hb, Var2_new _ _ _ _ , fun o => by simp [go_sem], by simp⟩ ?_
          clear hb
          rintro v2w ⟨⟨P2_1_0, P2_1_1, P2_1_2⟩, hb, za, zf, hvl⟩
          have HB_2 := hide (below_on HB_1.out hb)
          have hz_2 : v1w.heap.size ≤ v2w.heap.size := hb.size
          have O_0n := hide (O_0.out.later hb)
          clear O_0
          have O_0 := O_0n
          clear O_0n
          obtain ⟨hv, hhv⟩ : ∃ hv, v1w.heap.size = hv := ⟨_, rfl⟩
          have ZA := hide za
          have ZF := hide zf
          clear za zf hb
          rw [hhv] at ZA ZF hvl ⊢
          have hv2 : w16.heap.size ≤ hv := by omega
          have HHv := hide hhv
          clear hhv
          refine wpAnyH_ready (rs := [3]) (by kernel_rfl) (by simp) (AllReadyH.cons rfl (fun K hK => ?_) (AllReadyH.nil))
          go_simp
          go_at_call 9
          refine (toFile n1_0 n1_1 (HY1.out.later (below_on BB.out HB_2.out)) (by rw [HL1.out]; exact hl1)).mono ?_
          rintro e v3w ⟨z_1, rfl, hb, ho⟩
          obtain ⟨ao_1, c_1, hz_1⟩ := ho.shape
          rw [HL1.out] at hz_1
          subst hz_1
          have P3_1_0 := cell_later hb P2_1_0
          have P3_1_1 := cell_later hb P2_1_1
          have P3_1_2 := cell_later hb P2_1_2
          have HB_3 := hide (below_on HB_2.out hb)
          have hz_3 : v2w.heap.size ≤ v3w.heap.size := hb.size
          have O_0n := hide (O_0.out.later hb)
          clear O_0
          have O_0 := O_0n
          clear O_0n
          have O_1 := hide (ho.iv)
          have ZAn := hide (ZA.out.later hb)
          clear ZA
          have ZA := ZAn
          clear ZAn
          have ZFn : Hid (∀ o, v3w.frozen? ⟨hv, o, none⟩ = false) := fun o => ((bcell hb).2 _ _ hvl).trans (ZF.out o)
          clear ZF
          have ZF := ZFn
          clear ZFn
          have hvl2 : hv < v3w.heap.size := by omega
          clear hvl
          have hvl := hvl2
          clear hvl2
          clear hb ho
          refine hK.out _ _ ⟨P3_1_0, P3_1_1, P3_1_2⟩ (fun _ => ?_)
          clear hK K
          try simp only [Act.put, List.setIfInBounds_toArray, List.set_cons_zero, List.set_cons_succ, List.getElem_toArray, List.getElem_cons_zero, List.getElem_cons_succ]
          refine wpAnyH_ready (rs := [4]) (by kernel_rfl) (by simp) (AllReadyH.cons rfl (fun K hK => ?_) (AllReadyH.nil))
          go_simp
          go_at_call 10
          refine (HI.out _ _ _ _ _ O_0.out.rd O_1.out.rd).mono ?_
          rintro e v4w ⟨z_r, rfl, hb, ho⟩
          obtain ⟨ao_r, c_r, hz_r⟩ := ho.shape
          rw [HLr.out] at hz_r
          subst hz_r
          have P4_1_0 := cell_later hb P3_1_0
          have P4_1_1 := cell_later hb P3_1_1
          have P4_1_2 := cell_later hb P3_1_2
          have HB_4 := hide (below_on HB_3.out hb)
          have hz_4 : v3w.heap.size ≤ v4w.heap.size := hb.size
          have O_0n := hide (O_0.out.later hb)
          clear O_0
          have O_0 := O_0n
          clear O_0n
          have O_1n := hide (O_1.out.later hb)
          clear O_1
          have O_1 := O_1n
          clear O_1n
          have O_r : Hid (IvJ v3w.heap.size v4w.heap.size v4w (.slice ao_r lr c_r) rs) := ho.iv
          have ZAn := hide (ZA.out.later hb)
          clear ZA
          have ZA := ZAn
          clear ZAn
          have ZFn : Hid (∀ o, v4w.frozen? ⟨hv, o, none⟩ = false) := fun o => ((bcell hb).2 _ _ hvl).trans (ZF.out o)
          clear ZF
          have ZF := ZFn
          clear ZFn
          have hdj : v4w.heap.size ≤ hv ∨ hv < v3w.heap.size := Or.inr hvl
          have hvl2 : hv < v4w.heap.size := by omega
          clear hvl
          have hvl := hvl2
          clear hvl2
          clear hb ho
          refine hK.out _ _ ⟨P4_1_0, P4_1_1, P4_1_2⟩ (fun _ => ?_)
          clear hK K
          try simp only [Act.put, List.setIfInBounds_toArray, List.set_cons_zero, List.set_cons_succ, List.getElem_toArray, List.getElem_cons_zero, List.getElem_cons_succ]
          refine wpAnyH_ready (rs := [6]) (by kernel_rfl) (by simp) (AllReadyH.cons rfl (fun K hK => ?_) (AllReadyH.nil))
          obtain ⟨Z_0, Z_1⟩ := ZA.out
          have Y_0 := ZF.out 0
          have Y_1 := ZF.out 1
          go_simp
          have hn1 : w.heap.size ≠ hv := by omega
          have hw : Wr (fun y => y = hv) v4w ((v4w.setCell ⟨hv, 0, none⟩ (.int .i64 code)).setCell ⟨hv, 1, none⟩ (.slice ao_r lr c_r)) := (((Wr.refl (fun y => y = hv) _).setCell (p := ⟨hv, 0, none⟩) rfl _).setCell (p := ⟨hv, 1, none⟩) rfl _)
          have HW := hide hw
          clear hw
          refine hK.out _ _ ⟨(set2_other hn1).trans P4_1_0, (set2_other hn1).trans P4_1_1, (set2_other hn1).trans P4_1_2⟩ (fun _ => ?_)
          clear hK K
          try simp only [Act.put, List.setIfInBounds_toArray, List.set_cons_zero, List.set_cons_succ, List.getElem_toArray, List.getElem_cons_zero, List.getElem_cons_succ]
          refine wpAnyH_done (by kernel_rfl) ?_ _
          go_wp2_with fail
          go_meet
          case rel =>
            refine ⟨hv, ao_r, c_r, rfl, hv2, by simpa using hvl, ⟨by simp [go_sem, Z_0], by simp [go_sem, Z_1]⟩, ?_, ?_⟩
            · exact IvJ.up (O_r.out.wr HW.out (fun b h1 h2 => by show ¬ (b = hv); omega)) (by omega) (by first | (simp; done) | (simp; omega))
            · exact HB_4.out.trans (HW.out.below HB_4.out.size (fun b hb => by subst hb; exact hv2))
      · skip
        go_simp
        have hb := below_alloc v0w (.cells #[.int .i64 0, .slice none 0 0] 30)
        refine hK.out _ _ ⟨cell_later hb P0_1_0, cell_later hb P0_1_1, cell_later hb P0_1_2⟩ (fun _ => ?_)
        clear hK K
        try simp only [Act.put, List.setIfInBounds_toArray, List.set_cons_zero, List.set_cons_succ, List.getElem_toArray, List.getElem_cons_zero, List.getElem_cons_succ]
        refine forgetH (fun wx => (wx.cell? ⟨w.heap.size, 0, none⟩ = some (.int .i64 n1_0) ∧ wx.cell? ⟨w.heap.size, 1, none⟩ = some (.int .i64 n1_1) ∧ wx.cell? ⟨w.heap.size, 2, none⟩ = some (.slice ay1 l1 cy1)) ∧ Below v0w.heap.size v0w wx ∧ Var2 wx v0w.heap.size (.int .i64 0) (.slice none 0 0) ∧ (∀ o, wx.frozen? ⟨v0w.heap.size, o, none⟩ = false) ∧ v0w.heap.size < wx.heap.size) ⟨⟨cell_later hb P0_1_0, cell_later hb P0_1_1, cell_later hb P0_1_2⟩, hb, Var2_new _ _ _ _ , fun o => by simp [go_sem], by simp⟩ ?_
        clear hb
        rintro v1w ⟨⟨P1_1_0, P1_1_1, P1_1_2⟩, hb, za, zf, hvl⟩
        have HB_1 := hide (below_on HB_0.out hb)
        have hz_1 : v0w.heap.size ≤ v1w.heap.size := hb.size
        obtain ⟨hv, hhv⟩ : ∃ hv, v0w.heap.size = hv := ⟨_, rfl⟩
        have ZA := hide za
        have ZF := hide zf
        clear za zf hb
        rw [hhv] at ZA ZF hvl ⊢
        have hv2 : w16.heap.size ≤ hv := by omega
        have HHv := hide hhv
        clear hhv
        refine wpAnyH_ready (rs := [1]) (by kernel_rfl) (by simp) (AllReadyH.cons rfl (fun K hK => ?_) (AllReadyH.nil))
        go_simp
        go_at_call 8
        refine (toFi (HY0.out.later (below_on BB.out HB_1.out)) HQ0.out.1 HQ0.out.2.1).mono ?_
        rintro e v2w ⟨z_0, rfl, hb, ho⟩
        obtain ⟨ao_0, c_0, hz_0⟩ := ho.shape
        rw [HL0.out] at hz_0
        subst hz_0
        have P2_1_0 := cell_later hb P1_1_0
        have P2_1_1 := cell_later hb P1_1_1
        have P2_1_2 := cell_later hb P1_1_2
        have HB_2 := hide (below_on HB_1.out hb)
        have hz_2 : v1w.heap.size ≤ v2w.heap.size := hb.size
        have O_0 := hide (ho.iv)
        have ZAn := hide (ZA.out.later hb)
        clear ZA
        have ZA := ZAn
        clear ZAn
        have ZFn : Hid (∀ o, v2w.frozen? ⟨hv, o, none⟩ = false) := fun o => ((bcell hb).2 _ _ hvl).trans (ZF.out o)
        clear ZF
        have ZF := ZFn
        clear ZFn
        have hvl2 : hv < v2w.heap.size := by omega
        clear hvl
        have hvl := hvl2
        clear hvl2
        clear hb ho
        refine hK.out _ _ ⟨P2_1_0, P2_1_1, P2_1_2⟩ (fun _ => ?_)
        clear hK K
        try simp only [Act.put, List.setIfInBounds_toArray, List.set_cons_zero, List.set_cons_succ, List.getElem_toArray, List.getElem_cons_zero, List.getElem_cons_succ]
        refine wpAnyH_ready (rs := [3]) (by kernel_rfl) (by simp) (AllReadyH.cons rfl (fun K hK => ?_) (AllReadyH.nil))
        go_simp
        go_at_call 9
        refine (toFile n1_0 n1_1 (HY1.out.later (below_on BB.out HB_2.out)) (by rw [HL1.out]; exact hl1)).mono ?_
        rintro e v3w ⟨z_1, rfl, hb, ho⟩
        obtain ⟨ao_1, c_1, hz_1⟩ := ho.shape
        rw [HL1.out] at hz_1
        subst hz_1
        have P3_1_0 := cell_later hb P2_1_0
        have P3_1_1 := cell_later hb P2_1_1
        have P3_1_2 := cell_later hb P2_1_2
        have HB_3 := hide (below_on HB_2.out hb)
        have hz_3 : v2w.heap.size ≤ v3w.heap.size := hb.size
        have O_0n := hide (O_0.out.later hb)
        clear O_0
        have O_0 := O_0n
        clear O_0n
        have O_1 := hide (ho.iv)
        have ZAn := hide (ZA.out.later hb)
        clear ZA
        have ZA := ZAn
        clear ZAn
        have ZFn : Hid (∀ o, v3w.frozen? ⟨hv, o, none⟩ = false) := fun o => ((bcell hb).2 _ _ hvl).trans (ZF.out o)
        clear ZF
        have ZF := ZFn
        clear ZFn
        have hvl2 : hv < v3w.heap.size := by omega
        clear hvl
        have hvl := hvl2
        clear hvl2
        clear hb ho
        refine hK.out _ _ ⟨P3_1_0, P3_1_1, P3_1_2⟩ (fun _ => ?_)
        clear hK K
        try simp only [Act.put, List.setIfInBounds_toArray, List.set_cons_zero, List.set_cons_succ, List.getElem_toArray, List.getElem_cons_zero, List.getElem_cons_succ]
        refine wpAnyH_ready (rs := [4]) (by kernel_rfl) (by simp) (AllReadyH.cons rfl (fun K hK => ?_) (AllReadyH.nil))
        go_simp
        go_at_call 10
        refine (HI.out _ _ _ _ _ O_0.out.rd O_1.out.rd).mono ?_
        rintro e v4w ⟨z_r, rfl, hb, ho⟩
        obtain ⟨ao_r, c_r, hz_r⟩ := ho.shape
        rw [HLr.out] at hz_r
        subst hz_r
        have P4_1_0 := cell_later hb P3_1_0
        have P4_1_1 := cell_later hb P3_1_1
        have P4_1_2 := cell_later hb P3_1_2
        have HB_4 := hide (below_on HB_3.out hb)
        have hz_4 : v3w.heap.size ≤ v4w.heap.size := hb.size
        have O_0n := hide (O_0.out.later hb)
        clear O_0
        have O_0 := O_0n
        clear O_0n
        have O_1n := hide (O_1.out.later hb)
        clear O_1
        have O_1 := O_1n
        clear O_1n
        have O_r : Hid (IvJ v3w.heap.size v4w.heap.size v4w (.slice ao_r lr c_r) rs) := ho.iv
        have ZAn := hide (ZA.out.later hb)
        clear ZA
        have ZA := ZAn
        clear ZAn
        have ZFn : Hid (∀ o, v4w.frozen? ⟨hv, o, none⟩ = false) := fun o => ((bcell hb).2 _ _ hvl).trans (ZF.out o)
        clear ZF
        have ZF := ZFn
        clear ZFn
        have hdj : v4w.heap.size ≤ hv ∨ hv < v3w.heap.size := Or.inr hvl
        have hvl2 : hv < v4w.heap.size := by omega
        clear hvl
        have hvl := hvl2
        clear hvl2
        clear hb ho
        refine hK.out _ _ ⟨P4_1_0, P4_1_1, P4_1_2⟩ (fun _ => ?_)
        clear hK K
        try simp only [Act.put, List.setIfInBounds_toArray, List.set_cons_zero, List.set_cons_succ, List.getElem_toArray, List.getElem_cons_zero, List.getElem_cons_succ]
        refine wpAnyH_ready (rs := [6]) (by kernel_rfl) (by simp) (AllReadyH.cons rfl (fun K hK => ?_) (AllReadyH.nil))
        obtain ⟨Z_0, Z_1⟩ := ZA.out
        have Y_0 := ZF.out 0
        have Y_1 := ZF.out 1
        go_simp
        have hn1 : w.heap.size ≠ hv := by omega
        have hw : Wr (fun y => y = hv) v4w ((v4w.setCell ⟨hv, 0, none⟩ (.int .i64 code)).setCell ⟨hv, 1, none⟩ (.slice ao_r lr c_r)) := (((Wr.refl (fun y => y = hv) _).setCell (p := ⟨hv, 0, none⟩) rfl _).setCell (p := ⟨hv, 1, none⟩) rfl _)
        have HW := hide hw
        clear hw
        refine hK.out _ _ ⟨(set2_other hn1).trans P4_1_0, (set2_other hn1).trans P4_1_1, (set2_other hn1).trans P4_1_2⟩ (fun _ => ?_)
        clear hK K
        try simp only [Act.put, List.setIfInBounds_toArray, List.set_cons_zero, List.set_cons_succ, List.getElem_toArray, List.getElem_cons_zero, List.getElem_cons_succ]
        refine wpAnyH_done (by kernel_rfl) ?_ _
        go_wp2_with fail
        go_meet
        case rel =>
          refine ⟨hv, ao_r, c_r, rfl, hv2, by simpa using hvl, ⟨by simp [go_sem, Z_0], by simp [go_sem, Z_1]⟩, ?_, ?_⟩
          · exact IvJ.up (O_r.out.wr HW.out (fun b h1 h2 => by show ¬ (b = hv); omega)) (by omega) (by first | (simp; done) | (simp; omega))
          · exact HB_4.out.trans (HW.out.below HB_4.out.size (fun b hb => by subst hb; exact hv2))
    case rest =>
      obtain ⟨hvH, aoH, cH, rfl, hgH, hlH, HW⟩ := hcut
      obtain ⟨hV, hI, hb⟩ := HW.out
      clear HW
      clear p1_lt p1_0 p1_1 p1_2
      have N_H := hide hI
      have N_vH := hide hV
      have z_H : w16.heap.size ≤ wc.heap.size := hb.size
      have G_b1 := hide (F_b1.out.later hb)
      have G_W := hide (F_W.out.later hb)
      have G_vW := hide (F_vW.out.later hb)
      have G_vG := hide (F_vG.out.later hb)
      have G_R := hide (F_R.out.later hb)
      have BC := hide (below_on BB.out hb)
      clear F_b1
      have F_b1 := G_b1
      clear G_b1
      clear F_W
      have F_W := G_W
      clear G_W
      clear F_vW
      have F_vW := G_vW
      clear G_vW
      clear F_vG
      have F_vG := G_vG
      clear G_vG
      clear F_R
      have F_R := G_R
      clear G_R
      clear BB
      have BB := BC
      clear BC
      clear hb hI hV
      have F_H := N_H
      clear N_H
      have F_vH := N_vH
      clear N_vH
      obtain ⟨w17, hw17⟩ : ∃ x, wc = x := ⟨_, rfl⟩
      subst hw17
      have plt := F_vH.out.lt
      obtain ⟨p0, p1⟩ := F_vH.out
      (try simp only [Nat.add_zero] at plt)
      have qlt := F_vW.out.lt
      obtain ⟨q0, q1⟩ := F_vW.out
      (try simp only [Nat.add_zero] at qlt)
      go_wp2_with fail
      refine (eqFilesResult F_H.out.rd F_W.out.rd).mono ?_
      rintro e w18 ⟨rfl, hb⟩
      have G_b1 := hide (F_b1.out.later hb)
      have G_W := hide (F_W.out.later hb)
      have G_vW := hide (F_vW.out.later hb)
      have G_vG := hide (F_vG.out.later hb)
      have G_R := hide (F_R.out.later hb)
      have G_H := hide (F_H.out.later hb)
      have G_vH := hide (F_vH.out.later hb)
      have BC := hide (below_on BB.out hb)
      have z_w18 : wc.heap.size ≤ w18.heap.size := by have := hb.size; simpa using this
      clear plt p0 p1
      clear qlt q0 q1
      clear F_b1
      have F_b1 := G_b1
      clear G_b1
      clear F_W
      have F_W := G_W
      clear G_W
      clear F_vW
      have F_vW := G_vW
      clear G_vW
      clear F_vG
      have F_vG := G_vG
      clear G_vG
      clear F_R
      have F_R := G_R
      clear G_R
      clear F_H
      have F_H := G_H
      clear G_H
      clear F_vH
      have F_vH := G_vH
      clear G_vH
      clear BB
      have BB := BC
      clear BC
      clear hb
      clear F_H
      clear F_W
      clear F_vH
      clear F_vW
      have plt := F_vG.out.lt
      obtain ⟨p0, p1⟩ := F_vG.out
      (try simp only [Nat.add_zero] at plt)
      go_wp2_with fail
      refine (heldFilesResult F_R.out (by omega) HRB.out).mono ?_
      rintro e w19 ⟨he, hb⟩
      rw [HMe.out] at he
      subst he
      have G_b1 := hide (F_b1.out.later hb)
      have G_vG := hide (F_vG.out.later hb)
      have G_R := hide (F_R.out.later hb)
      have BC := hide (below_on BB.out hb)
      have z_w19 : w18.heap.size ≤ w19.heap.size := by have := hb.size; simpa using this
      clear plt p0 p1
      clear F_b1
      have F_b1 := G_b1
      clear G_b1
      clear F_vG
      have F_vG := G_vG
      clear G_vG
      clear F_R
      have F_R := G_R
      clear G_R
      clear BB
      have BB := BC
      clear BC
      clear hb
      go_wp2
      go_ret
      exact ⟨rfl, BB.out⟩
end Go.Proofs.Ytoffjbpnggdgnaa
