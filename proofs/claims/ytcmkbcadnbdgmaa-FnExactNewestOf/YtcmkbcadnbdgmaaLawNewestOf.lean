/- The law 'FnExactNewestOf' walked, out of what the program's function and the model's leave. Made by program (genlawrr.py). -/
import Derived.Test.YtcmkbcadnbdgmaaIv4
import Derived.Test.YtcmkbcadnbdgmaaHd
import Derived.Test.YtcmkbcadnbdgmaaSpec2d
import Derived.Deep.CutRange
namespace Go.Proofs.Ytcmkbcadnbdgmaa
open Go.RowKit

set_option linter.unusedSimpArgs false in
set_option maxHeartbeats 8000000 in
set_option maxRecDepth 4000 in
theorem lawNewestOf_small {S0 S1 : Nat → Prop} {w : World} (c0 s0 t0 c1 s1 t1 : Int) {y0 y1 : Value} {xs0 xs1 : List Int} (hy0 : RdI S0 w y0 xs0) (hy1 : RdI S1 w y1 xs1) (code rq rt : Int) (rs : List Int) (hres : rs.length ≤ 1048576) (hsz : xs0.length + xs1.length ≤ 1048576)
    (hspec : ∀ (S0 S1 : Nat → Prop) (w : World) (y0 y1 : Value), RdI S0 w y0 xs0 → RdI S1 w y1 xs1 → Calls Try.prog 29 #[.agg #[.int .i64 c0, .int .i64 s0, .int .i64 t0, y0], .agg #[.int .i64 c1, .int .i64 s1, .int .i64 t1, y1]] w (EndsH code rq rt rs w))
    (himpl : ∀ (S0 S1 : Nat → Prop) (w : World) (y0 y1 : Value), RdI S0 w y0 xs0 → RdI S1 w y1 xs1 → Calls Try.prog 31 #[.agg #[.int .i64 c0, .int .i64 s0, .int .i64 t0, y0], .agg #[.int .i64 c1, .int .i64 s1, .int .i64 t1, y1]] w (EndsH code rq rt rs w)) :
    Calls Try.prog 6 #[.agg #[.int .i64 c0, .int .i64 s0, .int .i64 t0, y0], .agg #[.int .i64 c1, .int .i64 s1, .int .i64 t1, y1]] w fun e w' => e = .returned (.bool true) ∧ Below w.heap.size w w' := by
  have HS := hide hspec
  have HI := hide himpl
  clear hspec himpl
  obtain ⟨l0, hl0⟩ : ∃ l, xs0.length = l := ⟨_, rfl⟩
  have HL0 := hide hl0
  obtain ⟨ay0, cy0, rfl⟩ := hy0.shape
  rw [hl0] at hsz hy0 ⊢
  have HY0 := hide hy0
  clear hy0 hl0
  obtain ⟨l1, hl1⟩ : ∃ l, xs1.length = l := ⟨_, rfl⟩
  have HL1 := hide hl1
  obtain ⟨ay1, cy1, rfl⟩ := hy1.shape
  rw [hl1] at hsz hy1 ⊢
  have HY1 := hide hy1
  clear hy1 hl1
  have hm1 : l1 ≤ 1048576 := by omega
  have hm0 : l0 ≤ 1048576 := by omega
  have HZ0 := hide (szv_yes (left := 1048576) (s := (l0 : Int)) (by omega))
  have HZ1 := hide (szv_yes (left := 1048576 - (l0 : Int)) (s := (l1 : Int)) (by omega))
  have hp0 : ¬ ((1048576 : Int) - (l0 : Int) < 0) := by omega
  have hp1 : ¬ ((1048576 : Int) - (l0 : Int) - (l1 : Int) < 0) := by omega
  obtain ⟨lr, hlr⟩ : ∃ l, rs.length = l := ⟨_, rfl⟩
  have HLr := hide hlr
  have HRB := hide (show (1 : Int) + (rs.length : Int) ≤ 9223372036854775807 by omega)
  have hM : 0 ≤ (1 : Int) + (rs.length : Int) := by omega
  obtain ⟨M, hMe⟩ : ∃ M : Int, (1 : Int) + (rs.length : Int) = M := ⟨_, rfl⟩
  rw [hMe] at hM
  have HMe := hide hMe
  clear hMe hres hlr
  have HT0 : Hid (∀ w', Below w.heap.size w w' → Calls Try.prog 30 #[.agg #[.int .i64 c0, .int .i64 s0, .int .i64 t0, .slice ay0 l0 cy0]] w' fun e w2 => ∃ z, e = .returned (.agg #[.int .i64 c0, .int .i64 s0, .int .i64 t0, z]) ∧ Below w'.heap.size w' w2 ∧ OwI w'.heap.size w2 z xs0) := fun w' hb => toHeaderResult c0 s0 t0 (HY0.out.later hb) (by rw [HL0.out]; exact hm0)
  have HT1 : Hid (∀ w', Below w.heap.size w w' → Calls Try.prog 30 #[.agg #[.int .i64 c1, .int .i64 s1, .int .i64 t1, .slice ay1 l1 cy1]] w' fun e w2 => ∃ z, e = .returned (.agg #[.int .i64 c1, .int .i64 s1, .int .i64 t1, z]) ∧ Below w'.heap.size w' w2 ∧ OwI w'.heap.size w2 z xs1) := fun w' hb => toHeaderResult c1 s1 t1 (HY1.out.later hb) (by rw [HL1.out]; exact hm1)
  go_enter Try.func6, Try.ntmps6
  go_wp2_with fail
  refine (szHeaderResult c0 s0 t0 (HY0.out.later (below_on (below_alloc _ _) (below_alloc _ _))) (by omega) (by omega)).mono ?_
  rintro e w1 ⟨he, hb⟩
  rw [HL0.out, HZ0.out] at he
  subst he
  have BB := hide (below_on (below_on (below_alloc w (.cells #[.int .i64 c0, .int .i64 s0, .int .i64 t0, .slice ay0 l0 cy0] 47)) (below_alloc _ (.cells #[.int .i64 c1, .int .i64 s1, .int .i64 t1, .slice ay1 l1 cy1] 47))) hb)
  have F_b0 := hide (((Var4_new w (.int .i64 c0) (.int .i64 s0) (.int .i64 t0) (.slice ay0 l0 cy0) 47).later (below_alloc _ (.cells #[.int .i64 c1, .int .i64 s1, .int .i64 t1, .slice ay1 l1 cy1] 47))).later hb)
  have F_b1 : Hid (Var4 w1 (w.heap.size + 1) (.int .i64 c1) (.int .i64 s1) (.int .i64 t1) (.slice ay1 l1 cy1)) := (by have := (Var4_new (w.alloc (.cells #[.int .i64 c0, .int .i64 s0, .int .i64 t0, .slice ay0 l0 cy0] 47)) (.int .i64 c1) (.int .i64 s1) (.int .i64 t1) (.slice ay1 l1 cy1) 47).later hb; rw [World.size_alloc] at this; exact this)
  have z1 : w.heap.size + 2 ≤ w1.heap.size := by have := hb.size; simpa using this
  clear hb
  have plt := F_b0.out.lt
  obtain ⟨p0, p1, p2, p3⟩ := F_b0.out
  have qlt := F_b1.out.lt
  obtain ⟨q0, q1, q2, q3⟩ := F_b1.out
  go_wp2_with fail
  refine (szHeaderResult c1 s1 t1 (HY1.out.later BB.out) (by omega) (by omega)).mono ?_
  rintro e w2 ⟨he, hb⟩
  rw [HL1.out, HZ1.out] at he
  subst he
  clear plt p0 p1 p2 p3
  clear qlt q0 q1 q2 q3
  have G_b0 := hide (F_b0.out.later hb)
  have G_b1 := hide (F_b1.out.later hb)
  have BC := hide (below_on BB.out hb)
  clear F_b0
  have F_b0 := G_b0
  clear G_b0
  clear F_b1
  have F_b1 := G_b1
  clear G_b1
  clear BB
  have BB := BC
  clear BC
  have z2 : w1.heap.size ≤ w2.heap.size := hb.size
  clear hb
  have plt := F_b0.out.lt
  obtain ⟨p0, p1, p2, p3⟩ := F_b0.out
  have qlt := F_b1.out.lt
  obtain ⟨q0, q1, q2, q3⟩ := F_b1.out
  go_upto_region 8 with fail
  go_cut [6] from 24 to 28 (fun v wx => ∃ (hv : Nat) (ao : Option Addr) (c : Nat), v = .pointer (some ⟨hv, 0, none⟩) ∧ w2.heap.size ≤ hv ∧ hv < wx.heap.size ∧ Hid (Var4 wx hv (.int .i64 code) (.int .i64 rq) (.int .i64 rt) (.slice ao lr c) ∧ IvI w2.heap.size wx.heap.size wx (.slice ao lr c) rs ∧ Below w2.heap.size w2 wx))
  case first =>
    refine wp_region_held_drew (S := fun w' => w'.cell? ⟨w.heap.size, 0, none⟩ = some (.int .i64 c0) ∧ w'.cell? ⟨w.heap.size, 1, none⟩ = some (.int .i64 s0) ∧ w'.cell? ⟨w.heap.size, 2, none⟩ = some (.int .i64 t0) ∧ w'.cell? ⟨w.heap.size, 3, none⟩ = some (.slice ay0 l0 cy0) ∧ w'.cell? ⟨w.heap.size + 1, 0, none⟩ = some (.int .i64 c1) ∧ w'.cell? ⟨w.heap.size + 1, 1, none⟩ = some (.int .i64 s1) ∧ w'.cell? ⟨w.heap.size + 1, 2, none⟩ = some (.int .i64 t1) ∧ w'.cell? ⟨w.heap.size + 1, 3, none⟩ = some (.slice ay1 l1 cy1)) (by kernel_rfl) ⟨p0, p1, p2, p3, q0, q1, q2, q3⟩ (fun hHeld0 => ?_)
    refine forgetH (fun wx => (wx.cell? ⟨w.heap.size, 0, none⟩ = some (.int .i64 c0) ∧ wx.cell? ⟨w.heap.size, 1, none⟩ = some (.int .i64 s0) ∧ wx.cell? ⟨w.heap.size, 2, none⟩ = some (.int .i64 t0) ∧ wx.cell? ⟨w.heap.size, 3, none⟩ = some (.slice ay0 l0 cy0) ∧ wx.cell? ⟨w.heap.size + 1, 0, none⟩ = some (.int .i64 c1) ∧ wx.cell? ⟨w.heap.size + 1, 1, none⟩ = some (.int .i64 s1) ∧ wx.cell? ⟨w.heap.size + 1, 2, none⟩ = some (.int .i64 t1) ∧ wx.cell? ⟨w.heap.size + 1, 3, none⟩ = some (.slice ay1 l1 cy1)) ∧ Below w2.heap.size w2 wx) ⟨hHeld0, below_drewN w2 1⟩ ?_
    clear hHeld0
    rintro v0w ⟨hHeld, hbx⟩
    have HB_0 := hide hbx
    have hz_0 := hbx.size
    clear hbx
    obtain ⟨P0_0, P0_1, P0_2, P0_3, Q0_0, Q0_1, Q0_2, Q0_3⟩ := id hHeld
    refine wpAnyH_take (i := 0) (v := ?v8x0) rfl (by kernel_rfl) (by kernel_rfl) (by kernel_rfl) (fun _ _ _ h => h) (Or.inl ⟨by rfl, ?h8x0⟩) hHeld ?r8x0
    case h8x0 => intro w9 hSw; (try dsimp only at hSw); first | (go_simp; done) | (go_simp; with_reducible rfl)
    try simp only [Act.put, List.setIfInBounds_toArray, List.set_cons_zero, List.set_cons_succ]
    refine wpAnyH_take (i := 2) (v := ?v8x2) rfl (by kernel_rfl) (by kernel_rfl) (by kernel_rfl) (fun _ _ _ h => h) (Or.inl ⟨by rfl, ?h8x2⟩) hHeld ?r8x2
    case h8x2 => intro w9 hSw; (try dsimp only at hSw); first | (go_simp; done) | (go_simp; with_reducible rfl)
    try simp only [Act.put, List.setIfInBounds_toArray, List.set_cons_zero, List.set_cons_succ]
    refine wpAnyH_ready (rs := [1, 5]) (by kernel_rfl) (by simp) (AllReadyH.cons rfl (fun K hK => ?_) (AllReadyH.cons rfl (fun K hK => ?_) (AllReadyH.nil)))
    · skip
      go_simp
      go_at_call 30
      refine (HT0.out _ (below_on BB.out HB_0.out)).mono ?_
      rintro e v1w ⟨zz0, rfl, hb, ho⟩
      obtain ⟨ao_0, c_0, hzz⟩ := ho.shape
      rw [HL0.out] at hzz
      subst hzz
      have P1_0 := cell_later hb P0_0
      have P1_1 := cell_later hb P0_1
      have P1_2 := cell_later hb P0_2
      have P1_3 := cell_later hb P0_3
      have Q1_0 := cell_later hb Q0_0
      have Q1_1 := cell_later hb Q0_1
      have Q1_2 := cell_later hb Q0_2
      have Q1_3 := cell_later hb Q0_3
      have HB_1 := hide (below_on HB_0.out hb)
      have hz_1 : v0w.heap.size ≤ v1w.heap.size := hb.size
      have O_0 := hide ho.iv
      clear hb ho
      refine hK.out _ _ ⟨P1_0, P1_1, P1_2, P1_3, Q1_0, Q1_1, Q1_2, Q1_3⟩ (fun _ => ?_)
      clear hK K
      try simp only [Act.put, List.setIfInBounds_toArray, List.set_cons_zero, List.set_cons_succ]
      refine wpAnyH_ready (rs := [3, 5]) (by kernel_rfl) (by simp) (AllReadyH.cons rfl (fun K hK => ?_) (AllReadyH.cons rfl (fun K hK => ?_) (AllReadyH.nil)))
      · skip
        go_simp
        go_at_call 30
        refine (HT1.out _ (below_on BB.out HB_1.out)).mono ?_
        rintro e v2w ⟨zz1, rfl, hb, ho⟩
        obtain ⟨ao_1, c_1, hzz⟩ := ho.shape
        rw [HL1.out] at hzz
        subst hzz
        have P2_0 := cell_later hb P1_0
        have P2_1 := cell_later hb P1_1
        have P2_2 := cell_later hb P1_2
        have P2_3 := cell_later hb P1_3
        have Q2_0 := cell_later hb Q1_0
        have Q2_1 := cell_later hb Q1_1
        have Q2_2 := cell_later hb Q1_2
        have Q2_3 := cell_later hb Q1_3
        have HB_2 := hide (below_on HB_1.out hb)
        have hz_2 : v1w.heap.size ≤ v2w.heap.size := hb.size
        have O_0n := hide (O_0.out.later hb)
        clear O_0
        have O_0 := O_0n
        clear O_0n
        have O_1 := hide ho.iv
        clear hb ho
        refine hK.out _ _ ⟨P2_0, P2_1, P2_2, P2_3, Q2_0, Q2_1, Q2_2, Q2_3⟩ (fun _ => ?_)
        clear hK K
        try simp only [Act.put, List.setIfInBounds_toArray, List.set_cons_zero, List.set_cons_succ]
        refine wpAnyH_ready (rs := [4, 5]) (by kernel_rfl) (by simp) (AllReadyH.cons rfl (fun K hK => ?_) (AllReadyH.cons rfl (fun K hK => ?_) (AllReadyH.nil)))
        · skip
          go_simp
          go_at_call 29
          refine (HS.out _ _ _ _ _ O_0.out.rd O_1.out.rd).mono ?_
          rintro e v3w ⟨zz2, rfl, hb, ho⟩
          obtain ⟨ao_r, c_r, hzz⟩ := ho.shape
          rw [HLr.out] at hzz
          subst hzz
          have P3_0 := cell_later hb P2_0
          have P3_1 := cell_later hb P2_1
          have P3_2 := cell_later hb P2_2
          have P3_3 := cell_later hb P2_3
          have Q3_0 := cell_later hb Q2_0
          have Q3_1 := cell_later hb Q2_1
          have Q3_2 := cell_later hb Q2_2
          have Q3_3 := cell_later hb Q2_3
          have HB_3 := hide (below_on HB_2.out hb)
          have hz_3 : v2w.heap.size ≤ v3w.heap.size := hb.size
          have O_0n := hide (O_0.out.later hb)
          clear O_0
          have O_0 := O_0n
          clear O_0n
          have O_1n := hide (O_1.out.later hb)
          clear O_1
          have O_1 := O_1n
          clear O_1n
          have O_r : Hid (IvI v2w.heap.size v3w.heap.size v3w (.slice ao_r lr c_r) rs) := ho.iv
          clear hb ho
          refine hK.out _ _ ⟨P3_0, P3_1, P3_2, P3_3, Q3_0, Q3_1, Q3_2, Q3_3⟩ (fun _ => ?_)
          clear hK K
          try simp only [Act.put, List.setIfInBounds_toArray, List.set_cons_zero, List.set_cons_succ]
          refine wpAnyH_ready (rs := [5]) (by kernel_rfl) (by simp) (AllReadyH.cons rfl (fun K hK => ?_) (AllReadyH.nil))
          go_simp
          have hb := below_alloc v3w (.cells #[.int .i64 0, .int .i64 0, .int .i64 0, .slice none 0 0] 38)
          refine hK.out _ _ ⟨cell_later hb P3_0, cell_later hb P3_1, cell_later hb P3_2, cell_later hb P3_3, cell_later hb Q3_0, cell_later hb Q3_1, cell_later hb Q3_2, cell_later hb Q3_3⟩ (fun _ => ?_)
          clear hK K
          try simp only [Act.put, List.setIfInBounds_toArray, List.set_cons_zero, List.set_cons_succ]
          refine forgetH (fun wx => (wx.cell? ⟨w.heap.size, 0, none⟩ = some (.int .i64 c0) ∧ wx.cell? ⟨w.heap.size, 1, none⟩ = some (.int .i64 s0) ∧ wx.cell? ⟨w.heap.size, 2, none⟩ = some (.int .i64 t0) ∧ wx.cell? ⟨w.heap.size, 3, none⟩ = some (.slice ay0 l0 cy0) ∧ wx.cell? ⟨w.heap.size + 1, 0, none⟩ = some (.int .i64 c1) ∧ wx.cell? ⟨w.heap.size + 1, 1, none⟩ = some (.int .i64 s1) ∧ wx.cell? ⟨w.heap.size + 1, 2, none⟩ = some (.int .i64 t1) ∧ wx.cell? ⟨w.heap.size + 1, 3, none⟩ = some (.slice ay1 l1 cy1)) ∧ Below v3w.heap.size v3w wx ∧ Var4 wx v3w.heap.size (.int .i64 0) (.int .i64 0) (.int .i64 0) (.slice none 0 0) ∧ (∀ o, wx.frozen? ⟨v3w.heap.size, o, none⟩ = false) ∧ v3w.heap.size < wx.heap.size) ⟨⟨cell_later hb P3_0, cell_later hb P3_1, cell_later hb P3_2, cell_later hb P3_3, cell_later hb Q3_0, cell_later hb Q3_1, cell_later hb Q3_2, cell_later hb Q3_3⟩, hb, Var4_new _ _ _ _ _ _, fun o => by simp [go_sem], by simp⟩ ?_
          clear hb
          rintro v4w ⟨⟨P4_0, P4_1, P4_2, P4_3, Q4_0, Q4_1, Q4_2, Q4_3⟩, hb, za, zf, hvl⟩
          have HB_4 := hide (below_on HB_3.out hb)
          have hz_4 : v3w.heap.size ≤ v4w.heap.size := hb.size
          have O_0n := hide (O_0.out.later hb)
          clear O_0
          have O_0 := O_0n
          clear O_0n
          have O_1n := hide (O_1.out.later hb)
          clear O_1
          have O_1 := O_1n
          clear O_1n
          have O_rn := hide (O_r.out.later hb)
          clear O_r
          have O_r := O_rn
          clear O_rn
          obtain ⟨hv, hhv⟩ : ∃ hv, v3w.heap.size = hv := ⟨_, rfl⟩
          have ZA := hide za
          have ZF := hide zf
          clear za zf hb
          rw [hhv] at ZA ZF hvl ⊢
          have hv2 : w2.heap.size ≤ hv := by omega
          have hdj : v3w.heap.size ≤ hv ∨ hv < v2w.heap.size := Or.inl (by omega)
          have HHv := hide hhv
          clear hhv
          refine wpAnyH_ready (rs := [6]) (by kernel_rfl) (by simp) (AllReadyH.cons rfl (fun K hK => ?_) (AllReadyH.nil))
          obtain ⟨Z_0, Z_1, Z_2, Z_3⟩ := ZA.out
          have Y_0 := ZF.out 0
          have Y_1 := ZF.out 1
          have Y_2 := ZF.out 2
          have Y_3 := ZF.out 3
          go_simp
          have hn0 : w.heap.size ≠ hv := by omega
          have hn1 : w.heap.size + 1 ≠ hv := by omega
          have hw : Wr (fun y => y = hv) v4w ((((v4w.setCell ⟨hv, 0, none⟩ (.int .i64 code)).setCell ⟨hv, 1, none⟩ (.int .i64 rq)).setCell ⟨hv, 2, none⟩ (.int .i64 rt)).setCell ⟨hv, 3, none⟩ (.slice ao_r lr c_r)) := ((((Wr.refl (fun y => y = hv) _).setCell (p := ⟨hv, 0, none⟩) rfl _).setCell (p := ⟨hv, 1, none⟩) rfl _).setCell (p := ⟨hv, 2, none⟩) rfl _).setCell (p := ⟨hv, 3, none⟩) rfl _
          have HW := hide hw
          clear hw
          refine hK.out _ _ ⟨(set4_other hn0).trans P4_0, (set4_other hn0).trans P4_1, (set4_other hn0).trans P4_2, (set4_other hn0).trans P4_3, (set4_other hn1).trans Q4_0, (set4_other hn1).trans Q4_1, (set4_other hn1).trans Q4_2, (set4_other hn1).trans Q4_3⟩ (fun _ => ?_)
          clear hK K
          try simp only [Act.put, List.setIfInBounds_toArray, List.set_cons_zero, List.set_cons_succ]
          refine wpAnyH_done (by kernel_rfl) ?_ _
          go_wp2_with fail
          go_meet
          case rel =>
            refine ⟨hv, ao_r, c_r, rfl, hv2, by simpa using hvl, ⟨by simp [go_sem, Z_0], by simp [go_sem, Z_1], by simp [go_sem, Z_2], by simp [go_sem, Z_3]⟩, ?_, ?_⟩
            · exact IvI.mono (O_r.out.wr HW.out (fun b h1 h2 => by show ¬ (b = hv); omega)) (by omega) (by first | (simp; done) | (simp; omega))
            · exact HB_4.out.trans (HW.out.below HB_4.out.size (fun b hb => by subst hb; exact hv2))
        · skip
          go_simp
          have hb := below_alloc v2w (.cells #[.int .i64 0, .int .i64 0, .int .i64 0, .slice none 0 0] 38)
          refine hK.out _ _ ⟨cell_later hb P2_0, cell_later hb P2_1, cell_later hb P2_2, cell_later hb P2_3, cell_later hb Q2_0, cell_later hb Q2_1, cell_later hb Q2_2, cell_later hb Q2_3⟩ (fun _ => ?_)
          clear hK K
          try simp only [Act.put, List.setIfInBounds_toArray, List.set_cons_zero, List.set_cons_succ]
          refine forgetH (fun wx => (wx.cell? ⟨w.heap.size, 0, none⟩ = some (.int .i64 c0) ∧ wx.cell? ⟨w.heap.size, 1, none⟩ = some (.int .i64 s0) ∧ wx.cell? ⟨w.heap.size, 2, none⟩ = some (.int .i64 t0) ∧ wx.cell? ⟨w.heap.size, 3, none⟩ = some (.slice ay0 l0 cy0) ∧ wx.cell? ⟨w.heap.size + 1, 0, none⟩ = some (.int .i64 c1) ∧ wx.cell? ⟨w.heap.size + 1, 1, none⟩ = some (.int .i64 s1) ∧ wx.cell? ⟨w.heap.size + 1, 2, none⟩ = some (.int .i64 t1) ∧ wx.cell? ⟨w.heap.size + 1, 3, none⟩ = some (.slice ay1 l1 cy1)) ∧ Below v2w.heap.size v2w wx ∧ Var4 wx v2w.heap.size (.int .i64 0) (.int .i64 0) (.int .i64 0) (.slice none 0 0) ∧ (∀ o, wx.frozen? ⟨v2w.heap.size, o, none⟩ = false) ∧ v2w.heap.size < wx.heap.size) ⟨⟨cell_later hb P2_0, cell_later hb P2_1, cell_later hb P2_2, cell_later hb P2_3, cell_later hb Q2_0, cell_later hb Q2_1, cell_later hb Q2_2, cell_later hb Q2_3⟩, hb, Var4_new _ _ _ _ _ _, fun o => by simp [go_sem], by simp⟩ ?_
          clear hb
          rintro v3w ⟨⟨P3_0, P3_1, P3_2, P3_3, Q3_0, Q3_1, Q3_2, Q3_3⟩, hb, za, zf, hvl⟩
          have HB_3 := hide (below_on HB_2.out hb)
          have hz_3 : v2w.heap.size ≤ v3w.heap.size := hb.size
          have O_0n := hide (O_0.out.later hb)
          clear O_0
          have O_0 := O_0n
          clear O_0n
          have O_1n := hide (O_1.out.later hb)
          clear O_1
          have O_1 := O_1n
          clear O_1n
          obtain ⟨hv, hhv⟩ : ∃ hv, v2w.heap.size = hv := ⟨_, rfl⟩
          have ZA := hide za
          have ZF := hide zf
          clear za zf hb
          rw [hhv] at ZA ZF hvl ⊢
          have hv2 : w2.heap.size ≤ hv := by omega
          have HHv := hide hhv
          clear hhv
          refine wpAnyH_ready (rs := [4]) (by kernel_rfl) (by simp) (AllReadyH.cons rfl (fun K hK => ?_) (AllReadyH.nil))
          go_simp
          go_at_call 29
          refine (HS.out _ _ _ _ _ O_0.out.rd O_1.out.rd).mono ?_
          rintro e v4w ⟨zz3, rfl, hb, ho⟩
          obtain ⟨ao_r, c_r, hzz⟩ := ho.shape
          rw [HLr.out] at hzz
          subst hzz
          have P4_0 := cell_later hb P3_0
          have P4_1 := cell_later hb P3_1
          have P4_2 := cell_later hb P3_2
          have P4_3 := cell_later hb P3_3
          have Q4_0 := cell_later hb Q3_0
          have Q4_1 := cell_later hb Q3_1
          have Q4_2 := cell_later hb Q3_2
          have Q4_3 := cell_later hb Q3_3
          have HB_4 := hide (below_on HB_3.out hb)
          have hz_4 : v3w.heap.size ≤ v4w.heap.size := hb.size
          have O_0n := hide (O_0.out.later hb)
          clear O_0
          have O_0 := O_0n
          clear O_0n
          have O_1n := hide (O_1.out.later hb)
          clear O_1
          have O_1 := O_1n
          clear O_1n
          have O_r : Hid (IvI v3w.heap.size v4w.heap.size v4w (.slice ao_r lr c_r) rs) := ho.iv
          have ZAn := hide (ZA.out.later hb)
          clear ZA
          have ZA := ZAn
          clear ZAn
          have ZFn : Hid (∀ o, v4w.frozen? ⟨hv, o, none⟩ = false) := fun o => ((bcell hb).2 _ _ hvl).trans (ZF.out o)
          clear ZF
          have ZF := ZFn
          clear ZFn
          have hdj : v4w.heap.size ≤ hv ∨ hv < v3w.heap.size := Or.inr hvl
          have hvl2 : hv < v4w.heap.size := by omega
          clear hvl
          have hvl := hvl2
          clear hvl2
          clear hb ho
          refine hK.out _ _ ⟨P4_0, P4_1, P4_2, P4_3, Q4_0, Q4_1, Q4_2, Q4_3⟩ (fun _ => ?_)
          clear hK K
          try simp only [Act.put, List.setIfInBounds_toArray, List.set_cons_zero, List.set_cons_succ]
          refine wpAnyH_ready (rs := [6]) (by kernel_rfl) (by simp) (AllReadyH.cons rfl (fun K hK => ?_) (AllReadyH.nil))
          obtain ⟨Z_0, Z_1, Z_2, Z_3⟩ := ZA.out
          have Y_0 := ZF.out 0
          have Y_1 := ZF.out 1
          have Y_2 := ZF.out 2
          have Y_3 := ZF.out 3
          go_simp
          have hn0 : w.heap.size ≠ hv := by omega
          have hn1 : w.heap.size + 1 ≠ hv := by omega
          have hw : Wr (fun y => y = hv) v4w ((((v4w.setCell ⟨hv, 0, none⟩ (.int .i64 code)).setCell ⟨hv, 1, none⟩ (.int .i64 rq)).setCell ⟨hv, 2, none⟩ (.int .i64 rt)).setCell ⟨hv, 3, none⟩ (.slice ao_r lr c_r)) := ((((Wr.refl (fun y => y = hv) _).setCell (p := ⟨hv, 0, none⟩) rfl _).setCell (p := ⟨hv, 1, none⟩) rfl _).setCell (p := ⟨hv, 2, none⟩) rfl _).setCell (p := ⟨hv, 3, none⟩) rfl _
          have HW := hide hw
          clear hw
          refine hK.out _ _ ⟨(set4_other hn0).trans P4_0, (set4_other hn0).trans P4_1, (set4_other hn0).trans P4_2, (set4_other hn0).trans P4_3, (set4_other hn1).trans Q4_0, (set4_other hn1).trans Q4_1, (set4_other hn1).trans Q4_2, (set4_other hn1).trans Q4_3⟩ (fun _ => ?_)
          clear hK K
          try simp only [Act.put, List.setIfInBounds_toArray, List.set_cons_zero, List.set_cons_succ]
          refine wpAnyH_done (by kernel_rfl) ?_ _
          go_wp2_with fail
          go_meet
          case rel =>
            refine ⟨hv, ao_r, c_r, rfl, hv2, by simpa using hvl, ⟨by simp [go_sem, Z_0], by simp [go_sem, Z_1], by simp [go_sem, Z_2], by simp [go_sem, Z_3]⟩, ?_, ?_⟩
            · exact IvI.mono (O_r.out.wr HW.out (fun b h1 h2 => by show ¬ (b = hv); omega)) (by omega) (by first | (simp; done) | (simp; omega))
            · exact HB_4.out.trans (HW.out.below HB_4.out.size (fun b hb => by subst hb; exact hv2))
      · skip
        go_simp
        have hb := below_alloc v1w (.cells #[.int .i64 0, .int .i64 0, .int .i64 0, .slice none 0 0] 38)
        refine hK.out _ _ ⟨cell_later hb P1_0, cell_later hb P1_1, cell_later hb P1_2, cell_later hb P1_3, cell_later hb Q1_0, cell_later hb Q1_1, cell_later hb Q1_2, cell_later hb Q1_3⟩ (fun _ => ?_)
        clear hK K
        try simp only [Act.put, List.setIfInBounds_toArray, List.set_cons_zero, List.set_cons_succ]
        refine forgetH (fun wx => (wx.cell? ⟨w.heap.size, 0, none⟩ = some (.int .i64 c0) ∧ wx.cell? ⟨w.heap.size, 1, none⟩ = some (.int .i64 s0) ∧ wx.cell? ⟨w.heap.size, 2, none⟩ = some (.int .i64 t0) ∧ wx.cell? ⟨w.heap.size, 3, none⟩ = some (.slice ay0 l0 cy0) ∧ wx.cell? ⟨w.heap.size + 1, 0, none⟩ = some (.int .i64 c1) ∧ wx.cell? ⟨w.heap.size + 1, 1, none⟩ = some (.int .i64 s1) ∧ wx.cell? ⟨w.heap.size + 1, 2, none⟩ = some (.int .i64 t1) ∧ wx.cell? ⟨w.heap.size + 1, 3, none⟩ = some (.slice ay1 l1 cy1)) ∧ Below v1w.heap.size v1w wx ∧ Var4 wx v1w.heap.size (.int .i64 0) (.int .i64 0) (.int .i64 0) (.slice none 0 0) ∧ (∀ o, wx.frozen? ⟨v1w.heap.size, o, none⟩ = false) ∧ v1w.heap.size < wx.heap.size) ⟨⟨cell_later hb P1_0, cell_later hb P1_1, cell_later hb P1_2, cell_later hb P1_3, cell_later hb Q1_0, cell_later hb Q1_1, cell_later hb Q1_2, cell_later hb Q1_3⟩, hb, Var4_new _ _ _ _ _ _, fun o => by simp [go_sem], by simp⟩ ?_
        clear hb
        rintro v2w ⟨⟨P2_0, P2_1, P2_2, P2_3, Q2_0, Q2_1, Q2_2, Q2_3⟩, hb, za, zf, hvl⟩
        have HB_2 := hide (below_on HB_1.out hb)
        have hz_2 : v1w.heap.size ≤ v2w.heap.size := hb.size
        have O_0n := hide (O_0.out.later hb)
        clear O_0
        have O_0 := O_0n
        clear O_0n
        obtain ⟨hv, hhv⟩ : ∃ hv, v1w.heap.size = hv := ⟨_, rfl⟩
        have ZA := hide za
        have ZF := hide zf
        clear za zf hb
        rw [hhv] at ZA ZF hvl ⊢
        have hv2 : w2.heap.size ≤ hv := by omega
        have HHv := hide hhv
        clear hhv
        refine wpAnyH_ready (rs := [3]) (by kernel_rfl) (by simp) (AllReadyH.cons rfl (fun K hK => ?_) (AllReadyH.nil))
        go_simp
        go_at_call 30
        refine (HT1.out _ (below_on BB.out HB_2.out)).mono ?_
        rintro e v3w ⟨zz2, rfl, hb, ho⟩
        obtain ⟨ao_1, c_1, hzz⟩ := ho.shape
        rw [HL1.out] at hzz
        subst hzz
        have P3_0 := cell_later hb P2_0
        have P3_1 := cell_later hb P2_1
        have P3_2 := cell_later hb P2_2
        have P3_3 := cell_later hb P2_3
        have Q3_0 := cell_later hb Q2_0
        have Q3_1 := cell_later hb Q2_1
        have Q3_2 := cell_later hb Q2_2
        have Q3_3 := cell_later hb Q2_3
        have HB_3 := hide (below_on HB_2.out hb)
        have hz_3 : v2w.heap.size ≤ v3w.heap.size := hb.size
        have O_0n := hide (O_0.out.later hb)
        clear O_0
        have O_0 := O_0n
        clear O_0n
        have O_1 := hide ho.iv
        have ZAn := hide (ZA.out.later hb)
        clear ZA
        have ZA := ZAn
        clear ZAn
        have ZFn : Hid (∀ o, v3w.frozen? ⟨hv, o, none⟩ = false) := fun o => ((bcell hb).2 _ _ hvl).trans (ZF.out o)
        clear ZF
        have ZF := ZFn
        clear ZFn
        have hvl2 : hv < v3w.heap.size := by omega
        clear hvl
        have hvl := hvl2
        clear hvl2
        clear hb ho
        refine hK.out _ _ ⟨P3_0, P3_1, P3_2, P3_3, Q3_0, Q3_1, Q3_2, Q3_3⟩ (fun _ => ?_)
        clear hK K
        try simp only [Act.put, List.setIfInBounds_toArray, List.set_cons_zero, List.set_cons_succ]
        refine wpAnyH_ready (rs := [4]) (by kernel_rfl) (by simp) (AllReadyH.cons rfl (fun K hK => ?_) (AllReadyH.nil))
        go_simp
        go_at_call 29
        refine (HS.out _ _ _ _ _ O_0.out.rd O_1.out.rd).mono ?_
        rintro e v4w ⟨zz3, rfl, hb, ho⟩
        obtain ⟨ao_r, c_r, hzz⟩ := ho.shape
        rw [HLr.out] at hzz
        subst hzz
        have P4_0 := cell_later hb P3_0
        have P4_1 := cell_later hb P3_1
        have P4_2 := cell_later hb P3_2
        have P4_3 := cell_later hb P3_3
        have Q4_0 := cell_later hb Q3_0
        have Q4_1 := cell_later hb Q3_1
        have Q4_2 := cell_later hb Q3_2
        have Q4_3 := cell_later hb Q3_3
        have HB_4 := hide (below_on HB_3.out hb)
        have hz_4 : v3w.heap.size ≤ v4w.heap.size := hb.size
        have O_0n := hide (O_0.out.later hb)
        clear O_0
        have O_0 := O_0n
        clear O_0n
        have O_1n := hide (O_1.out.later hb)
        clear O_1
        have O_1 := O_1n
        clear O_1n
        have O_r : Hid (IvI v3w.heap.size v4w.heap.size v4w (.slice ao_r lr c_r) rs) := ho.iv
        have ZAn := hide (ZA.out.later hb)
        clear ZA
        have ZA := ZAn
        clear ZAn
        have ZFn : Hid (∀ o, v4w.frozen? ⟨hv, o, none⟩ = false) := fun o => ((bcell hb).2 _ _ hvl).trans (ZF.out o)
        clear ZF
        have ZF := ZFn
        clear ZFn
        have hdj : v4w.heap.size ≤ hv ∨ hv < v3w.heap.size := Or.inr hvl
        have hvl2 : hv < v4w.heap.size := by omega
        clear hvl
        have hvl := hvl2
        clear hvl2
        clear hb ho
        refine hK.out _ _ ⟨P4_0, P4_1, P4_2, P4_3, Q4_0, Q4_1, Q4_2, Q4_3⟩ (fun _ => ?_)
        clear hK K
        try simp only [Act.put, List.setIfInBounds_toArray, List.set_cons_zero, List.set_cons_succ]
        refine wpAnyH_ready (rs := [6]) (by kernel_rfl) (by simp) (AllReadyH.cons rfl (fun K hK => ?_) (AllReadyH.nil))
        obtain ⟨Z_0, Z_1, Z_2, Z_3⟩ := ZA.out
        have Y_0 := ZF.out 0
        have Y_1 := ZF.out 1
        have Y_2 := ZF.out 2
        have Y_3 := ZF.out 3
        go_simp
        have hn0 : w.heap.size ≠ hv := by omega
        have hn1 : w.heap.size + 1 ≠ hv := by omega
        have hw : Wr (fun y => y = hv) v4w ((((v4w.setCell ⟨hv, 0, none⟩ (.int .i64 code)).setCell ⟨hv, 1, none⟩ (.int .i64 rq)).setCell ⟨hv, 2, none⟩ (.int .i64 rt)).setCell ⟨hv, 3, none⟩ (.slice ao_r lr c_r)) := ((((Wr.refl (fun y => y = hv) _).setCell (p := ⟨hv, 0, none⟩) rfl _).setCell (p := ⟨hv, 1, none⟩) rfl _).setCell (p := ⟨hv, 2, none⟩) rfl _).setCell (p := ⟨hv, 3, none⟩) rfl _
        have HW := hide hw
        clear hw
        refine hK.out _ _ ⟨(set4_other hn0).trans P4_0, (set4_other hn0).trans P4_1, (set4_other hn0).trans P4_2, (set4_other hn0).trans P4_3, (set4_other hn1).trans Q4_0, (set4_other hn1).trans Q4_1, (set4_other hn1).trans Q4_2, (set4_other hn1).trans Q4_3⟩ (fun _ => ?_)
        clear hK K
        try simp only [Act.put, List.setIfInBounds_toArray, List.set_cons_zero, List.set_cons_succ]
        refine wpAnyH_done (by kernel_rfl) ?_ _
        go_wp2_with fail
        go_meet
        case rel =>
          refine ⟨hv, ao_r, c_r, rfl, hv2, by simpa using hvl, ⟨by simp [go_sem, Z_0], by simp [go_sem, Z_1], by simp [go_sem, Z_2], by simp [go_sem, Z_3]⟩, ?_, ?_⟩
          · exact IvI.mono (O_r.out.wr HW.out (fun b h1 h2 => by show ¬ (b = hv); omega)) (by omega) (by first | (simp; done) | (simp; omega))
          · exact HB_4.out.trans (HW.out.below HB_4.out.size (fun b hb => by subst hb; exact hv2))
    · skip
      go_simp
      have hb := below_alloc v0w (.cells #[.int .i64 0, .int .i64 0, .int .i64 0, .slice none 0 0] 38)
      refine hK.out _ _ ⟨cell_later hb P0_0, cell_later hb P0_1, cell_later hb P0_2, cell_later hb P0_3, cell_later hb Q0_0, cell_later hb Q0_1, cell_later hb Q0_2, cell_later hb Q0_3⟩ (fun _ => ?_)
      clear hK K
      try simp only [Act.put, List.setIfInBounds_toArray, List.set_cons_zero, List.set_cons_succ]
      refine forgetH (fun wx => (wx.cell? ⟨w.heap.size, 0, none⟩ = some (.int .i64 c0) ∧ wx.cell? ⟨w.heap.size, 1, none⟩ = some (.int .i64 s0) ∧ wx.cell? ⟨w.heap.size, 2, none⟩ = some (.int .i64 t0) ∧ wx.cell? ⟨w.heap.size, 3, none⟩ = some (.slice ay0 l0 cy0) ∧ wx.cell? ⟨w.heap.size + 1, 0, none⟩ = some (.int .i64 c1) ∧ wx.cell? ⟨w.heap.size + 1, 1, none⟩ = some (.int .i64 s1) ∧ wx.cell? ⟨w.heap.size + 1, 2, none⟩ = some (.int .i64 t1) ∧ wx.cell? ⟨w.heap.size + 1, 3, none⟩ = some (.slice ay1 l1 cy1)) ∧ Below v0w.heap.size v0w wx ∧ Var4 wx v0w.heap.size (.int .i64 0) (.int .i64 0) (.int .i64 0) (.slice none 0 0) ∧ (∀ o, wx.frozen? ⟨v0w.heap.size, o, none⟩ = false) ∧ v0w.heap.size < wx.heap.size) ⟨⟨cell_later hb P0_0, cell_later hb P0_1, cell_later hb P0_2, cell_later hb P0_3, cell_later hb Q0_0, cell_later hb Q0_1, cell_later hb Q0_2, cell_later hb Q0_3⟩, hb, Var4_new _ _ _ _ _ _, fun o => by simp [go_sem], by simp⟩ ?_
      clear hb
      rintro v1w ⟨⟨P1_0, P1_1, P1_2, P1_3, Q1_0, Q1_1, Q1_2, Q1_3⟩, hb, za, zf, hvl⟩
      have HB_1 := hide (below_on HB_0.out hb)
      have hz_1 : v0w.heap.size ≤ v1w.heap.size := hb.size
      obtain ⟨hv, hhv⟩ : ∃ hv, v0w.heap.size = hv := ⟨_, rfl⟩
      have ZA := hide za
      have ZF := hide zf
      clear za zf hb
      rw [hhv] at ZA ZF hvl ⊢
      have hv2 : w2.heap.size ≤ hv := by omega
      have HHv := hide hhv
      clear hhv
      refine wpAnyH_ready (rs := [1]) (by kernel_rfl) (by simp) (AllReadyH.cons rfl (fun K hK => ?_) (AllReadyH.nil))
      go_simp
      go_at_call 30
      refine (HT0.out _ (below_on BB.out HB_1.out)).mono ?_
      rintro e v2w ⟨zz1, rfl, hb, ho⟩
      obtain ⟨ao_0, c_0, hzz⟩ := ho.shape
      rw [HL0.out] at hzz
      subst hzz
      have P2_0 := cell_later hb P1_0
      have P2_1 := cell_later hb P1_1
      have P2_2 := cell_later hb P1_2
      have P2_3 := cell_later hb P1_3
      have Q2_0 := cell_later hb Q1_0
      have Q2_1 := cell_later hb Q1_1
      have Q2_2 := cell_later hb Q1_2
      have Q2_3 := cell_later hb Q1_3
      have HB_2 := hide (below_on HB_1.out hb)
      have hz_2 : v1w.heap.size ≤ v2w.heap.size := hb.size
      have O_0 := hide ho.iv
      have ZAn := hide (ZA.out.later hb)
      clear ZA
      have ZA := ZAn
      clear ZAn
      have ZFn : Hid (∀ o, v2w.frozen? ⟨hv, o, none⟩ = false) := fun o => ((bcell hb).2 _ _ hvl).trans (ZF.out o)
      clear ZF
      have ZF := ZFn
      clear ZFn
      have hvl2 : hv < v2w.heap.size := by omega
      clear hvl
      have hvl := hvl2
      clear hvl2
      clear hb ho
      refine hK.out _ _ ⟨P2_0, P2_1, P2_2, P2_3, Q2_0, Q2_1, Q2_2, Q2_3⟩ (fun _ => ?_)
      clear hK K
      try simp only [Act.put, List.setIfInBounds_toArray, List.set_cons_zero, List.set_cons_succ]
      refine wpAnyH_ready (rs := [3]) (by kernel_rfl) (by simp) (AllReadyH.cons rfl (fun K hK => ?_) (AllReadyH.nil))
      go_simp
      go_at_call 30
      refine (HT1.out _ (below_on BB.out HB_2.out)).mono ?_
      rintro e v3w ⟨zz2, rfl, hb, ho⟩
      obtain ⟨ao_1, c_1, hzz⟩ := ho.shape
      rw [HL1.out] at hzz
      subst hzz
      have P3_0 := cell_later hb P2_0
      have P3_1 := cell_later hb P2_1
      have P3_2 := cell_later hb P2_2
      have P3_3 := cell_later hb P2_3
      have Q3_0 := cell_later hb Q2_0
      have Q3_1 := cell_later hb Q2_1
      have Q3_2 := cell_later hb Q2_2
      have Q3_3 := cell_later hb Q2_3
      have HB_3 := hide (below_on HB_2.out hb)
      have hz_3 : v2w.heap.size ≤ v3w.heap.size := hb.size
      have O_0n := hide (O_0.out.later hb)
      clear O_0
      have O_0 := O_0n
      clear O_0n
      have O_1 := hide ho.iv
      have ZAn := hide (ZA.out.later hb)
      clear ZA
      have ZA := ZAn
      clear ZAn
      have ZFn : Hid (∀ o, v3w.frozen? ⟨hv, o, none⟩ = false) := fun o => ((bcell hb).2 _ _ hvl).trans (ZF.out o)
      clear ZF
      have ZF := ZFn
      clear ZFn
      have hvl2 : hv < v3w.heap.size := by omega
      clear hvl
      have hvl := hvl2
      clear hvl2
      clear hb ho
      refine hK.out _ _ ⟨P3_0, P3_1, P3_2, P3_3, Q3_0, Q3_1, Q3_2, Q3_3⟩ (fun _ => ?_)
      clear hK K
      try simp only [Act.put, List.setIfInBounds_toArray, List.set_cons_zero, List.set_cons_succ]
      refine wpAnyH_ready (rs := [4]) (by kernel_rfl) (by simp) (AllReadyH.cons rfl (fun K hK => ?_) (AllReadyH.nil))
      go_simp
      go_at_call 29
      refine (HS.out _ _ _ _ _ O_0.out.rd O_1.out.rd).mono ?_
      rintro e v4w ⟨zz3, rfl, hb, ho⟩
      obtain ⟨ao_r, c_r, hzz⟩ := ho.shape
      rw [HLr.out] at hzz
      subst hzz
      have P4_0 := cell_later hb P3_0
      have P4_1 := cell_later hb P3_1
      have P4_2 := cell_later hb P3_2
      have P4_3 := cell_later hb P3_3
      have Q4_0 := cell_later hb Q3_0
      have Q4_1 := cell_later hb Q3_1
      have Q4_2 := cell_later hb Q3_2
      have Q4_3 := cell_later hb Q3_3
      have HB_4 := hide (below_on HB_3.out hb)
      have hz_4 : v3w.heap.size ≤ v4w.heap.size := hb.size
      have O_0n := hide (O_0.out.later hb)
      clear O_0
      have O_0 := O_0n
      clear O_0n
      have O_1n := hide (O_1.out.later hb)
      clear O_1
      have O_1 := O_1n
      clear O_1n
      have O_r : Hid (IvI v3w.heap.size v4w.heap.size v4w (.slice ao_r lr c_r) rs) := ho.iv
      have ZAn := hide (ZA.out.later hb)
      clear ZA
      have ZA := ZAn
      clear ZAn
      have ZFn : Hid (∀ o, v4w.frozen? ⟨hv, o, none⟩ = false) := fun o => ((bcell hb).2 _ _ hvl).trans (ZF.out o)
      clear ZF
      have ZF := ZFn
      clear ZFn
      have hdj : v4w.heap.size ≤ hv ∨ hv < v3w.heap.size := Or.inr hvl
      have hvl2 : hv < v4w.heap.size := by omega
      clear hvl
      have hvl := hvl2
      clear hvl2
      clear hb ho
      refine hK.out _ _ ⟨P4_0, P4_1, P4_2, P4_3, Q4_0, Q4_1, Q4_2, Q4_3⟩ (fun _ => ?_)
      clear hK K
      try simp only [Act.put, List.setIfInBounds_toArray, List.set_cons_zero, List.set_cons_succ]
      refine wpAnyH_ready (rs := [6]) (by kernel_rfl) (by simp) (AllReadyH.cons rfl (fun K hK => ?_) (AllReadyH.nil))
      obtain ⟨Z_0, Z_1, Z_2, Z_3⟩ := ZA.out
      have Y_0 := ZF.out 0
      have Y_1 := ZF.out 1
      have Y_2 := ZF.out 2
      have Y_3 := ZF.out 3
      go_simp
      have hn0 : w.heap.size ≠ hv := by omega
      have hn1 : w.heap.size + 1 ≠ hv := by omega
      have hw : Wr (fun y => y = hv) v4w ((((v4w.setCell ⟨hv, 0, none⟩ (.int .i64 code)).setCell ⟨hv, 1, none⟩ (.int .i64 rq)).setCell ⟨hv, 2, none⟩ (.int .i64 rt)).setCell ⟨hv, 3, none⟩ (.slice ao_r lr c_r)) := ((((Wr.refl (fun y => y = hv) _).setCell (p := ⟨hv, 0, none⟩) rfl _).setCell (p := ⟨hv, 1, none⟩) rfl _).setCell (p := ⟨hv, 2, none⟩) rfl _).setCell (p := ⟨hv, 3, none⟩) rfl _
      have HW := hide hw
      clear hw
      refine hK.out _ _ ⟨(set4_other hn0).trans P4_0, (set4_other hn0).trans P4_1, (set4_other hn0).trans P4_2, (set4_other hn0).trans P4_3, (set4_other hn1).trans Q4_0, (set4_other hn1).trans Q4_1, (set4_other hn1).trans Q4_2, (set4_other hn1).trans Q4_3⟩ (fun _ => ?_)
      clear hK K
      try simp only [Act.put, List.setIfInBounds_toArray, List.set_cons_zero, List.set_cons_succ]
      refine wpAnyH_done (by kernel_rfl) ?_ _
      go_wp2_with fail
      go_meet
      case rel =>
        refine ⟨hv, ao_r, c_r, rfl, hv2, by simpa using hvl, ⟨by simp [go_sem, Z_0], by simp [go_sem, Z_1], by simp [go_sem, Z_2], by simp [go_sem, Z_3]⟩, ?_, ?_⟩
        · exact IvI.mono (O_r.out.wr HW.out (fun b h1 h2 => by show ¬ (b = hv); omega)) (by omega) (by first | (simp; done) | (simp; omega))
        · exact HB_4.out.trans (HW.out.below HB_4.out.size (fun b hb => by subst hb; exact hv2))
  case rest =>
    obtain ⟨hvW, aoW, cW, rfl, hgW, hlW, HW⟩ := hcut
    obtain ⟨hV, hI, hb⟩ := HW.out
    clear HW
    clear plt p0 p1 p2 p3
    clear qlt q0 q1 q2 q3
    have N_W := hide hI
    have N_vW := hide hV
    have zW : w2.heap.size ≤ wc.heap.size := hb.size
    have G_b0 := hide (F_b0.out.later hb)
    have G_b1 := hide (F_b1.out.later hb)
    have BC := hide (below_on BB.out hb)
    clear F_b0
    have F_b0 := G_b0
    clear G_b0
    clear F_b1
    have F_b1 := G_b1
    clear G_b1
    clear BB
    have BB := BC
    clear BC
    clear hb hI hV
    have F_W := N_W
    clear N_W
    have F_vW := N_vW
    clear N_vW
    have plt := F_b0.out.lt
    obtain ⟨p0, p1, p2, p3⟩ := F_b0.out
    have qlt := F_b1.out.lt
    obtain ⟨q0, q1, q2, q3⟩ := F_b1.out
    go_wp2_with fail
    refine (HT0.out _ BB.out).mono ?_
    rintro e wx0 ⟨zx, rfl, hb, ho⟩
    obtain ⟨ax0, cx0, hzx⟩ := ho.shape
    rw [HL0.out] at hzx
    subst hzx
    have G_b0 := hide (F_b0.out.later hb)
    have G_b1 := hide (F_b1.out.later hb)
    have G_W := hide (F_W.out.later hb)
    have G_vW := hide (F_vW.out.later hb)
    have BC := hide (below_on BB.out hb)
    have zwx0 : wc.heap.size ≤ wx0.heap.size := by have := hb.size; simpa using this
    have N_x0 := hide (ho.iv)
    clear plt p0 p1 p2 p3
    clear qlt q0 q1 q2 q3
    clear F_b0
    have F_b0 := G_b0
    clear G_b0
    clear F_b1
    have F_b1 := G_b1
    clear G_b1
    clear F_W
    have F_W := G_W
    clear G_W
    clear F_vW
    have F_vW := G_vW
    clear G_vW
    clear BB
    have BB := BC
    clear BC
    have F_x0 := N_x0
    clear N_x0
    clear hb
    clear ho
    have plt := F_b0.out.lt
    obtain ⟨p0, p1, p2, p3⟩ := F_b0.out
    have qlt := F_b1.out.lt
    obtain ⟨q0, q1, q2, q3⟩ := F_b1.out
    go_wp2_with fail
    refine (HT1.out _ (below_on BB.out (below_alloc _ (.cells #[.int .i64 c0, .int .i64 s0, .int .i64 t0, .slice ax0 l0 cx0] 38)))).mono ?_
    rintro e wx1 ⟨zx, rfl, hb, ho⟩
    obtain ⟨ax1, cx1, hzx⟩ := ho.shape
    rw [HL1.out] at hzx
    subst hzx
    have hbp := below_alloc wx0 (.cells #[.int .i64 c0, .int .i64 s0, .int .i64 t0, .slice ax0 l0 cx0] 38)
    have G_b0 := hide (F_b0.out.later (below_on hbp hb))
    have G_b1 := hide (F_b1.out.later (below_on hbp hb))
    have G_W := hide (F_W.out.later (below_on hbp hb))
    have G_vW := hide (F_vW.out.later (below_on hbp hb))
    have G_x0 := hide (F_x0.out.later (below_on hbp hb))
    have BC := hide (below_on BB.out (below_on hbp hb))
    have zwx1 : wx0.heap.size + 1 ≤ wx1.heap.size := by have := hb.size; simpa using this
    have N_x1 := hide (ho.iv)
    have N_v0 := hide ((Var4_new wx0 (.int .i64 c0) (.int .i64 s0) (.int .i64 t0) (.slice ax0 l0 cx0) 38).later hb)
    clear plt p0 p1 p2 p3
    clear qlt q0 q1 q2 q3
    clear F_b0
    have F_b0 := G_b0
    clear G_b0
    clear F_b1
    have F_b1 := G_b1
    clear G_b1
    clear F_W
    have F_W := G_W
    clear G_W
    clear F_vW
    have F_vW := G_vW
    clear G_vW
    clear F_x0
    have F_x0 := G_x0
    clear G_x0
    clear BB
    have BB := BC
    clear BC
    have F_x1 := N_x1
    clear N_x1
    have F_v0 := N_v0
    clear N_v0
    clear hb hbp
    clear ho
    have plt := F_v0.out.lt
    obtain ⟨p0, p1, p2, p3⟩ := F_v0.out
    go_wp2_with fail
    refine (HI.out _ _ _ _ _ (F_x0.out.later (below_alloc _ _)).rd (F_x1.out.later (below_alloc _ _)).rd).mono ?_
    rintro e wg ⟨zg, rfl, hb, ho⟩
    obtain ⟨aoG, cG, hzg⟩ := ho.shape
    rw [HLr.out] at hzg
    subst hzg
    have hbp := below_alloc wx1 (.cells #[.int .i64 c1, .int .i64 s1, .int .i64 t1, .slice ax1 l1 cx1] 38)
    have G_b0 := hide (F_b0.out.later (below_on hbp hb))
    have G_b1 := hide (F_b1.out.later (below_on hbp hb))
    have G_W := hide (F_W.out.later (below_on hbp hb))
    have G_vW := hide (F_vW.out.later (below_on hbp hb))
    have G_x0 := hide (F_x0.out.later (below_on hbp hb))
    have G_x1 := hide (F_x1.out.later (below_on hbp hb))
    have G_v0 := hide (F_v0.out.later (below_on hbp hb))
    have BC := hide (below_on BB.out (below_on hbp hb))
    have zwg : wx1.heap.size + 1 ≤ wg.heap.size := by have := hb.size; simpa using this
    have N_G := hide (ho.iv)
    have N_v1 := hide ((Var4_new wx1 (.int .i64 c1) (.int .i64 s1) (.int .i64 t1) (.slice ax1 l1 cx1) 38).later hb)
    clear plt p0 p1 p2 p3
    clear F_b0
    have F_b0 := G_b0
    clear G_b0
    clear F_b1
    have F_b1 := G_b1
    clear G_b1
    clear F_W
    have F_W := G_W
    clear G_W
    clear F_vW
    have F_vW := G_vW
    clear G_vW
    clear F_x0
    have F_x0 := G_x0
    clear G_x0
    clear F_x1
    have F_x1 := G_x1
    clear G_x1
    clear F_v0
    have F_v0 := G_v0
    clear G_v0
    clear BB
    have BB := BC
    clear BC
    have F_G := N_G
    clear N_G
    have F_v1 := N_v1
    clear N_v1
    clear hb hbp
    clear ho
    have qlt := F_vW.out.lt
    obtain ⟨q0, q1, q2, q3⟩ := F_vW.out
    go_wp2_with fail
    refine (eqHeaderResult code rq rt (F_G.out.later (below_alloc _ _)).rd (F_W.out.later (below_alloc _ _)).rd).mono ?_
    rintro e we ⟨rfl, hb⟩
    have hbp := below_alloc wg (.cells #[.int .i64 code, .int .i64 rq, .int .i64 rt, .slice aoG lr cG] 38)
    have G_b0 := hide (F_b0.out.later (below_on hbp hb))
    have G_b1 := hide (F_b1.out.later (below_on hbp hb))
    have G_W := hide (F_W.out.later (below_on hbp hb))
    have G_vW := hide (F_vW.out.later (below_on hbp hb))
    have G_x0 := hide (F_x0.out.later (below_on hbp hb))
    have G_x1 := hide (F_x1.out.later (below_on hbp hb))
    have G_v0 := hide (F_v0.out.later (below_on hbp hb))
    have G_G := hide (F_G.out.later (below_on hbp hb))
    have G_v1 := hide (F_v1.out.later (below_on hbp hb))
    have BC := hide (below_on BB.out (below_on hbp hb))
    have zwe : wg.heap.size + 1 ≤ we.heap.size := by have := hb.size; simpa using this
    have N_vG := hide ((Var4_new wg (.int .i64 code) (.int .i64 rq) (.int .i64 rt) (.slice aoG lr cG) 38).later hb)
    clear qlt q0 q1 q2 q3
    clear F_b0
    have F_b0 := G_b0
    clear G_b0
    clear F_b1
    have F_b1 := G_b1
    clear G_b1
    clear F_W
    have F_W := G_W
    clear G_W
    clear F_vW
    have F_vW := G_vW
    clear G_vW
    clear F_x0
    have F_x0 := G_x0
    clear G_x0
    clear F_x1
    have F_x1 := G_x1
    clear G_x1
    clear F_v0
    have F_v0 := G_v0
    clear G_v0
    clear F_G
    have F_G := G_G
    clear G_G
    clear F_v1
    have F_v1 := G_v1
    clear G_v1
    clear BB
    have BB := BC
    clear BC
    have F_vG := N_vG
    clear N_vG
    clear hb hbp
    have plt := F_b0.out.lt
    obtain ⟨p0, p1, p2, p3⟩ := F_b0.out
    have qlt := F_v0.out.lt
    obtain ⟨q0, q1, q2, q3⟩ := F_v0.out
    go_wp2_with fail
    go_region_held3 (fun w' => w'.cell? ⟨w.heap.size, 0, none⟩ = some (.int .i64 c0) ∧ w'.cell? ⟨w.heap.size, 1, none⟩ = some (.int .i64 s0) ∧ w'.cell? ⟨w.heap.size, 2, none⟩ = some (.int .i64 t0) ∧ w'.cell? ⟨w.heap.size, 3, none⟩ = some (.slice ay0 l0 cy0) ∧ w'.cell? ⟨wx0.heap.size, 0, none⟩ = some (.int .i64 c0) ∧ w'.cell? ⟨wx0.heap.size, 1, none⟩ = some (.int .i64 s0) ∧ w'.cell? ⟨wx0.heap.size, 2, none⟩ = some (.int .i64 t0) ∧ w'.cell? ⟨wx0.heap.size, 3, none⟩ = some (.slice ax0 l0 cx0)) (first | exact ⟨p0, p1, p2, p3, q0, q1, q2, q3⟩ | exact ⟨e0, e1, e2, e3, e4, e5, e6, e7⟩ | exact ⟨i0, i1, i2, i3, i4, i5, i6, i7⟩)
      (first | (go_at_call 30; refine (HT0.out _ (below_on BB.out (below_drewN _ 1))).mono ?_; rintro e wt0 ⟨z6, rfl, hb6, ho6⟩; have e0 := cell_later hb6 p0; have e1 := cell_later hb6 p1; have e2 := cell_later hb6 p2; have e3 := cell_later hb6 p3; have e4 := cell_later hb6 q0; have e5 := cell_later hb6 q1; have e6 := cell_later hb6 q2; have e7 := cell_later hb6 q3; have HO6 := hide ho6.iv; have HB6 := hide (below_on (below_drewN we 1) hb6); clear hb6 ho6) | (go_at_call 23; refine (eqHeaderResult c0 s0 t0 (F_x0.out.later HB6.out).rd HO6.out.rd).mono ?_; rintro e wu0 ⟨rfl, hb7⟩; have i0 := cell_later hb7 e0; have i1 := cell_later hb7 e1; have i2 := cell_later hb7 e2; have i3 := cell_later hb7 e3; have i4 := cell_later hb7 e4; have i5 := cell_later hb7 e5; have i6 := cell_later hb7 e6; have i7 := cell_later hb7 e7; have HB7 := hide (below_on HB6.out hb7); clear hb7))
    have hb := HB7.out
    clear plt p0 p1 p2 p3
    clear qlt q0 q1 q2 q3
    have G_b0 := hide (F_b0.out.later hb)
    have G_b1 := hide (F_b1.out.later hb)
    have G_W := hide (F_W.out.later hb)
    have G_vW := hide (F_vW.out.later hb)
    have G_x0 := hide (F_x0.out.later hb)
    have G_x1 := hide (F_x1.out.later hb)
    have G_v0 := hide (F_v0.out.later hb)
    have G_G := hide (F_G.out.later hb)
    have G_v1 := hide (F_v1.out.later hb)
    have G_vG := hide (F_vG.out.later hb)
    have BC := hide (below_on BB.out hb)
    clear F_b0
    have F_b0 := G_b0
    clear G_b0
    clear F_b1
    have F_b1 := G_b1
    clear G_b1
    clear F_W
    have F_W := G_W
    clear G_W
    clear F_vW
    have F_vW := G_vW
    clear G_vW
    clear F_x0
    have F_x0 := G_x0
    clear G_x0
    clear F_x1
    have F_x1 := G_x1
    clear G_x1
    clear F_v0
    have F_v0 := G_v0
    clear G_v0
    clear F_G
    have F_G := G_G
    clear G_G
    clear F_v1
    have F_v1 := G_v1
    clear G_v1
    clear F_vG
    have F_vG := G_vG
    clear G_vG
    clear BB
    have BB := BC
    clear BC
    have zu0 : we.heap.size ≤ wu0.heap.size := hb.size
    clear hb HB6 HB7 HO6 e0 i0 e1 i1 e2 i2 e3 i3 e4 i4 e5 i5 e6 i6 e7 i7
    have plt := F_b1.out.lt
    obtain ⟨p0, p1, p2, p3⟩ := F_b1.out
    have qlt := F_v1.out.lt
    obtain ⟨q0, q1, q2, q3⟩ := F_v1.out
    go_wp2_with fail
    go_region_held3 (fun w' => w'.cell? ⟨w.heap.size + 1, 0, none⟩ = some (.int .i64 c1) ∧ w'.cell? ⟨w.heap.size + 1, 1, none⟩ = some (.int .i64 s1) ∧ w'.cell? ⟨w.heap.size + 1, 2, none⟩ = some (.int .i64 t1) ∧ w'.cell? ⟨w.heap.size + 1, 3, none⟩ = some (.slice ay1 l1 cy1) ∧ w'.cell? ⟨wx1.heap.size, 0, none⟩ = some (.int .i64 c1) ∧ w'.cell? ⟨wx1.heap.size, 1, none⟩ = some (.int .i64 s1) ∧ w'.cell? ⟨wx1.heap.size, 2, none⟩ = some (.int .i64 t1) ∧ w'.cell? ⟨wx1.heap.size, 3, none⟩ = some (.slice ax1 l1 cx1)) (first | exact ⟨p0, p1, p2, p3, q0, q1, q2, q3⟩ | exact ⟨e0, e1, e2, e3, e4, e5, e6, e7⟩ | exact ⟨i0, i1, i2, i3, i4, i5, i6, i7⟩)
      (first | (go_at_call 30; refine (HT1.out _ (below_on BB.out (below_drewN _ 1))).mono ?_; rintro e wt1 ⟨z6, rfl, hb6, ho6⟩; have e0 := cell_later hb6 p0; have e1 := cell_later hb6 p1; have e2 := cell_later hb6 p2; have e3 := cell_later hb6 p3; have e4 := cell_later hb6 q0; have e5 := cell_later hb6 q1; have e6 := cell_later hb6 q2; have e7 := cell_later hb6 q3; have HO6 := hide ho6.iv; have HB6 := hide (below_on (below_drewN wu0 1) hb6); clear hb6 ho6) | (go_at_call 23; refine (eqHeaderResult c1 s1 t1 (F_x1.out.later HB6.out).rd HO6.out.rd).mono ?_; rintro e wu1 ⟨rfl, hb7⟩; have i0 := cell_later hb7 e0; have i1 := cell_later hb7 e1; have i2 := cell_later hb7 e2; have i3 := cell_later hb7 e3; have i4 := cell_later hb7 e4; have i5 := cell_later hb7 e5; have i6 := cell_later hb7 e6; have i7 := cell_later hb7 e7; have HB7 := hide (below_on HB6.out hb7); clear hb7))
    have hb := HB7.out
    clear plt p0 p1 p2 p3
    clear qlt q0 q1 q2 q3
    have G_b0 := hide (F_b0.out.later hb)
    have G_b1 := hide (F_b1.out.later hb)
    have G_W := hide (F_W.out.later hb)
    have G_vW := hide (F_vW.out.later hb)
    have G_x0 := hide (F_x0.out.later hb)
    have G_x1 := hide (F_x1.out.later hb)
    have G_v0 := hide (F_v0.out.later hb)
    have G_G := hide (F_G.out.later hb)
    have G_v1 := hide (F_v1.out.later hb)
    have G_vG := hide (F_vG.out.later hb)
    have BC := hide (below_on BB.out hb)
    clear F_b0
    have F_b0 := G_b0
    clear G_b0
    clear F_b1
    have F_b1 := G_b1
    clear G_b1
    clear F_W
    have F_W := G_W
    clear G_W
    clear F_vW
    have F_vW := G_vW
    clear G_vW
    clear F_x0
    have F_x0 := G_x0
    clear G_x0
    clear F_x1
    have F_x1 := G_x1
    clear G_x1
    clear F_v0
    have F_v0 := G_v0
    clear G_v0
    clear F_G
    have F_G := G_G
    clear G_G
    clear F_v1
    have F_v1 := G_v1
    clear G_v1
    clear F_vG
    have F_vG := G_vG
    clear G_vG
    clear BB
    have BB := BC
    clear BC
    have zu1 : wu0.heap.size ≤ wu1.heap.size := hb.size
    clear hb HB6 HB7 HO6 e0 i0 e1 i1 e2 i2 e3 i3 e4 i4 e5 i5 e6 i6 e7 i7
    have hK0 : (0 : Int) ≤ 1 := by omega
    have plt := F_v0.out.lt
    obtain ⟨p0, p1, p2, p3⟩ := F_v0.out
    go_wp2_with fail
    refine (markHeaderResult c0 s0 t0 F_x0.out (by omega) (by rw [HL0.out]; omega)).mono ?_
    rintro e wk0 ⟨he, _, hw⟩
    obtain ⟨K0, hK⟩ : ∃ K : Int, 1 + (xs0.length : Int) = K := ⟨_, rfl⟩
    rw [hK] at he
    subst he
    rw [HL0.out] at hK
    have hK1 : 0 ≤ K0 := by omega
    have hKb0 : K0 ≤ 8388608 := by omega
    clear hK
    clear plt p0 p1 p2 p3
    clear F_x0
    clear F_v0
    have zk0 : wu1.heap.size ≤ wk0.heap.size := hw.size
    have G_b0 := hide (F_b0.out.wr hw (by have := F_b0.out.lt; simp <;> omega))
    have G_b1 := hide (F_b1.out.wr hw (by have := F_b1.out.lt; simp <;> omega))
    have G_W := hide (F_W.out.wr hw (by intro b; simp <;> omega))
    have G_vW := hide (F_vW.out.wr hw (by have := F_vW.out.lt; simp <;> omega))
    have G_x1 := hide (F_x1.out.wr hw (by intro b; simp <;> omega))
    have G_G := hide (F_G.out.wr hw (by intro b; simp <;> omega))
    have G_v1 := hide (F_v1.out.wr hw (by have := F_v1.out.lt; simp <;> omega))
    have G_vG := hide (F_vG.out.wr hw (by have := F_vG.out.lt; simp <;> omega))
    have BC := hide (BB.out.trans (hw.below (by omega) (by intro b hb; (try simp at hb); omega)))
    clear F_b0
    have F_b0 := G_b0
    clear G_b0
    clear F_b1
    have F_b1 := G_b1
    clear G_b1
    clear F_W
    have F_W := G_W
    clear G_W
    clear F_vW
    have F_vW := G_vW
    clear G_vW
    clear F_x1
    have F_x1 := G_x1
    clear G_x1
    clear F_G
    have F_G := G_G
    clear G_G
    clear F_v1
    have F_v1 := G_v1
    clear G_v1
    clear F_vG
    have F_vG := G_vG
    clear G_vG
    clear BB
    have BB := BC
    clear BC
    clear hw
    have plt := F_v1.out.lt
    obtain ⟨p0, p1, p2, p3⟩ := F_v1.out
    go_wp2_with fail
    refine (markHeaderResult c1 s1 t1 F_x1.out (by omega) (by rw [HL1.out]; omega)).mono ?_
    rintro e wk1 ⟨he, _, hw⟩
    obtain ⟨K1, hK⟩ : ∃ K : Int, K0 + (xs1.length : Int) = K := ⟨_, rfl⟩
    rw [hK] at he
    subst he
    rw [HL1.out] at hK
    have hK2 : 0 ≤ K1 := by omega
    have hKb1 : K1 ≤ 16777216 := by omega
    clear hK
    clear plt p0 p1 p2 p3
    clear F_x1
    clear F_v1
    have zk1 : wk0.heap.size ≤ wk1.heap.size := hw.size
    have G_b0 := hide (F_b0.out.wr hw (by have := F_b0.out.lt; simp <;> omega))
    have G_b1 := hide (F_b1.out.wr hw (by have := F_b1.out.lt; simp <;> omega))
    have G_W := hide (F_W.out.wr hw (by intro b; simp <;> omega))
    have G_vW := hide (F_vW.out.wr hw (by have := F_vW.out.lt; simp <;> omega))
    have G_G := hide (F_G.out.wr hw (by intro b; simp <;> omega))
    have G_vG := hide (F_vG.out.wr hw (by have := F_vG.out.lt; simp <;> omega))
    have BC := hide (BB.out.trans (hw.below (by omega) (by intro b hb; (try simp at hb); omega)))
    clear F_b0
    have F_b0 := G_b0
    clear G_b0
    clear F_b1
    have F_b1 := G_b1
    clear G_b1
    clear F_W
    have F_W := G_W
    clear G_W
    clear F_vW
    have F_vW := G_vW
    clear G_vW
    clear F_G
    have F_G := G_G
    clear G_G
    clear F_vG
    have F_vG := G_vG
    clear G_vG
    clear BB
    have BB := BC
    clear BC
    clear hw
    have plt := F_vG.out.lt
    obtain ⟨p0, p1, p2, p3⟩ := F_vG.out
    have qlt := F_vW.out.lt
    obtain ⟨q0, q1, q2, q3⟩ := F_vW.out
    go_wp2_with fail
    refine (eqHeaderResult code rq rt F_G.out.rd F_W.out.rd).mono ?_
    rintro e we2 ⟨rfl, hb⟩
    have G_b0 := hide (F_b0.out.later hb)
    have G_b1 := hide (F_b1.out.later hb)
    have G_W := hide (F_W.out.later hb)
    have G_vW := hide (F_vW.out.later hb)
    have G_G := hide (F_G.out.later hb)
    have G_vG := hide (F_vG.out.later hb)
    have BC := hide (below_on BB.out hb)
    have zwe2 : wk1.heap.size ≤ we2.heap.size := by have := hb.size; simpa using this
    clear plt p0 p1 p2 p3
    clear qlt q0 q1 q2 q3
    clear F_b0
    have F_b0 := G_b0
    clear G_b0
    clear F_b1
    have F_b1 := G_b1
    clear G_b1
    clear F_W
    have F_W := G_W
    clear G_W
    clear F_vW
    have F_vW := G_vW
    clear G_vW
    clear F_G
    have F_G := G_G
    clear G_G
    clear F_vG
    have F_vG := G_vG
    clear G_vG
    clear BB
    have BB := BC
    clear BC
    clear hb
    have plt := F_vG.out.lt
    obtain ⟨p0, p1, p2, p3⟩ := F_vG.out
    go_wp2_with fail
    refine (markHeaderResult code rq rt F_G.out (by omega) HRB.out).mono ?_
    rintro e wm ⟨he, hr, hw⟩
    rw [HMe.out] at he
    subst he
    have N_R := hide hr
    clear plt p0 p1 p2 p3
    clear F_G
    have zm : we2.heap.size ≤ wm.heap.size := hw.size
    clear hr
    have G_b0 := hide (F_b0.out.wr hw (by have := F_b0.out.lt; simp <;> omega))
    have G_b1 := hide (F_b1.out.wr hw (by have := F_b1.out.lt; simp <;> omega))
    have G_W := hide (F_W.out.wr hw (by intro b; simp <;> omega))
    have G_vW := hide (F_vW.out.wr hw (by have := F_vW.out.lt; simp <;> omega))
    have G_vG := hide (F_vG.out.wr hw (by have := F_vG.out.lt; simp <;> omega))
    have BC := hide (BB.out.trans (hw.below (by omega) (by intro b hb; (try simp at hb); omega)))
    clear F_b0
    have F_b0 := G_b0
    clear G_b0
    clear F_b1
    have F_b1 := G_b1
    clear G_b1
    clear F_W
    have F_W := G_W
    clear G_W
    clear F_vW
    have F_vW := G_vW
    clear G_vW
    clear F_vG
    have F_vG := G_vG
    clear G_vG
    clear BB
    have BB := BC
    clear BC
    clear hw
    have F_R := N_R
    clear N_R
    have plt := F_vG.out.lt
    obtain ⟨p0, p1, p2, p3⟩ := F_vG.out
    go_wp2_with fail
    refine (heldHeaderResult code rq rt F_R.out (by omega) HRB.out).mono ?_
    rintro e wh ⟨he, hb⟩
    rw [HMe.out] at he
    subst he
    have G_b0 := hide (F_b0.out.later hb)
    have G_b1 := hide (F_b1.out.later hb)
    have G_W := hide (F_W.out.later hb)
    have G_vW := hide (F_vW.out.later hb)
    have G_vG := hide (F_vG.out.later hb)
    have G_R := hide (F_R.out.later hb)
    have BC := hide (below_on BB.out hb)
    have zwh : wm.heap.size ≤ wh.heap.size := by have := hb.size; simpa using this
    clear plt p0 p1 p2 p3
    clear F_b0
    have F_b0 := G_b0
    clear G_b0
    clear F_b1
    have F_b1 := G_b1
    clear G_b1
    clear F_W
    have F_W := G_W
    clear G_W
    clear F_vW
    have F_vW := G_vW
    clear G_vW
    clear F_vG
    have F_vG := G_vG
    clear G_vG
    clear F_R
    have F_R := G_R
    clear G_R
    clear BB
    have BB := BC
    clear BC
    clear hb
    have plt := F_b0.out.lt
    obtain ⟨p0, p1, p2, p3⟩ := F_b0.out
    have qlt := F_b1.out.lt
    obtain ⟨q0, q1, q2, q3⟩ := F_b1.out
    go_upto_region 31 with fail
    go_cut [13] from 75 to 79 (fun v wx => ∃ (hv : Nat) (ao : Option Addr) (c : Nat), v = .pointer (some ⟨hv, 0, none⟩) ∧ wh.heap.size ≤ hv ∧ hv < wx.heap.size ∧ Hid (Var4 wx hv (.int .i64 code) (.int .i64 rq) (.int .i64 rt) (.slice ao lr c) ∧ IvI wh.heap.size wx.heap.size wx (.slice ao lr c) rs ∧ Below wh.heap.size wh wx))
    case first =>
      refine wp_region_held_drew (S := fun w' => w'.cell? ⟨w.heap.size, 0, none⟩ = some (.int .i64 c0) ∧ w'.cell? ⟨w.heap.size, 1, none⟩ = some (.int .i64 s0) ∧ w'.cell? ⟨w.heap.size, 2, none⟩ = some (.int .i64 t0) ∧ w'.cell? ⟨w.heap.size, 3, none⟩ = some (.slice ay0 l0 cy0) ∧ w'.cell? ⟨w.heap.size + 1, 0, none⟩ = some (.int .i64 c1) ∧ w'.cell? ⟨w.heap.size + 1, 1, none⟩ = some (.int .i64 s1) ∧ w'.cell? ⟨w.heap.size + 1, 2, none⟩ = some (.int .i64 t1) ∧ w'.cell? ⟨w.heap.size + 1, 3, none⟩ = some (.slice ay1 l1 cy1)) (by kernel_rfl) ⟨p0, p1, p2, p3, q0, q1, q2, q3⟩ (fun hHeld0 => ?_)
      refine forgetH (fun wx => (wx.cell? ⟨w.heap.size, 0, none⟩ = some (.int .i64 c0) ∧ wx.cell? ⟨w.heap.size, 1, none⟩ = some (.int .i64 s0) ∧ wx.cell? ⟨w.heap.size, 2, none⟩ = some (.int .i64 t0) ∧ wx.cell? ⟨w.heap.size, 3, none⟩ = some (.slice ay0 l0 cy0) ∧ wx.cell? ⟨w.heap.size + 1, 0, none⟩ = some (.int .i64 c1) ∧ wx.cell? ⟨w.heap.size + 1, 1, none⟩ = some (.int .i64 s1) ∧ wx.cell? ⟨w.heap.size + 1, 2, none⟩ = some (.int .i64 t1) ∧ wx.cell? ⟨w.heap.size + 1, 3, none⟩ = some (.slice ay1 l1 cy1)) ∧ Below wh.heap.size wh wx) ⟨hHeld0, below_drewN wh 1⟩ ?_
      clear hHeld0
      rintro v0w ⟨hHeld, hbx⟩
      have HB_0 := hide hbx
      have hz_0 := hbx.size
      clear hbx
      obtain ⟨P0_0, P0_1, P0_2, P0_3, Q0_0, Q0_1, Q0_2, Q0_3⟩ := id hHeld
      refine wpAnyH_take (i := 0) (v := ?v31x0) rfl (by kernel_rfl) (by kernel_rfl) (by kernel_rfl) (fun _ _ _ h => h) (Or.inl ⟨by rfl, ?h31x0⟩) hHeld ?r31x0
      case h31x0 => intro w9 hSw; (try dsimp only at hSw); first | (go_simp; done) | (go_simp; with_reducible rfl)
      try simp only [Act.put, List.setIfInBounds_toArray, List.set_cons_zero, List.set_cons_succ]
      refine wpAnyH_take (i := 2) (v := ?v31x2) rfl (by kernel_rfl) (by kernel_rfl) (by kernel_rfl) (fun _ _ _ h => h) (Or.inl ⟨by rfl, ?h31x2⟩) hHeld ?r31x2
      case h31x2 => intro w9 hSw; (try dsimp only at hSw); first | (go_simp; done) | (go_simp; with_reducible rfl)
      try simp only [Act.put, List.setIfInBounds_toArray, List.set_cons_zero, List.set_cons_succ]
      refine wpAnyH_ready (rs := [1, 5]) (by kernel_rfl) (by simp) (AllReadyH.cons rfl (fun K hK => ?_) (AllReadyH.cons rfl (fun K hK => ?_) (AllReadyH.nil)))
      · skip
        go_simp
        go_at_call 30
        refine (HT0.out _ (below_on BB.out HB_0.out)).mono ?_
        rintro e v1w ⟨zz0, rfl, hb, ho⟩
        obtain ⟨ao_0, c_0, hzz⟩ := ho.shape
        rw [HL0.out] at hzz
        subst hzz
        have P1_0 := cell_later hb P0_0
        have P1_1 := cell_later hb P0_1
        have P1_2 := cell_later hb P0_2
        have P1_3 := cell_later hb P0_3
        have Q1_0 := cell_later hb Q0_0
        have Q1_1 := cell_later hb Q0_1
        have Q1_2 := cell_later hb Q0_2
        have Q1_3 := cell_later hb Q0_3
        have HB_1 := hide (below_on HB_0.out hb)
        have hz_1 : v0w.heap.size ≤ v1w.heap.size := hb.size
        have O_0 := hide ho.iv
        clear hb ho
        refine hK.out _ _ ⟨P1_0, P1_1, P1_2, P1_3, Q1_0, Q1_1, Q1_2, Q1_3⟩ (fun _ => ?_)
        clear hK K
        try simp only [Act.put, List.setIfInBounds_toArray, List.set_cons_zero, List.set_cons_succ]
        refine wpAnyH_ready (rs := [3, 5]) (by kernel_rfl) (by simp) (AllReadyH.cons rfl (fun K hK => ?_) (AllReadyH.cons rfl (fun K hK => ?_) (AllReadyH.nil)))
        · skip
          go_simp
          go_at_call 30
          refine (HT1.out _ (below_on BB.out HB_1.out)).mono ?_
          rintro e v2w ⟨zz1, rfl, hb, ho⟩
          obtain ⟨ao_1, c_1, hzz⟩ := ho.shape
          rw [HL1.out] at hzz
          subst hzz
          have P2_0 := cell_later hb P1_0
          have P2_1 := cell_later hb P1_1
          have P2_2 := cell_later hb P1_2
          have P2_3 := cell_later hb P1_3
          have Q2_0 := cell_later hb Q1_0
          have Q2_1 := cell_later hb Q1_1
          have Q2_2 := cell_later hb Q1_2
          have Q2_3 := cell_later hb Q1_3
          have HB_2 := hide (below_on HB_1.out hb)
          have hz_2 : v1w.heap.size ≤ v2w.heap.size := hb.size
          have O_0n := hide (O_0.out.later hb)
          clear O_0
          have O_0 := O_0n
          clear O_0n
          have O_1 := hide ho.iv
          clear hb ho
          refine hK.out _ _ ⟨P2_0, P2_1, P2_2, P2_3, Q2_0, Q2_1, Q2_2, Q2_3⟩ (fun _ => ?_)
          clear hK K
          try simp only [Act.put, List.setIfInBounds_toArray, List.set_cons_zero, List.set_cons_succ]
          refine wpAnyH_ready (rs := [4, 5]) (by kernel_rfl) (by simp) (AllReadyH.cons rfl (fun K hK => ?_) (AllReadyH.cons rfl (fun K hK => ?_) (AllReadyH.nil)))
          · skip
            go_simp
            go_at_call 31
            refine (HI.out _ _ _ _ _ O_0.out.rd O_1.out.rd).mono ?_
            rintro e v3w ⟨zz2, rfl, hb, ho⟩
            obtain ⟨ao_r, c_r, hzz⟩ := ho.shape
            rw [HLr.out] at hzz
            subst hzz
            have P3_0 := cell_later hb P2_0
            have P3_1 := cell_later hb P2_1
            have P3_2 := cell_later hb P2_2
            have P3_3 := cell_later hb P2_3
            have Q3_0 := cell_later hb Q2_0
            have Q3_1 := cell_later hb Q2_1
            have Q3_2 := cell_later hb Q2_2
            have Q3_3 := cell_later hb Q2_3
            have HB_3 := hide (below_on HB_2.out hb)
            have hz_3 : v2w.heap.size ≤ v3w.heap.size := hb.size
            have O_0n := hide (O_0.out.later hb)
            clear O_0
            have O_0 := O_0n
            clear O_0n
            have O_1n := hide (O_1.out.later hb)
            clear O_1
            have O_1 := O_1n
            clear O_1n
            have O_r : Hid (IvI v2w.heap.size v3w.heap.size v3w (.slice ao_r lr c_r) rs) := ho.iv
            clear hb ho
            refine hK.out _ _ ⟨P3_0, P3_1, P3_2, P3_3, Q3_0, Q3_1, Q3_2, Q3_3⟩ (fun _ => ?_)
            clear hK K
            try simp only [Act.put, List.setIfInBounds_toArray, List.set_cons_zero, List.set_cons_succ]
            refine wpAnyH_ready (rs := [5]) (by kernel_rfl) (by simp) (AllReadyH.cons rfl (fun K hK => ?_) (AllReadyH.nil))
            go_simp
            have hb := below_alloc v3w (.cells #[.int .i64 0, .int .i64 0, .int .i64 0, .slice none 0 0] 38)
            refine hK.out _ _ ⟨cell_later hb P3_0, cell_later hb P3_1, cell_later hb P3_2, cell_later hb P3_3, cell_later hb Q3_0, cell_later hb Q3_1, cell_later hb Q3_2, cell_later hb Q3_3⟩ (fun _ => ?_)
            clear hK K
            try simp only [Act.put, List.setIfInBounds_toArray, List.set_cons_zero, List.set_cons_succ]
            refine forgetH (fun wx => (wx.cell? ⟨w.heap.size, 0, none⟩ = some (.int .i64 c0) ∧ wx.cell? ⟨w.heap.size, 1, none⟩ = some (.int .i64 s0) ∧ wx.cell? ⟨w.heap.size, 2, none⟩ = some (.int .i64 t0) ∧ wx.cell? ⟨w.heap.size, 3, none⟩ = some (.slice ay0 l0 cy0) ∧ wx.cell? ⟨w.heap.size + 1, 0, none⟩ = some (.int .i64 c1) ∧ wx.cell? ⟨w.heap.size + 1, 1, none⟩ = some (.int .i64 s1) ∧ wx.cell? ⟨w.heap.size + 1, 2, none⟩ = some (.int .i64 t1) ∧ wx.cell? ⟨w.heap.size + 1, 3, none⟩ = some (.slice ay1 l1 cy1)) ∧ Below v3w.heap.size v3w wx ∧ Var4 wx v3w.heap.size (.int .i64 0) (.int .i64 0) (.int .i64 0) (.slice none 0 0) ∧ (∀ o, wx.frozen? ⟨v3w.heap.size, o, none⟩ = false) ∧ v3w.heap.size < wx.heap.size) ⟨⟨cell_later hb P3_0, cell_later hb P3_1, cell_later hb P3_2, cell_later hb P3_3, cell_later hb Q3_0, cell_later hb Q3_1, cell_later hb Q3_2, cell_later hb Q3_3⟩, hb, Var4_new _ _ _ _ _ _, fun o => by simp [go_sem], by simp⟩ ?_
            clear hb
            rintro v4w ⟨⟨P4_0, P4_1, P4_2, P4_3, Q4_0, Q4_1, Q4_2, Q4_3⟩, hb, za, zf, hvl⟩
            have HB_4 := hide (below_on HB_3.out hb)
            have hz_4 : v3w.heap.size ≤ v4w.heap.size := hb.size
            have O_0n := hide (O_0.out.later hb)
            clear O_0
            have O_0 := O_0n
            clear O_0n
            have O_1n := hide (O_1.out.later hb)
            clear O_1
            have O_1 := O_1n
            clear O_1n
            have O_rn := hide (O_r.out.later hb)
            clear O_r
            have O_r := O_rn
            clear O_rn
            obtain ⟨hv, hhv⟩ : ∃ hv, v3w.heap.size = hv := ⟨_, rfl⟩
            have ZA := hide za
            have ZF := hide zf
            clear za zf hb
            rw [hhv] at ZA ZF hvl ⊢
            have hv2 : wh.heap.size ≤ hv := by omega
            have hdj : v3w.heap.size ≤ hv ∨ hv < v2w.heap.size := Or.inl (by omega)
            have HHv := hide hhv
            clear hhv
            refine wpAnyH_ready (rs := [6]) (by kernel_rfl) (by simp) (AllReadyH.cons rfl (fun K hK => ?_) (AllReadyH.nil))
            obtain ⟨Z_0, Z_1, Z_2, Z_3⟩ := ZA.out
            have Y_0 := ZF.out 0
            have Y_1 := ZF.out 1
            have Y_2 := ZF.out 2
            have Y_3 := ZF.out 3
            go_simp
            have hn0 : w.heap.size ≠ hv := by omega
            have hn1 : w.heap.size + 1 ≠ hv := by omega
            have hw : Wr (fun y => y = hv) v4w ((((v4w.setCell ⟨hv, 0, none⟩ (.int .i64 code)).setCell ⟨hv, 1, none⟩ (.int .i64 rq)).setCell ⟨hv, 2, none⟩ (.int .i64 rt)).setCell ⟨hv, 3, none⟩ (.slice ao_r lr c_r)) := ((((Wr.refl (fun y => y = hv) _).setCell (p := ⟨hv, 0, none⟩) rfl _).setCell (p := ⟨hv, 1, none⟩) rfl _).setCell (p := ⟨hv, 2, none⟩) rfl _).setCell (p := ⟨hv, 3, none⟩) rfl _
            have HW := hide hw
            clear hw
            refine hK.out _ _ ⟨(set4_other hn0).trans P4_0, (set4_other hn0).trans P4_1, (set4_other hn0).trans P4_2, (set4_other hn0).trans P4_3, (set4_other hn1).trans Q4_0, (set4_other hn1).trans Q4_1, (set4_other hn1).trans Q4_2, (set4_other hn1).trans Q4_3⟩ (fun _ => ?_)
            clear hK K
            try simp only [Act.put, List.setIfInBounds_toArray, List.set_cons_zero, List.set_cons_succ]
            refine wpAnyH_done (by kernel_rfl) ?_ _
            go_wp2_with fail
            go_meet
            case rel =>
              refine ⟨hv, ao_r, c_r, rfl, hv2, by simpa using hvl, ⟨by simp [go_sem, Z_0], by simp [go_sem, Z_1], by simp [go_sem, Z_2], by simp [go_sem, Z_3]⟩, ?_, ?_⟩
              · exact IvI.mono (O_r.out.wr HW.out (fun b h1 h2 => by show ¬ (b = hv); omega)) (by omega) (by first | (simp; done) | (simp; omega))
              · exact HB_4.out.trans (HW.out.below HB_4.out.size (fun b hb => by subst hb; exact hv2))
          · skip
            go_simp
            have hb := below_alloc v2w (.cells #[.int .i64 0, .int .i64 0, .int .i64 0, .slice none 0 0] 38)
            refine hK.out _ _ ⟨cell_later hb P2_0, cell_later hb P2_1, cell_later hb P2_2, cell_later hb P2_3, cell_later hb Q2_0, cell_later hb Q2_1, cell_later hb Q2_2, cell_later hb Q2_3⟩ (fun _ => ?_)
            clear hK K
            try simp only [Act.put, List.setIfInBounds_toArray, List.set_cons_zero, List.set_cons_succ]
            refine forgetH (fun wx => (wx.cell? ⟨w.heap.size, 0, none⟩ = some (.int .i64 c0) ∧ wx.cell? ⟨w.heap.size, 1, none⟩ = some (.int .i64 s0) ∧ wx.cell? ⟨w.heap.size, 2, none⟩ = some (.int .i64 t0) ∧ wx.cell? ⟨w.heap.size, 3, none⟩ = some (.slice ay0 l0 cy0) ∧ wx.cell? ⟨w.heap.size + 1, 0, none⟩ = some (.int .i64 c1) ∧ wx.cell? ⟨w.heap.size + 1, 1, none⟩ = some (.int .i64 s1) ∧ wx.cell? ⟨w.heap.size + 1, 2, none⟩ = some (.int .i64 t1) ∧ wx.cell? ⟨w.heap.size + 1, 3, none⟩ = some (.slice ay1 l1 cy1)) ∧ Below v2w.heap.size v2w wx ∧ Var4 wx v2w.heap.size (.int .i64 0) (.int .i64 0) (.int .i64 0) (.slice none 0 0) ∧ (∀ o, wx.frozen? ⟨v2w.heap.size, o, none⟩ = false) ∧ v2w.heap.size < wx.heap.size) ⟨⟨cell_later hb P2_0, cell_later hb P2_1, cell_later hb P2_2, cell_later hb P2_3, cell_later hb Q2_0, cell_later hb Q2_1, cell_later hb Q2_2, cell_later hb Q2_3⟩, hb, Var4_new _ _ _ _ _ _, fun o => by simp [go_sem], by simp⟩ ?_
            clear hb
            rintro v3w ⟨⟨P3_0, P3_1, P3_2, P3_3, Q3_0, Q3_1, Q3_2, Q3_3⟩, hb, za, zf, hvl⟩
            have HB_3 := hide (below_on HB_2.out hb)
            have hz_3 : v2w.heap.size ≤ v3w.heap.size := hb.size
            have O_0n := hide (O_0.out.later hb)
            clear O_0
            have O_0 := O_0n
            clear O_0n
            have O_1n := hide (O_1.out.later hb)
            clear O_1
            have O_1 := O_1n
            clear O_1n
            obtain ⟨hv, hhv⟩ : ∃ hv, v2w.heap.size = hv := ⟨_, rfl⟩
            have ZA := hide za
            have ZF := hide zf
            clear za zf hb
            rw [hhv] at ZA ZF hvl ⊢
            have hv2 : wh.heap.size ≤ hv := by omega
            have HHv := hide hhv
            clear hhv
            refine wpAnyH_ready (rs := [4]) (by kernel_rfl) (by simp) (AllReadyH.cons rfl (fun K hK => ?_) (AllReadyH.nil))
            go_simp
            go_at_call 31
            refine (HI.out _ _ _ _ _ O_0.out.rd O_1.out.rd).mono ?_
            rintro e v4w ⟨zz3, rfl, hb, ho⟩
            obtain ⟨ao_r, c_r, hzz⟩ := ho.shape
            rw [HLr.out] at hzz
            subst hzz
            have P4_0 := cell_later hb P3_0
            have P4_1 := cell_later hb P3_1
            have P4_2 := cell_later hb P3_2
            have P4_3 := cell_later hb P3_3
            have Q4_0 := cell_later hb Q3_0
            have Q4_1 := cell_later hb Q3_1
            have Q4_2 := cell_later hb Q3_2
            have Q4_3 := cell_later hb Q3_3
            have HB_4 := hide (below_on HB_3.out hb)
            have hz_4 : v3w.heap.size ≤ v4w.heap.size := hb.size
            have O_0n := hide (O_0.out.later hb)
            clear O_0
            have O_0 := O_0n
            clear O_0n
            have O_1n := hide (O_1.out.later hb)
            clear O_1
            have O_1 := O_1n
            clear O_1n
            have O_r : Hid (IvI v3w.heap.size v4w.heap.size v4w (.slice ao_r lr c_r) rs) := ho.iv
            have ZAn := hide (ZA.out.later hb)
            clear ZA
            have ZA := ZAn
            clear ZAn
            have ZFn : Hid (∀ o, v4w.frozen? ⟨hv, o, none⟩ = false) := fun o => ((bcell hb).2 _ _ hvl).trans (ZF.out o)
            clear ZF
            have ZF := ZFn
            clear ZFn
            have hdj : v4w.heap.size ≤ hv ∨ hv < v3w.heap.size := Or.inr hvl
            have hvl2 : hv < v4w.heap.size := by omega
            clear hvl
            have hvl := hvl2
            clear hvl2
            clear hb ho
            refine hK.out _ _ ⟨P4_0, P4_1, P4_2, P4_3, Q4_0, Q4_1, Q4_2, Q4_3⟩ (fun _ => ?_)
            clear hK K
            try simp only [Act.put, List.setIfInBounds_toArray, List.set_cons_zero, List.set_cons_succ]
            refine wpAnyH_ready (rs := [6]) (by kernel_rfl) (by simp) (AllReadyH.cons rfl (fun K hK => ?_) (AllReadyH.nil))
            obtain ⟨Z_0, Z_1, Z_2, Z_3⟩ := ZA.out
            have Y_0 := ZF.out 0
            have Y_1 := ZF.out 1
            have Y_2 := ZF.out 2
            have Y_3 := ZF.out 3
            go_simp
            have hn0 : w.heap.size ≠ hv := by omega
            have hn1 : w.heap.size + 1 ≠ hv := by omega
            have hw : Wr (fun y => y = hv) v4w ((((v4w.setCell ⟨hv, 0, none⟩ (.int .i64 code)).setCell ⟨hv, 1, none⟩ (.int .i64 rq)).setCell ⟨hv, 2, none⟩ (.int .i64 rt)).setCell ⟨hv, 3, none⟩ (.slice ao_r lr c_r)) := ((((Wr.refl (fun y => y = hv) _).setCell (p := ⟨hv, 0, none⟩) rfl _).setCell (p := ⟨hv, 1, none⟩) rfl _).setCell (p := ⟨hv, 2, none⟩) rfl _).setCell (p := ⟨hv, 3, none⟩) rfl _
            have HW := hide hw
            clear hw
            refine hK.out _ _ ⟨(set4_other hn0).trans P4_0, (set4_other hn0).trans P4_1, (set4_other hn0).trans P4_2, (set4_other hn0).trans P4_3, (set4_other hn1).trans Q4_0, (set4_other hn1).trans Q4_1, (set4_other hn1).trans Q4_2, (set4_other hn1).trans Q4_3⟩ (fun _ => ?_)
            clear hK K
            try simp only [Act.put, List.setIfInBounds_toArray, List.set_cons_zero, List.set_cons_succ]
            refine wpAnyH_done (by kernel_rfl) ?_ _
            go_wp2_with fail
            go_meet
            case rel =>
              refine ⟨hv, ao_r, c_r, rfl, hv2, by simpa using hvl, ⟨by simp [go_sem, Z_0], by simp [go_sem, Z_1], by simp [go_sem, Z_2], by simp [go_sem, Z_3]⟩, ?_, ?_⟩
              · exact IvI.mono (O_r.out.wr HW.out (fun b h1 h2 => by show ¬ (b = hv); omega)) (by omega) (by first | (simp; done) | (simp; omega))
              · exact HB_4.out.trans (HW.out.below HB_4.out.size (fun b hb => by subst hb; exact hv2))
        · skip
          go_simp
          have hb := below_alloc v1w (.cells #[.int .i64 0, .int .i64 0, .int .i64 0, .slice none 0 0] 38)
          refine hK.out _ _ ⟨cell_later hb P1_0, cell_later hb P1_1, cell_later hb P1_2, cell_later hb P1_3, cell_later hb Q1_0, cell_later hb Q1_1, cell_later hb Q1_2, cell_later hb Q1_3⟩ (fun _ => ?_)
          clear hK K
          try simp only [Act.put, List.setIfInBounds_toArray, List.set_cons_zero, List.set_cons_succ]
          refine forgetH (fun wx => (wx.cell? ⟨w.heap.size, 0, none⟩ = some (.int .i64 c0) ∧ wx.cell? ⟨w.heap.size, 1, none⟩ = some (.int .i64 s0) ∧ wx.cell? ⟨w.heap.size, 2, none⟩ = some (.int .i64 t0) ∧ wx.cell? ⟨w.heap.size, 3, none⟩ = some (.slice ay0 l0 cy0) ∧ wx.cell? ⟨w.heap.size + 1, 0, none⟩ = some (.int .i64 c1) ∧ wx.cell? ⟨w.heap.size + 1, 1, none⟩ = some (.int .i64 s1) ∧ wx.cell? ⟨w.heap.size + 1, 2, none⟩ = some (.int .i64 t1) ∧ wx.cell? ⟨w.heap.size + 1, 3, none⟩ = some (.slice ay1 l1 cy1)) ∧ Below v1w.heap.size v1w wx ∧ Var4 wx v1w.heap.size (.int .i64 0) (.int .i64 0) (.int .i64 0) (.slice none 0 0) ∧ (∀ o, wx.frozen? ⟨v1w.heap.size, o, none⟩ = false) ∧ v1w.heap.size < wx.heap.size) ⟨⟨cell_later hb P1_0, cell_later hb P1_1, cell_later hb P1_2, cell_later hb P1_3, cell_later hb Q1_0, cell_later hb Q1_1, cell_later hb Q1_2, cell_later hb Q1_3⟩, hb, Var4_new _ _ _ _ _ _, fun o => by simp [go_sem], by simp⟩ ?_
          clear hb
          rintro v2w ⟨⟨P2_0, P2_1, P2_2, P2_3, Q2_0, Q2_1, Q2_2, Q2_3⟩, hb, za, zf, hvl⟩
          have HB_2 := hide (below_on HB_1.out hb)
          have hz_2 : v1w.heap.size ≤ v2w.heap.size := hb.size
          have O_0n := hide (O_0.out.later hb)
          clear O_0
          have O_0 := O_0n
          clear O_0n
          obtain ⟨hv, hhv⟩ : ∃ hv, v1w.heap.size = hv := ⟨_, rfl⟩
          have ZA := hide za
          have ZF := hide zf
          clear za zf hb
          rw [hhv] at ZA ZF hvl ⊢
          have hv2 : wh.heap.size ≤ hv := by omega
          have HHv := hide hhv
          clear hhv
          refine wpAnyH_ready (rs := [3]) (by kernel_rfl) (by simp) (AllReadyH.cons rfl (fun K hK => ?_) (AllReadyH.nil))
          go_simp
          go_at_call 30
          refine (HT1.out _ (below_on BB.out HB_2.out)).mono ?_
          rintro e v3w ⟨zz2, rfl, hb, ho⟩
          obtain ⟨ao_1, c_1, hzz⟩ := ho.shape
          rw [HL1.out] at hzz
          subst hzz
          have P3_0 := cell_later hb P2_0
          have P3_1 := cell_later hb P2_1
          have P3_2 := cell_later hb P2_2
          have P3_3 := cell_later hb P2_3
          have Q3_0 := cell_later hb Q2_0
          have Q3_1 := cell_later hb Q2_1
          have Q3_2 := cell_later hb Q2_2
          have Q3_3 := cell_later hb Q2_3
          have HB_3 := hide (below_on HB_2.out hb)
          have hz_3 : v2w.heap.size ≤ v3w.heap.size := hb.size
          have O_0n := hide (O_0.out.later hb)
          clear O_0
          have O_0 := O_0n
          clear O_0n
          have O_1 := hide ho.iv
          have ZAn := hide (ZA.out.later hb)
          clear ZA
          have ZA := ZAn
          clear ZAn
          have ZFn : Hid (∀ o, v3w.frozen? ⟨hv, o, none⟩ = false) := fun o => ((bcell hb).2 _ _ hvl).trans (ZF.out o)
          clear ZF
          have ZF := ZFn
          clear ZFn
          have hvl2 : hv < v3w.heap.size := by omega
          clear hvl
          have hvl := hvl2
          clear hvl2
          clear hb ho
          refine hK.out _ _ ⟨P3_0, P3_1, P3_2, P3_3, Q3_0, Q3_1, Q3_2, Q3_3⟩ (fun _ => ?_)
          clear hK K
          try simp only [Act.put, List.setIfInBounds_toArray, List.set_cons_zero, List.set_cons_succ]
          refine wpAnyH_ready (rs := [4]) (by kernel_rfl) (by simp) (AllReadyH.cons rfl (fun K hK => ?_) (AllReadyH.nil))
          go_simp
          go_at_call 31
          refine (HI.out _ _ _ _ _ O_0.out.rd O_1.out.rd).mono ?_
          rintro e v4w ⟨zz3, rfl, hb, ho⟩
          obtain ⟨ao_r, c_r, hzz⟩ := ho.shape
          rw [HLr.out] at hzz
          subst hzz
          have P4_0 := cell_later hb P3_0
          have P4_1 := cell_later hb P3_1
          have P4_2 := cell_later hb P3_2
          have P4_3 := cell_later hb P3_3
          have Q4_0 := cell_later hb Q3_0
          have Q4_1 := cell_later hb Q3_1
          have Q4_2 := cell_later hb Q3_2
          have Q4_3 := cell_later hb Q3_3
          have HB_4 := hide (below_on HB_3.out hb)
          have hz_4 : v3w.heap.size ≤ v4w.heap.size := hb.size
          have O_0n := hide (O_0.out.later hb)
          clear O_0
          have O_0 := O_0n
          clear O_0n
          have O_1n := hide (O_1.out.later hb)
          clear O_1
          have O_1 := O_1n
          clear O_1n
          have O_r : Hid (IvI v3w.heap.size v4w.heap.size v4w (.slice ao_r lr c_r) rs) := ho.iv
          have ZAn := hide (ZA.out.later hb)
          clear ZA
          have ZA := ZAn
          clear ZAn
          have ZFn : Hid (∀ o, v4w.frozen? ⟨hv, o, none⟩ = false) := fun o => ((bcell hb).2 _ _ hvl).trans (ZF.out o)
          clear ZF
          have ZF := ZFn
          clear ZFn
          have hdj : v4w.heap.size ≤ hv ∨ hv < v3w.heap.size := Or.inr hvl
          have hvl2 : hv < v4w.heap.size := by omega
          clear hvl
          have hvl := hvl2
          clear hvl2
          clear hb ho
          refine hK.out _ _ ⟨P4_0, P4_1, P4_2, P4_3, Q4_0, Q4_1, Q4_2, Q4_3⟩ (fun _ => ?_)
          clear hK K
          try simp only [Act.put, List.setIfInBounds_toArray, List.set_cons_zero, List.set_cons_succ]
          refine wpAnyH_ready (rs := [6]) (by kernel_rfl) (by simp) (AllReadyH.cons rfl (fun K hK => ?_) (AllReadyH.nil))
          obtain ⟨Z_0, Z_1, Z_2, Z_3⟩ := ZA.out
          have Y_0 := ZF.out 0
          have Y_1 := ZF.out 1
          have Y_2 := ZF.out 2
          have Y_3 := ZF.out 3
          go_simp
          have hn0 : w.heap.size ≠ hv := by omega
          have hn1 : w.heap.size + 1 ≠ hv := by omega
          have hw : Wr (fun y => y = hv) v4w ((((v4w.setCell ⟨hv, 0, none⟩ (.int .i64 code)).setCell ⟨hv, 1, none⟩ (.int .i64 rq)).setCell ⟨hv, 2, none⟩ (.int .i64 rt)).setCell ⟨hv, 3, none⟩ (.slice ao_r lr c_r)) := ((((Wr.refl (fun y => y = hv) _).setCell (p := ⟨hv, 0, none⟩) rfl _).setCell (p := ⟨hv, 1, none⟩) rfl _).setCell (p := ⟨hv, 2, none⟩) rfl _).setCell (p := ⟨hv, 3, none⟩) rfl _
          have HW := hide hw
          clear hw
          refine hK.out _ _ ⟨(set4_other hn0).trans P4_0, (set4_other hn0).trans P4_1, (set4_other hn0).trans P4_2, (set4_other hn0).trans P4_3, (set4_other hn1).trans Q4_0, (set4_other hn1).trans Q4_1, (set4_other hn1).trans Q4_2, (set4_other hn1).trans Q4_3⟩ (fun _ => ?_)
          clear hK K
          try simp only [Act.put, List.setIfInBounds_toArray, List.set_cons_zero, List.set_cons_succ]
          refine wpAnyH_done (by kernel_rfl) ?_ _
          go_wp2_with fail
          go_meet
          case rel =>
            refine ⟨hv, ao_r, c_r, rfl, hv2, by simpa using hvl, ⟨by simp [go_sem, Z_0], by simp [go_sem, Z_1], by simp [go_sem, Z_2], by simp [go_sem, Z_3]⟩, ?_, ?_⟩
            · exact IvI.mono (O_r.out.wr HW.out (fun b h1 h2 => by show ¬ (b = hv); omega)) (by omega) (by first | (simp; done) | (simp; omega))
            · exact HB_4.out.trans (HW.out.below HB_4.out.size (fun b hb => by subst hb; exact hv2))
      · skip
        go_simp
        have hb := below_alloc v0w (.cells #[.int .i64 0, .int .i64 0, .int .i64 0, .slice none 0 0] 38)
        refine hK.out _ _ ⟨cell_later hb P0_0, cell_later hb P0_1, cell_later hb P0_2, cell_later hb P0_3, cell_later hb Q0_0, cell_later hb Q0_1, cell_later hb Q0_2, cell_later hb Q0_3⟩ (fun _ => ?_)
        clear hK K
        try simp only [Act.put, List.setIfInBounds_toArray, List.set_cons_zero, List.set_cons_succ]
        refine forgetH (fun wx => (wx.cell? ⟨w.heap.size, 0, none⟩ = some (.int .i64 c0) ∧ wx.cell? ⟨w.heap.size, 1, none⟩ = some (.int .i64 s0) ∧ wx.cell? ⟨w.heap.size, 2, none⟩ = some (.int .i64 t0) ∧ wx.cell? ⟨w.heap.size, 3, none⟩ = some (.slice ay0 l0 cy0) ∧ wx.cell? ⟨w.heap.size + 1, 0, none⟩ = some (.int .i64 c1) ∧ wx.cell? ⟨w.heap.size + 1, 1, none⟩ = some (.int .i64 s1) ∧ wx.cell? ⟨w.heap.size + 1, 2, none⟩ = some (.int .i64 t1) ∧ wx.cell? ⟨w.heap.size + 1, 3, none⟩ = some (.slice ay1 l1 cy1)) ∧ Below v0w.heap.size v0w wx ∧ Var4 wx v0w.heap.size (.int .i64 0) (.int .i64 0) (.int .i64 0) (.slice none 0 0) ∧ (∀ o, wx.frozen? ⟨v0w.heap.size, o, none⟩ = false) ∧ v0w.heap.size < wx.heap.size) ⟨⟨cell_later hb P0_0, cell_later hb P0_1, cell_later hb P0_2, cell_later hb P0_3, cell_later hb Q0_0, cell_later hb Q0_1, cell_later hb Q0_2, cell_later hb Q0_3⟩, hb, Var4_new _ _ _ _ _ _, fun o => by simp [go_sem], by simp⟩ ?_
        clear hb
        rintro v1w ⟨⟨P1_0, P1_1, P1_2, P1_3, Q1_0, Q1_1, Q1_2, Q1_3⟩, hb, za, zf, hvl⟩
        have HB_1 := hide (below_on HB_0.out hb)
        have hz_1 : v0w.heap.size ≤ v1w.heap.size := hb.size
        obtain ⟨hv, hhv⟩ : ∃ hv, v0w.heap.size = hv := ⟨_, rfl⟩
        have ZA := hide za
        have ZF := hide zf
        clear za zf hb
        rw [hhv] at ZA ZF hvl ⊢
        have hv2 : wh.heap.size ≤ hv := by omega
        have HHv := hide hhv
        clear hhv
        refine wpAnyH_ready (rs := [1]) (by kernel_rfl) (by simp) (AllReadyH.cons rfl (fun K hK => ?_) (AllReadyH.nil))
        go_simp
        go_at_call 30
        refine (HT0.out _ (below_on BB.out HB_1.out)).mono ?_
        rintro e v2w ⟨zz1, rfl, hb, ho⟩
        obtain ⟨ao_0, c_0, hzz⟩ := ho.shape
        rw [HL0.out] at hzz
        subst hzz
        have P2_0 := cell_later hb P1_0
        have P2_1 := cell_later hb P1_1
        have P2_2 := cell_later hb P1_2
        have P2_3 := cell_later hb P1_3
        have Q2_0 := cell_later hb Q1_0
        have Q2_1 := cell_later hb Q1_1
        have Q2_2 := cell_later hb Q1_2
        have Q2_3 := cell_later hb Q1_3
        have HB_2 := hide (below_on HB_1.out hb)
        have hz_2 : v1w.heap.size ≤ v2w.heap.size := hb.size
        have O_0 := hide ho.iv
        have ZAn := hide (ZA.out.later hb)
        clear ZA
        have ZA := ZAn
        clear ZAn
        have ZFn : Hid (∀ o, v2w.frozen? ⟨hv, o, none⟩ = false) := fun o => ((bcell hb).2 _ _ hvl).trans (ZF.out o)
        clear ZF
        have ZF := ZFn
        clear ZFn
        have hvl2 : hv < v2w.heap.size := by omega
        clear hvl
        have hvl := hvl2
        clear hvl2
        clear hb ho
        refine hK.out _ _ ⟨P2_0, P2_1, P2_2, P2_3, Q2_0, Q2_1, Q2_2, Q2_3⟩ (fun _ => ?_)
        clear hK K
        try simp only [Act.put, List.setIfInBounds_toArray, List.set_cons_zero, List.set_cons_succ]
        refine wpAnyH_ready (rs := [3]) (by kernel_rfl) (by simp) (AllReadyH.cons rfl (fun K hK => ?_) (AllReadyH.nil))
        go_simp
        go_at_call 30
        refine (HT1.out _ (below_on BB.out HB_2.out)).mono ?_
        rintro e v3w ⟨zz2, rfl, hb, ho⟩
        obtain ⟨ao_1, c_1, hzz⟩ := ho.shape
        rw [HL1.out] at hzz
        subst hzz
        have P3_0 := cell_later hb P2_0
        have P3_1 := cell_later hb P2_1
        have P3_2 := cell_later hb P2_2
        have P3_3 := cell_later hb P2_3
        have Q3_0 := cell_later hb Q2_0
        have Q3_1 := cell_later hb Q2_1
        have Q3_2 := cell_later hb Q2_2
        have Q3_3 := cell_later hb Q2_3
        have HB_3 := hide (below_on HB_2.out hb)
        have hz_3 : v2w.heap.size ≤ v3w.heap.size := hb.size
        have O_0n := hide (O_0.out.later hb)
        clear O_0
        have O_0 := O_0n
        clear O_0n
        have O_1 := hide ho.iv
        have ZAn := hide (ZA.out.later hb)
        clear ZA
        have ZA := ZAn
        clear ZAn
        have ZFn : Hid (∀ o, v3w.frozen? ⟨hv, o, none⟩ = false) := fun o => ((bcell hb).2 _ _ hvl).trans (ZF.out o)
        clear ZF
        have ZF := ZFn
        clear ZFn
        have hvl2 : hv < v3w.heap.size := by omega
        clear hvl
        have hvl := hvl2
        clear hvl2
        clear hb ho
        refine hK.out _ _ ⟨P3_0, P3_1, P3_2, P3_3, Q3_0, Q3_1, Q3_2, Q3_3⟩ (fun _ => ?_)
        clear hK K
        try simp only [Act.put, List.setIfInBounds_toArray, List.set_cons_zero, List.set_cons_succ]
        refine wpAnyH_ready (rs := [4]) (by kernel_rfl) (by simp) (AllReadyH.cons rfl (fun K hK => ?_) (AllReadyH.nil))
        go_simp
        go_at_call 31
        refine (HI.out _ _ _ _ _ O_0.out.rd O_1.out.rd).mono ?_
        rintro e v4w ⟨zz3, rfl, hb, ho⟩
        obtain ⟨ao_r, c_r, hzz⟩ := ho.shape
        rw [HLr.out] at hzz
        subst hzz
        have P4_0 := cell_later hb P3_0
        have P4_1 := cell_later hb P3_1
        have P4_2 := cell_later hb P3_2
        have P4_3 := cell_later hb P3_3
        have Q4_0 := cell_later hb Q3_0
        have Q4_1 := cell_later hb Q3_1
        have Q4_2 := cell_later hb Q3_2
        have Q4_3 := cell_later hb Q3_3
        have HB_4 := hide (below_on HB_3.out hb)
        have hz_4 : v3w.heap.size ≤ v4w.heap.size := hb.size
        have O_0n := hide (O_0.out.later hb)
        clear O_0
        have O_0 := O_0n
        clear O_0n
        have O_1n := hide (O_1.out.later hb)
        clear O_1
        have O_1 := O_1n
        clear O_1n
        have O_r : Hid (IvI v3w.heap.size v4w.heap.size v4w (.slice ao_r lr c_r) rs) := ho.iv
        have ZAn := hide (ZA.out.later hb)
        clear ZA
        have ZA := ZAn
        clear ZAn
        have ZFn : Hid (∀ o, v4w.frozen? ⟨hv, o, none⟩ = false) := fun o => ((bcell hb).2 _ _ hvl).trans (ZF.out o)
        clear ZF
        have ZF := ZFn
        clear ZFn
        have hdj : v4w.heap.size ≤ hv ∨ hv < v3w.heap.size := Or.inr hvl
        have hvl2 : hv < v4w.heap.size := by omega
        clear hvl
        have hvl := hvl2
        clear hvl2
        clear hb ho
        refine hK.out _ _ ⟨P4_0, P4_1, P4_2, P4_3, Q4_0, Q4_1, Q4_2, Q4_3⟩ (fun _ => ?_)
        clear hK K
        try simp only [Act.put, List.setIfInBounds_toArray, List.set_cons_zero, List.set_cons_succ]
        refine wpAnyH_ready (rs := [6]) (by kernel_rfl) (by simp) (AllReadyH.cons rfl (fun K hK => ?_) (AllReadyH.nil))
        obtain ⟨Z_0, Z_1, Z_2, Z_3⟩ := ZA.out
        have Y_0 := ZF.out 0
        have Y_1 := ZF.out 1
        have Y_2 := ZF.out 2
        have Y_3 := ZF.out 3
        go_simp
        have hn0 : w.heap.size ≠ hv := by omega
        have hn1 : w.heap.size + 1 ≠ hv := by omega
        have hw : Wr (fun y => y = hv) v4w ((((v4w.setCell ⟨hv, 0, none⟩ (.int .i64 code)).setCell ⟨hv, 1, none⟩ (.int .i64 rq)).setCell ⟨hv, 2, none⟩ (.int .i64 rt)).setCell ⟨hv, 3, none⟩ (.slice ao_r lr c_r)) := ((((Wr.refl (fun y => y = hv) _).setCell (p := ⟨hv, 0, none⟩) rfl _).setCell (p := ⟨hv, 1, none⟩) rfl _).setCell (p := ⟨hv, 2, none⟩) rfl _).setCell (p := ⟨hv, 3, none⟩) rfl _
        have HW := hide hw
        clear hw
        refine hK.out _ _ ⟨(set4_other hn0).trans P4_0, (set4_other hn0).trans P4_1, (set4_other hn0).trans P4_2, (set4_other hn0).trans P4_3, (set4_other hn1).trans Q4_0, (set4_other hn1).trans Q4_1, (set4_other hn1).trans Q4_2, (set4_other hn1).trans Q4_3⟩ (fun _ => ?_)
        clear hK K
        try simp only [Act.put, List.setIfInBounds_toArray, List.set_cons_zero, List.set_cons_succ]
        refine wpAnyH_done (by kernel_rfl) ?_ _
        go_wp2_with fail
        go_meet
        case rel =>
          refine ⟨hv, ao_r, c_r, rfl, hv2, by simpa using hvl, ⟨by simp [go_sem, Z_0], by simp [go_sem, Z_1], by simp [go_sem, Z_2], by simp [go_sem, Z_3]⟩, ?_, ?_⟩
          · exact IvI.mono (O_r.out.wr HW.out (fun b h1 h2 => by show ¬ (b = hv); omega)) (by omega) (by first | (simp; done) | (simp; omega))
          · exact HB_4.out.trans (HW.out.below HB_4.out.size (fun b hb => by subst hb; exact hv2))
    case rest =>
      obtain ⟨hvH, aoH, cH, rfl, hgH, hlH, HW⟩ := hcut
      obtain ⟨hV, hI, hb⟩ := HW.out
      clear HW
      clear plt p0 p1 p2 p3
      clear qlt q0 q1 q2 q3
      have N_H := hide hI
      have N_vH := hide hV
      have zH : wh.heap.size ≤ wc.heap.size := hb.size
      have G_b0 := hide (F_b0.out.later hb)
      have G_b1 := hide (F_b1.out.later hb)
      have G_W := hide (F_W.out.later hb)
      have G_vW := hide (F_vW.out.later hb)
      have G_vG := hide (F_vG.out.later hb)
      have G_R := hide (F_R.out.later hb)
      have BC := hide (below_on BB.out hb)
      clear F_b0
      have F_b0 := G_b0
      clear G_b0
      clear F_b1
      have F_b1 := G_b1
      clear G_b1
      clear F_W
      have F_W := G_W
      clear G_W
      clear F_vW
      have F_vW := G_vW
      clear G_vW
      clear F_vG
      have F_vG := G_vG
      clear G_vG
      clear F_R
      have F_R := G_R
      clear G_R
      clear BB
      have BB := BC
      clear BC
      clear hb hI hV
      have F_H := N_H
      clear N_H
      have F_vH := N_vH
      clear N_vH
      have plt := F_vH.out.lt
      obtain ⟨p0, p1, p2, p3⟩ := F_vH.out
      have qlt := F_vW.out.lt
      obtain ⟨q0, q1, q2, q3⟩ := F_vW.out
      go_wp2_with fail
      refine (eqHeaderResult code rq rt F_H.out.rd F_W.out.rd).mono ?_
      rintro e we3 ⟨rfl, hb⟩
      have G_b0 := hide (F_b0.out.later hb)
      have G_b1 := hide (F_b1.out.later hb)
      have G_W := hide (F_W.out.later hb)
      have G_vW := hide (F_vW.out.later hb)
      have G_vG := hide (F_vG.out.later hb)
      have G_R := hide (F_R.out.later hb)
      have G_H := hide (F_H.out.later hb)
      have G_vH := hide (F_vH.out.later hb)
      have BC := hide (below_on BB.out hb)
      have zwe3 : wc.heap.size ≤ we3.heap.size := by have := hb.size; simpa using this
      clear plt p0 p1 p2 p3
      clear qlt q0 q1 q2 q3
      clear F_b0
      have F_b0 := G_b0
      clear G_b0
      clear F_b1
      have F_b1 := G_b1
      clear G_b1
      clear F_W
      have F_W := G_W
      clear G_W
      clear F_vW
      have F_vW := G_vW
      clear G_vW
      clear F_vG
      have F_vG := G_vG
      clear G_vG
      clear F_R
      have F_R := G_R
      clear G_R
      clear F_H
      have F_H := G_H
      clear G_H
      clear F_vH
      have F_vH := G_vH
      clear G_vH
      clear BB
      have BB := BC
      clear BC
      clear hb
      clear F_H
      clear F_W
      clear F_vH
      clear F_vW
      have plt := F_vG.out.lt
      obtain ⟨p0, p1, p2, p3⟩ := F_vG.out
      go_wp2_with fail
      refine (heldHeaderResult code rq rt F_R.out (by omega) HRB.out).mono ?_
      rintro e wh2 ⟨he, hb⟩
      rw [HMe.out] at he
      subst he
      have G_b0 := hide (F_b0.out.later hb)
      have G_b1 := hide (F_b1.out.later hb)
      have G_vG := hide (F_vG.out.later hb)
      have G_R := hide (F_R.out.later hb)
      have BC := hide (below_on BB.out hb)
      have zwh2 : we3.heap.size ≤ wh2.heap.size := by have := hb.size; simpa using this
      clear plt p0 p1 p2 p3
      clear F_b0
      have F_b0 := G_b0
      clear G_b0
      clear F_b1
      have F_b1 := G_b1
      clear G_b1
      clear F_vG
      have F_vG := G_vG
      clear G_vG
      clear F_R
      have F_R := G_R
      clear G_R
      clear BB
      have BB := BC
      clear BC
      clear hb
      go_wp2
      go_ret
      exact ⟨rfl, BB.out⟩
end Go.Proofs.Ytcmkbcadnbdgmaa
