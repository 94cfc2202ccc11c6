/- Cp3 Ef2 in one text: what each says stands at its head below. -/
import Derived.Test.YtlliggfggadidaaGreatDoorG11
import Derived.Test.YtlliggfggadidaaGreatDoorG12
import Derived.Test.YtlliggfggadidaaGreatDoorG10
namespace Go.Proofs.YtlliggfggadidaaGreatDoor
open Go.RowKit
theorem df_zero {r : Rf} {xs : List Int} (h : dfF r xs = 0) : rfF r = 0 ∧ daF xs = 0 := by
  by_cases h0 : rfF r = 0
  · rw [dfF_ok h0] at h; exact ⟨h0, h⟩
  · rw [dfF_bad h0] at h; exact absurd h h0
theorem cpC_df {r : Rf} {i : Int} {xs : List Int} : cpC r i xs = if dfF r xs ≠ 0 then dfF r xs else if i ≤ r.si then 6 else tmC r i := by
  unfold cpC dfF
  by_cases h0 : rfF r = 0
  · simp [h0]
  · simp [h0]
theorem cp_bad {r : Rf} {i : Int} {xs : List Int} (h : dfF r xs ≠ 0) : cpC r i xs = dfF r xs ∧ cpR r i xs = rf0 := by
  have hc : cpC r i xs = dfF r xs := by rw [cpC_df, if_pos h]
  exact ⟨hc, by unfold cpR; rw [if_neg (by rw [hc]; exact h)]⟩
theorem cp_lo {r : Rf} {i : Int} {xs : List Int} (h : dfF r xs = 0) (h1 : i ≤ r.si) : cpC r i xs = 6 ∧ cpR r i xs = rf0 := by
  have hc : cpC r i xs = 6 := by rw [cpC_df, if_neg (by simp [h]), if_pos h1]
  exact ⟨hc, by unfold cpR; rw [if_neg (by rw [hc]; decide)]⟩
theorem cp_hi {r : Rf} {i : Int} {xs : List Int} (h : dfF r xs = 0) (h1 : r.si + (r.lg.length : Int) < i) : cpC r i xs = 4 ∧ cpR r i xs = rf0 := by
  have hl : lastR r = r.si + (r.lg.length : Int) := rfl
  have hc : cpC r i xs = 4 := by rw [cpC_df, if_neg (by simp [h]), if_neg (by omega)]; unfold tmC; rw [if_neg (by omega), if_pos (by omega)]
  exact ⟨hc, by unfold cpR; rw [if_neg (by rw [hc]; decide)]⟩
theorem cp_ok {r : Rf} {i : Int} {xs : List Int} (k : Nat) (h : dfF r xs = 0) (h1 : i - (r.si + 1) = (k : Int)) (h2 : k < r.lg.length) : cpC r i xs = 0 ∧ cpR r i xs = ⟨r.tm, r.vt, i, (r.lg.getD k oj0).2.1, xs, r.lg.drop (k + 1)⟩ ∧ (r.lg.getD k oj0).1 = i ∧ tmV r i = (r.lg.getD k oj0).2.1 ∧ tmC r i = 0 := by
  have hl : lastR r = r.si + (r.lg.length : Int) := rfl
  have ht : tmC r i = 0 := by unfold tmC; rw [if_neg (by omega), if_neg (by omega)]
  have hc : cpC r i xs = 0 := by rw [cpC_df, if_neg (by simp [h]), if_neg (by omega), ht]
  have hi := rfF_iff.1 (df_zero h).1
  have e1 : (i - r.si - 1).toNat = k := by omega
  have e2 : (i - r.si).toNat = k + 1 := by omega
  have hv : tmV r i = (r.lg.getD k oj0).2.1 := by unfold tmV; rw [if_pos ht, if_neg (by omega), e1]
  refine ⟨hc, by unfold cpR; rw [if_pos hc, hv, e2], ?_, hv, ht⟩
  have h3 := log_at hi.lo k h2
  have h4 := (hi.lk (by rintro e; rw [e] at h2; simp at h2)).1
  rw [h3, h4]; omega
set_option linter.unusedSimpArgs false in
set_option maxHeartbeats 4000000 in
set_option maxRecDepth 4000 in
theorem implCompactRaft {S T U : Nat → Prop} {w : World} {y z v : Value} {xs : List Int} (r : Rf) (i : Int) (hg : Gl w) (hy : RdI S w y r.sn) (hz : RdJ T w z r.lg) (hcp : capE z) (hv : RdI U w v xs) :
    Calls Tryz.prog 81 #[.agg #[.int .i64 r.tm, .int .i64 r.vt, .int .i64 r.si, .int .i64 r.st, y, z], .int .i64 i, v] w (EndsRf (cpC r i xs) (cpR r i xs) w) := by
  obtain ⟨ay, cy, rfl⟩ := hy.shape
  obtain ⟨az, cz, rfl, _⟩ := hz.shape
  obtain ⟨av, cv, rfl⟩ := hv.shape
  have hcz : r.lg.length ≤ cz := hcp
  clear hcp
  have HG := hide hg
  have BA0 := below_on (below_alloc w (.cells #[.int .i64 r.tm, .int .i64 r.vt, .int .i64 r.si, .int .i64 r.st, .slice ay r.sn.length cy, .slice az r.lg.length cz] 27)) (below_alloc _ (.cells #[.int .i64 0, .int .i64 0, .int .i64 0, .int .i64 0, .int .i64 0, .slice none 0 0, .slice none 0 0] 79))
  have VA0 := (Var6_new w (.int .i64 r.tm) (.int .i64 r.vt) (.int .i64 r.si) (.int .i64 r.st) (.slice ay r.sn.length cy) (.slice az r.lg.length cz) 27).later (below_alloc _ (.cells #[.int .i64 0, .int .i64 0, .int .i64 0, .int .i64 0, .int .i64 0, .slice none 0 0, .slice none 0 0] 79))
  have RA := hide (Res7.start w (.cells #[.int .i64 r.tm, .int .i64 r.vt, .int .i64 r.si, .int .i64 r.st, .slice ay r.sn.length cy, .slice az r.lg.length cz] 27) 79)
  have HF := hide (dataFaultI r (hy.later BA0) (hz.later BA0) (hv.later BA0))
  have BA := hide BA0
  have VA := hide VA0
  clear BA0 VA0
  have HZ := hide hz
  have HV := hide hv
  have HRm := hide (fun h : dfF r xs = 0 => rf_room (df_zero h).1)
  have HDl := hide (fun h : dfF r xs = 0 => daF_len (df_zero h).2)
  have HRs := hide (fun h : dfF r xs = 0 => (rfF_iff.1 (df_zero h).1).rg.2.1)
  have HBad := hide (@cp_bad r i xs)
  have HLo := hide (@cp_lo r i xs)
  have HHi := hide (@cp_hi r i xs)
  have HOk := hide (@cp_ok r i xs)
  obtain ⟨C, hC⟩ : ∃ C, cpC r i xs = C := ⟨_, rfl⟩
  obtain ⟨R, hR⟩ : ∃ R, cpR r i xs = R := ⟨_, rfl⟩
  rw [hC, hR] at HBad HLo HHi HOk ⊢
  obtain ⟨Z, hZ⟩ : ∃ Z, dfF r xs = Z := ⟨_, rfl⟩
  rw [hZ] at HF HRm HDl HRs HBad HLo HHi HOk
  clear hC hR hZ hy hz hv hg
  obtain ⟨ps, hps⟩ : ∃ ps, r.lg = ps := ⟨_, rfl⟩
  rw [hps] at HF HZ HRm HHi HOk BA VA RA hcz ⊢
  clear hps
  obtain ⟨m, hme⟩ : ∃ m, ps.length = m := ⟨_, rfl⟩
  have HME := hide hme
  rw [hme] at HF HZ HRm HHi HOk BA VA RA hcz ⊢
  clear hme
  generalize r.sn.length = l at *
  obtain ⟨lv, hlv⟩ : ∃ x, xs.length = x := ⟨_, rfl⟩
  have HLv := hide hlv
  rw [hlv] at HF HV HDl ⊢
  clear hlv
  generalize r.tm = a at *
  generalize r.vt = b at *
  generalize r.si = c at *
  generalize r.st = d at *
  obtain ⟨W, hW⟩ : ∃ W, ((w.alloc (.cells #[.int .i64 a, .int .i64 b, .int .i64 c, .int .i64 d, .slice ay l cy, .slice az m cz] 27)).alloc (.cells #[.int .i64 0, .int .i64 0, .int .i64 0, .int .i64 0, .int .i64 0, .slice none 0 0, .slice none 0 0] 79)) = W := ⟨_, rfl⟩
  rw [hW] at BA VA RA HF
  obtain ⟨v0, v1, v2, v3, v4, v5⟩ := VA.out
  go_enter Tryz.func81, Tryz.ntmps81
  go_wp2_with fail
  clear hW
  refine HF.out.mono ?_
  rintro e w1 ⟨rfl, hb⟩
  have BB := hide (below_on BA.out hb)
  have VB := hide (VA.out.later hb)
  have RB := hide (RA.out.later hb)
  clear hb v0 v1 v2 v3 v4 v5 VA RA BA
  by_cases h0 : Z = 0
  · subst h0
    obtain ⟨_, hml, hll⟩ := HRm.out (by first | trivial | rfl)
    have HLL := hide hll
    clear hll
    have hrs := HRs.out (by first | trivial | rfl)
    have hdl := HDl.out (by first | trivial | rfl)
    have HLog := hide (logOfE a b c d ay az l cy m cz hrs.1 hrs.2)
    obtain ⟨v0, v1, v2, v3, v4, v5⟩ := VB.out
    go_wp2_with fail
    refine (HLog.out _).mono ?_
    rintro e w2 ⟨rfl, hb⟩
    obtain ⟨f, hf⟩ : ∃ f, c + 1 = f := ⟨_, rfl⟩
    rw [hf]
    have hbl := below_on hb (below_alloc w2 (.cells #[.int .i64 f, .slice az m cz] 131))
    have BC := hide (below_on BB.out hbl)
    have VC := hide (VB.out.later hbl)
    have RC := hide (RB.out.later hbl)
    have LC := hide (Var2_new w2 (.int .i64 f) (.slice az m cz) 131)
    have hw2 : w.heap.size + 1 < w2.heap.size := Nat.lt_of_lt_of_le RB.out.lt hb.size
    clear hb hbl v0 v1 v2 v3 v4 v5 VB RB BB
    have hf0 : 0 ≤ f := by omega
    have hf1 : f ≤ 10000 := by omega
    obtain ⟨W2, hW2⟩ : ∃ W2, w2.alloc (.cells #[.int .i64 f, .slice az m cz] 131) = W2 := ⟨_, rfl⟩
    rw [hW2] at BC VC RC LC
    have hs2 : W2.heap.size = w2.heap.size + 1 := by rw [← hW2]; simp
    have HS2 := hide hs2
    clear hs2
    by_cases hlo : i < f
    · obtain ⟨rfl, rfl⟩ := HLo.out (by first | trivial | rfl) (by omega)
      have HRe := hide (atLoE f i az m cz hlo)
      clear hlo hf
      obtain ⟨l0, l1⟩ := LC.out
      go_wp2_with fail
      (try rw [hW2])
      clear hW2
      refine (HRe.out _).mono ?_
      rintro e w3 ⟨rfl, hb⟩
      have hbe := below_on hb (below_alloc w3 (.cells #[.int .i64 0, .int .i64 0, .slice none 0 0] 58))
      have BD := hide (below_on BC.out hbe)
      have RD := hide (RC.out.later hbe)
      clear hb hbe l0 l1
      have hne := run_neq_iface_nilR (P := Tryz.prog) (w3.alloc (.cells #[.int .i64 0, .int .i64 0, .slice none 0 0] 58)) 107 (.agg #[.int .i64 f]) Tryz.underlying72
      go_wp2_with fail
      refine (codeOver f _ (HG.out.later BD.out)).mono ?_
      rintro e w4 ⟨rfl, hb⟩
      have RE := hide (RD.out.later hb)
      clear hb hne
      have HFn := hide (ret_none (x0 := .int .i64 6) (x1 := .int .i64 0) (x2 := .int .i64 0) (x3 := .int .i64 0) (x4 := .int .i64 0) RE.out.below RE.out.ge)
      obtain ⟨_, ⟨c0, c1, c2, c3, c4, c5, c6⟩, F, _⟩ := RE.out
      have f0 := F 0
      have f1 := F 1
      have f2 := F 2
      have f3 := F 3
      have f4 := F 4
      have f5 := F 5
      have f6 := F 6
      clear F
      go_wp2
      refine bodyPost_ret (v := .agg #[.int .i64 6, .int .i64 0, .int .i64 0, .int .i64 0, .int .i64 0, .slice none 0 0, .slice none 0 0]) (by simp [results, Tryz.results81, go_sem, c0, c1, c2, c3, c4, c5, c6]) rfl ⟨_, _, rfl, HFn.out.1, HFn.out.2⟩
    · by_cases hhi : f + (m : Int) ≤ i
      · obtain ⟨rfl, rfl⟩ := HHi.out (by first | trivial | rfl) (by omega)
        obtain ⟨⟨pa, hpa⟩, _⟩ := HG.out.later BC.out
        have HPc := hide hpa
        have HRe := hide (atHiE f i az m cz hf0 hf1 (by omega) hhi W2 pa hpa)
        clear hlo hhi hf hpa
        obtain ⟨l0, l1⟩ := LC.out
        go_wp2_with fail
        (try rw [hW2])
        clear hW2
        refine HRe.out.mono ?_
        rintro e w3 ⟨rfl, hb⟩
        have hbe := below_on hb (below_alloc w3 (.cells #[.int .i64 0, .int .i64 0, .slice none 0 0] 58))
        have BD := hide (below_on BC.out hbe)
        have RD := hide (RC.out.later hbe)
        have HPd := hide (cell_later hbe HPc.out)
        clear hb hbe l0 l1
        have hne := run_neq_iface_nilR (P := Tryz.prog) (w3.alloc (.cells #[.int .i64 0, .int .i64 0, .slice none 0 0] 58)) 191 (.pointer (some pa)) Tryz.underlying72
        go_wp2_with fail
        refine (codeYet pa _ (HG.out.later BD.out) HPd.out).mono ?_
        rintro e w4 ⟨rfl, hb⟩
        have RE := hide (RD.out.later hb)
        clear hb hne
        have HFn := hide (ret_none (x0 := .int .i64 4) (x1 := .int .i64 0) (x2 := .int .i64 0) (x3 := .int .i64 0) (x4 := .int .i64 0) RE.out.below RE.out.ge)
        obtain ⟨_, ⟨c0, c1, c2, c3, c4, c5, c6⟩, F, _⟩ := RE.out
        have f0 := F 0
        have f1 := F 1
        have f2 := F 2
        have f3 := F 3
        have f4 := F 4
        have f5 := F 5
        have f6 := F 6
        clear F
        go_wp2
        refine bodyPost_ret (v := .agg #[.int .i64 4, .int .i64 0, .int .i64 0, .int .i64 0, .int .i64 0, .slice none 0 0, .slice none 0 0]) (by simp [results, Tryz.results81, go_sem, c0, c1, c2, c3, c4, c5, c6]) rfl ⟨_, _, rfl, HFn.out.1, HFn.out.2⟩
      · obtain ⟨kk, hkk⟩ : ∃ kk : Nat, i - f = (kk : Int) := ⟨(i - f).toNat, by omega⟩
        have hkm : kk < m := by omega
        have hi1 : IntKind.i64.wrap (i + 1) = i + 1 := by simp [IntKind.wrap, IntKind.bits, IntKind.signed]; omega
        obtain ⟨rfl, hRe, hidx, _, _⟩ := HOk.out kk (by first | trivial | rfl) (by omega) hkm
        subst hRe
        have HRe := hide (atInE f i kk (HZ.out.later BC.out) HME.out hf0 hf1 (by omega) hkk hkm)
        have HFr := hide (fromE f (i + 1) az m cz (kk + 1) (by omega) (by omega) (by omega))
        obtain ⟨t, ht⟩ : ∃ t, (ps.getD kk oj0).2.1 = t := ⟨_, rfl⟩
        rw [hidx, ht] at HRe
        have HT := hide ht
        clear hidx ht HOk HHi HLo HBad
        have HLd : Hid (∀ j, j < (ps.drop (kk + 1)).length → ((ps.drop (kk + 1)).getD j oj0).2.2.length ≤ 1048576) := fun j hj => by
          have e : (ps.drop (kk + 1)).getD j oj0 = ps.getD (kk + 1 + j) oj0 := by simp [List.getD, List.getElem?_drop]
          rw [e]
          exact HLL.out _ (by have := HME.out; simp at hj; omega)
        have HSn := hide (fun (q3 : Option Addr) (k3 d3 : Nat) (w' : World) (hb : Below w.heap.size w w') => snappedI a b c d i t ay az q3 l cy m cz k3 d3 (HV.out.later hb) ((HZ.out.later hb).fromE (kk + 1) (by omega) hcz) (by rw [HLv.out]; omega) (by have := HME.out; simp; omega) HLd.out)
        obtain ⟨A, hA⟩ : ∃ A, slE az cz (kk + 1) = A := ⟨_, rfl⟩
        rw [hA] at HFr HSn
        clear hA
        obtain ⟨m2, hm2⟩ : ∃ x, m - (kk + 1) = x := ⟨_, rfl⟩
        obtain ⟨c7, hc7⟩ : ∃ x, cz - (kk + 1) = x := ⟨_, rfl⟩
        obtain ⟨pd, hpd⟩ : ∃ x, ps.drop (kk + 1) = x := ⟨_, rfl⟩
        rw [hm2, hc7] at HFr HSn
        rw [hpd] at HSn
        have HPq := hide hpd
        clear hm2 hc7 hpd
        clear hlo hhi hf hkk
        obtain ⟨l0, l1⟩ := LC.out
        go_wp2_with fail
        (try rw [hW2])
        clear hW2
        refine HRe.out.mono ?_
        rintro e w3 ⟨q3, k3, d3, rfl, hb⟩
        clear l0 l1
        have hbe := below_on hb (below_alloc w3 (.cells #[.int .i64 i, .int .i64 t, .slice q3 k3 d3] 58))
        have BD := hide (below_on BC.out hbe)
        have VD := hide (VC.out.later hbe)
        have RD := hide (RC.out.later hbe)
        have LD := hide (LC.out.later hbe)
        have ED := hide (Var3_new w3 (.int .i64 i) (.int .i64 t) (.slice q3 k3 d3) 58)
        have hz3 := hb.size
        have hw3 : w.heap.size + 1 < w3.heap.size := by have := HS2.out; omega
        obtain ⟨W3, hW3⟩ : ∃ W3, w3.alloc (.cells #[.int .i64 i, .int .i64 t, .slice q3 k3 d3] 58) = W3 := ⟨_, rfl⟩
        rw [hW3] at BD VD RD LD ED
        have hs3 : W3.heap.size = w3.heap.size + 1 := by rw [← hW3]; simp
        have HS3 := hide hs3
        clear hb hbe hs3 VC RC LC
        have hnn := run_neq_nil_nilR (P := Tryz.prog) W3 Tryz.underlying72
        obtain ⟨v0, v1, v2, v3, v4, v5⟩ := VD.out
        obtain ⟨l0, l1⟩ := LD.out
        obtain ⟨e0, e1, e2⟩ := ED.out
        go_wp2_with fail
        (try rw [hW3])
        clear hW3 hnn
        go_upto_region 8 with fail
        refine wp_region_held_drew (S := fun w' => w'.cell? ⟨w.heap.size, 0, none⟩ = some (.int .i64 a) ∧ w'.cell? ⟨w.heap.size, 1, none⟩ = some (.int .i64 b) ∧ w'.cell? ⟨w.heap.size, 2, none⟩ = some (.int .i64 c) ∧ w'.cell? ⟨w.heap.size, 3, none⟩ = some (.int .i64 d) ∧ w'.cell? ⟨w.heap.size, 4, none⟩ = some (.slice ay l cy) ∧ w'.cell? ⟨w.heap.size, 5, none⟩ = some (.slice az m cz) ∧ w'.cell? ⟨w2.heap.size, 0, none⟩ = some (.int .i64 f) ∧ w'.cell? ⟨w2.heap.size, 1, none⟩ = some (.slice az m cz) ∧ w'.cell? ⟨w3.heap.size, 0, none⟩ = some (.int .i64 i) ∧ w'.cell? ⟨w3.heap.size, 1, none⟩ = some (.int .i64 t) ∧ w'.cell? ⟨w3.heap.size, 2, none⟩ = some (.slice q3 k3 d3)) (by kernel_rfl) ⟨v0, v1, v2, v3, v4, v5, l0, l1, e0, e1, e2⟩ (fun hHeld0 => ?_)
        refine forgetH (fun wx => (wx.cell? ⟨w.heap.size, 0, none⟩ = some (.int .i64 a) ∧ wx.cell? ⟨w.heap.size, 1, none⟩ = some (.int .i64 b) ∧ wx.cell? ⟨w.heap.size, 2, none⟩ = some (.int .i64 c) ∧ wx.cell? ⟨w.heap.size, 3, none⟩ = some (.int .i64 d) ∧ wx.cell? ⟨w.heap.size, 4, none⟩ = some (.slice ay l cy) ∧ wx.cell? ⟨w.heap.size, 5, none⟩ = some (.slice az m cz) ∧ wx.cell? ⟨w2.heap.size, 0, none⟩ = some (.int .i64 f) ∧ wx.cell? ⟨w2.heap.size, 1, none⟩ = some (.slice az m cz) ∧ wx.cell? ⟨w3.heap.size, 0, none⟩ = some (.int .i64 i) ∧ wx.cell? ⟨w3.heap.size, 1, none⟩ = some (.int .i64 t) ∧ wx.cell? ⟨w3.heap.size, 2, none⟩ = some (.slice q3 k3 d3)) ∧ Below W3.heap.size W3 wx) ⟨hHeld0, below_drewN W3 1⟩ ?_
        clear hHeld0
        rintro v0w ⟨hHeld, hbx⟩
        have HB0 := hide hbx
        have hz0 := hbx.size
        clear hbx
        obtain ⟨P0_v0, P0_v1, P0_v2, P0_v3, P0_v4, P0_v5, P0_l0, P0_l1, P0_e0, P0_e1, P0_e2⟩ := id hHeld
        refine wpAnyH_take (i := 0) (v := ?v8x0) rfl (by kernel_rfl) (by kernel_rfl) (by kernel_rfl) (fun _ _ _ h => h) (Or.inl ⟨by rfl, ?h8x0⟩) hHeld ?r8x0
        case h8x0 => intro w9 hSw; (try dsimp only at hSw); first | (go_simp; done) | (go_simp; with_reducible rfl)
        try simp only [Act.put, List.setIfInBounds_toArray, List.set_cons_zero, List.set_cons_succ, List.getElem_toArray, List.getElem_cons_zero, List.getElem_cons_succ]
        refine wpAnyH_take (i := 1) (v := ?v8x1) rfl (by kernel_rfl) (by kernel_rfl) (by kernel_rfl) (fun _ _ _ h => h) (Or.inl ⟨by rfl, ?h8x1⟩) hHeld ?r8x1
        case h8x1 => intro w9 hSw; (try dsimp only at hSw); first | (go_simp; done) | (go_simp; with_reducible rfl)
        try simp only [Act.put, List.setIfInBounds_toArray, List.set_cons_zero, List.set_cons_succ, List.getElem_toArray, List.getElem_cons_zero, List.getElem_cons_succ]
        refine wpAnyH_take (i := 2) (v := ?v8x2) rfl (by kernel_rfl) (by kernel_rfl) (by kernel_rfl) (fun _ _ _ h => h) (Or.inl ⟨by rfl, ?h8x2⟩) hHeld ?r8x2
        case h8x2 => intro w9 hSw; (try dsimp only at hSw); first | (go_simp; done) | (go_simp; with_reducible rfl)
        try simp only [Act.put, List.setIfInBounds_toArray, List.set_cons_zero, List.set_cons_succ, List.getElem_toArray, List.getElem_cons_zero, List.getElem_cons_succ]
        refine wpAnyH_take (i := 3) (v := ?v8x3) rfl (by kernel_rfl) (by kernel_rfl) (by kernel_rfl) (fun _ _ _ h => h) (Or.inl ⟨by rfl, ?h8x3⟩) hHeld ?r8x3
        case h8x3 => intro w9 hSw; (try dsimp only at hSw); first | (go_simp; done) | (go_simp; with_reducible rfl)
        try simp only [Act.put, List.setIfInBounds_toArray, List.set_cons_zero, List.set_cons_succ, List.getElem_toArray, List.getElem_cons_zero, List.getElem_cons_succ]
        refine wpAnyH_take (i := 4) (v := ?v8x4) rfl (by kernel_rfl) (by kernel_rfl) (by kernel_rfl) (fun _ _ _ h => h) (Or.inl ⟨by rfl, ?h8x4⟩) hHeld ?r8x4
        case h8x4 => intro w9 hSw; (try dsimp only at hSw); first | (go_simp; done) | (go_simp; with_reducible rfl)
        try simp only [Act.put, List.setIfInBounds_toArray, List.set_cons_zero, List.set_cons_succ, List.getElem_toArray, List.getElem_cons_zero, List.getElem_cons_succ]
        refine wpAnyH_take (i := 5) (v := ?v8x5) rfl (by kernel_rfl) (by kernel_rfl) (by kernel_rfl) (fun _ _ _ h => h) (Or.inl ⟨by rfl, ?h8x5⟩) hHeld ?r8x5
        case h8x5 => intro w9 hSw; (try dsimp only at hSw); first | (go_simp; done) | (go_simp; with_reducible rfl)
        try simp only [Act.put, List.setIfInBounds_toArray, List.set_cons_zero, List.set_cons_succ, List.getElem_toArray, List.getElem_cons_zero, List.getElem_cons_succ]
        refine wpAnyH_ready (rs := [6]) (by kernel_rfl) (by simp) (AllReadyH.cons rfl (fun K hK => ?_) (AllReadyH.nil))
        go_simp
        go_at_call 107
        refine (HFr.out _).mono ?_
        rintro e v1w ⟨rfl, hb⟩
        have P1_v0 := cell_later hb P0_v0
        have P1_v1 := cell_later hb P0_v1
        have P1_v2 := cell_later hb P0_v2
        have P1_v3 := cell_later hb P0_v3
        have P1_v4 := cell_later hb P0_v4
        have P1_v5 := cell_later hb P0_v5
        have P1_l0 := cell_later hb P0_l0
        have P1_l1 := cell_later hb P0_l1
        have P1_e0 := cell_later hb P0_e0
        have P1_e1 := cell_later hb P0_e1
        have P1_e2 := cell_later hb P0_e2
        have HB1 := hide (below_on HB0.out hb)
        have hz1 := hb.size
        clear hb
        refine hK.out _ _ ⟨P1_v0, P1_v1, P1_v2, P1_v3, P1_v4, P1_v5, P1_l0, P1_l1, P1_e0, P1_e1, P1_e2⟩ (fun _ => ?_)
        clear hK K P0_v0 P0_v1 P0_v2 P0_v3 P0_v4 P0_v5 P0_l0 P0_l1 P0_e0 P0_e1 P0_e2
        try simp only [Act.put, List.setIfInBounds_toArray, List.set_cons_zero, List.set_cons_succ, List.getElem_toArray, List.getElem_cons_zero, List.getElem_cons_succ]
        refine wpAnyH_ready (rs := [7]) (by kernel_rfl) (by simp) (AllReadyH.cons rfl (fun K hK => ?_) (AllReadyH.nil))
        go_simp
        go_at_call 106
        refine (HSn.out q3 k3 d3 _ (below_on BD.out HB1.out)).mono ?_
        rintro e v2w ⟨y6, z6, rfl, hb, ho⟩
        have P2_v0 := cell_later hb P1_v0
        have P2_v1 := cell_later hb P1_v1
        have P2_v2 := cell_later hb P1_v2
        have P2_v3 := cell_later hb P1_v3
        have P2_v4 := cell_later hb P1_v4
        have P2_v5 := cell_later hb P1_v5
        have P2_l0 := cell_later hb P1_l0
        have P2_l1 := cell_later hb P1_l1
        have P2_e0 := cell_later hb P1_e0
        have P2_e1 := cell_later hb P1_e1
        have P2_e2 := cell_later hb P1_e2
        have HB2 := hide (below_on HB1.out hb)
        have hz2 := hb.size
        have R6 := hide (RD.out.later HB2.out)
        obtain ⟨a6, k6, b6, j6, hy6, hz7⟩ := ho.shape
        obtain ⟨lp, hlp⟩ : ∃ x, pd.length = x := ⟨_, rfl⟩
        rw [HLv.out] at hy6
        rw [hlp] at hz7
        clear hlp
        subst hy6
        subst hz7
        have HFn := hide (ret_raft (r := w.heap.size + 1) (x0 := .int .i64 0) (x1 := .int .i64 a) (x2 := .int .i64 b) (x3 := .int .i64 i) (x4 := .int .i64 t) R6.out.below R6.out.ge ho (by have := HS3.out; omega))
        clear hb ho
        refine hK.out _ _ ⟨P2_v0, P2_v1, P2_v2, P2_v3, P2_v4, P2_v5, P2_l0, P2_l1, P2_e0, P2_e1, P2_e2⟩ (fun _ => ?_)
        clear hK K P1_v0 P1_v1 P1_v2 P1_v3 P1_v4 P1_v5 P1_l0 P1_l1 P1_e0 P1_e1 P1_e2
        try simp only [Act.put, List.setIfInBounds_toArray, List.set_cons_zero, List.set_cons_succ, List.getElem_toArray, List.getElem_cons_zero, List.getElem_cons_succ]
        refine wpAnyH_take (i := 8) (v := ?v8x8) rfl (by kernel_rfl) (by kernel_rfl) (by kernel_rfl) (fun _ _ _ h => h) (Or.inl ⟨by rfl, ?h8x8⟩) ⟨P2_v0, P2_v1, P2_v2, P2_v3, P2_v4, P2_v5, P2_l0, P2_l1, P2_e0, P2_e1, P2_e2⟩ ?r8x8
        case h8x8 => intro w9 hSw; (try dsimp only at hSw); first | (go_simp; done) | (go_simp; with_reducible rfl)
        try simp only [Act.put, List.setIfInBounds_toArray, List.set_cons_zero, List.set_cons_succ, List.getElem_toArray, List.getElem_cons_zero, List.getElem_cons_succ]
        refine wpAnyH_ready (rs := [9]) (by kernel_rfl) (by simp) (AllReadyH.cons rfl (fun K hK => ?_) (AllReadyH.nil))
        obtain ⟨_, ⟨c0, c1, c2, c3, c4, c5, c6⟩, F, _⟩ := R6.out
        have f0 := F 0
        have f1 := F 1
        have f2 := F 2
        have f3 := F 3
        have f4 := F 4
        have f5 := F 5
        have f6 := F 6
        clear F
        go_simp
        refine hK.out _ _ ?sh (fun _ => ?_)
        case sh => exact ⟨by simp [go_sem, P2_v0], by simp [go_sem, P2_v1], by simp [go_sem, P2_v2], by simp [go_sem, P2_v3], by simp [go_sem, P2_v4], by simp [go_sem, P2_v5], by simp [go_sem, P2_l0], by simp [go_sem, P2_l1], by simp [go_sem, P2_e0], by simp [go_sem, P2_e1], by simp [go_sem, P2_e2]⟩
        clear hK K
        try simp only [Act.put, List.setIfInBounds_toArray, List.set_cons_zero, List.set_cons_succ, List.getElem_toArray, List.getElem_cons_zero, List.getElem_cons_succ]
        refine wpAnyH_done (by kernel_rfl) ?_ _
        clear P2_v0 P2_v1 P2_v2 P2_v3 P2_v4 P2_v5 P2_l0 P2_l1 P2_e0 P2_e1 P2_e2
        go_wp2
        refine bodyPost_ret (v := .agg #[.int .i64 0, .int .i64 a, .int .i64 b, .int .i64 i, .int .i64 t, .slice a6 lv k6, .slice b6 lp j6]) (by simp [results, Tryz.results81, go_sem, c0, c1, c2, c3, c4, c5, c6]) rfl ⟨.slice a6 lv k6, .slice b6 lp j6, by simp only [HT.out], HFn.out.1, by simp only [HPq.out]; exact HFn.out.2⟩
  · obtain ⟨rfl, rfl⟩ := HBad.out h0
    have h0b : (C == 0) = false := by simpa using h0
    have h0c : (C != 0) = true := by simp [h0]
    clear h0
    have HFn := hide (ret_none (x0 := .int .i64 C) (x1 := .int .i64 0) (x2 := .int .i64 0) (x3 := .int .i64 0) (x4 := .int .i64 0) RB.out.below RB.out.ge)
    obtain ⟨_, ⟨c0, c1, c2, c3, c4, c5, c6⟩, F, _⟩ := RB.out
    have f0 := F 0
    have f1 := F 1
    have f2 := F 2
    have f3 := F 3
    have f4 := F 4
    have f5 := F 5
    have f6 := F 6
    clear F
    go_wp2
    refine bodyPost_ret (v := .agg #[.int .i64 C, .int .i64 0, .int .i64 0, .int .i64 0, .int .i64 0, .slice none 0 0, .slice none 0 0]) (by simp [results, Tryz.results81, go_sem, c0, c1, c2, c3, c4, c5, c6]) rfl ⟨_, _, rfl, HFn.out.1, HFn.out.2⟩
end Go.Proofs.YtlliggfggadidaaGreatDoor
namespace Go.Proofs.YtlliggfggadidaaGreatDoor
open Go.RowKit
end Go.Proofs.YtlliggfggadidaaGreatDoor
