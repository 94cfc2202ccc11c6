/- In2 in one text: what each says stands at its head below. -/
import Derived.Test.YtlliggfggadidaaGreatDoorG15
namespace Go.Proofs.YtlliggfggadidaaGreatDoor
open Go.RowKit
theorem iq_bad {r : Rf} {i t : Int} {xs : List Int} (h : rfF r ≠ 0) : inC r i t xs = rfF r ∧ inR r i t xs = rf0 := by
  have h2 := dfF_bad (xs := xs) h
  have h3 := in_bad (r := r) (i := i) (t := t) (xs := xs) (by rw [h2]; exact h)
  rw [h2] at h3; exact h3
theorem iq_data {r : Rf} {i t : Int} {xs : List Int} (h : rfF r = 0) (h' : daF xs ≠ 0) : inC r i t xs = daF xs ∧ inR r i t xs = rf0 := by
  have h2 := dfF_ok (xs := xs) h
  have h3 := in_bad (r := r) (i := i) (t := t) (xs := xs) (by rw [h2]; exact h')
  rw [h2] at h3; exact h3
theorem iq_rng {r : Rf} {i t : Int} {xs : List Int} (h : rfF r = 0) (h' : daF xs = 0) (h1 : ¬ ((1 ≤ i ∧ i ≤ 9999) ∧ 1 ≤ t ∧ t ≤ r.tm)) : inC r i t xs = 3 ∧ inR r i t xs = rf0 := in_rng (by rw [dfF_ok h]; exact h') h1
theorem iq_lo {r : Rf} {i t : Int} {xs : List Int} (h : rfF r = 0) (h' : daF xs = 0) (h1 : (1 ≤ i ∧ i ≤ 9999) ∧ 1 ≤ t ∧ t ≤ r.tm) (h2 : i ≤ r.si) : inC r i t xs = 6 ∧ inR r i t xs = rf0 := in_lo (by rw [dfF_ok h]; exact h') h1 h2
theorem iq_st {r : Rf} {i t : Int} {xs : List Int} (h : rfF r = 0) (h' : daF xs = 0) (h1 : (1 ≤ i ∧ i ≤ 9999) ∧ 1 ≤ t ∧ t ≤ r.tm) (h2 : ¬ i ≤ r.si) (h3 : t < r.st) : inC r i t xs = 10 ∧ inR r i t xs = rf0 := in_st (by rw [dfF_ok h]; exact h') h1 h2 h3
theorem iq_far {r : Rf} {i t : Int} {xs : List Int} (h : rfF r = 0) (h' : daF xs = 0) (h1 : (1 ≤ i ∧ i ≤ 9999) ∧ 1 ≤ t ∧ t ≤ r.tm) (h2 : r.si + (r.lg.length : Int) < i) (h3 : ¬ t < r.st) : inC r i t xs = 0 ∧ inR r i t xs = ⟨r.tm, r.vt, i, t, xs, []⟩ ∧ tmC r i = 4 := in_far (by rw [dfF_ok h]; exact h') h1 h2 h3
theorem iq_at {r : Rf} {i t : Int} {xs : List Int} (k : Nat) (h : rfF r = 0) (h' : daF xs = 0) (h1 : (1 ≤ i ∧ i ≤ 9999) ∧ 1 ≤ t ∧ t ≤ r.tm) (h2 : i - (r.si + 1) = (k : Int)) (h2' : k < r.lg.length) (h3 : ¬ t < r.st) : inC r i t xs = 0 ∧ inR r i t xs = ⟨r.tm, r.vt, i, t, xs, if tmV r i = t then r.lg.drop (k + 1) else []⟩ ∧ tmC r i = 0 := by
  obtain ⟨e1, e2, e3, e4, _⟩ := in_at (xs := xs) k (show dfF r xs = 0 by rw [dfF_ok h]; exact h') h1 h2 h2' h3
  exact ⟨e1, by rw [e2, e4], e3⟩
set_option linter.unusedSimpArgs false in
set_option maxHeartbeats 4000000 in
set_option maxRecDepth 4000 in
theorem specInstallRaft {S T U : Nat → Prop} {w : World} {y z v : Value} {xs : List Int} (r : Rf) (i t : Int) (hy : RdI S w y r.sn) (hz : RdJ T w z r.lg) (hcp : capE z) (hv : RdI U w v xs) :
    Calls Tryz.prog 48 #[.agg #[.int .i64 r.tm, .int .i64 r.vt, .int .i64 r.si, .int .i64 r.st, y, z], .int .i64 i, .int .i64 t, v] w (EndsRf (inC r i t xs) (inR r i t xs) w) := by
  obtain ⟨ay, cy, rfl⟩ := hy.shape
  obtain ⟨az, cz, rfl, _⟩ := hz.shape
  obtain ⟨av, cv, rfl⟩ := hv.shape
  have hcz : r.lg.length ≤ cz := hcp
  clear hcp
  have BA0 := below_on (below_alloc w (.cells #[.int .i64 r.tm, .int .i64 r.vt, .int .i64 r.si, .int .i64 r.st, .slice ay r.sn.length cy, .slice az r.lg.length cz] 27)) (below_alloc _ (.cells #[.int .i64 0, .int .i64 0, .int .i64 0, .int .i64 0, .int .i64 0, .slice none 0 0, .slice none 0 0] 79))
  have VA0 := (Var6_new w (.int .i64 r.tm) (.int .i64 r.vt) (.int .i64 r.si) (.int .i64 r.st) (.slice ay r.sn.length cy) (.slice az r.lg.length cz) 27).later (below_alloc _ (.cells #[.int .i64 0, .int .i64 0, .int .i64 0, .int .i64 0, .int .i64 0, .slice none 0 0, .slice none 0 0] 79))
  have RA := hide (Res7.start w (.cells #[.int .i64 r.tm, .int .i64 r.vt, .int .i64 r.si, .int .i64 r.st, .slice ay r.sn.length cy, .slice az r.lg.length cz] 27) 79)
  have HF := hide (l10Fault r VA0 (hy.later BA0) (hz.later BA0))
  have BA := hide BA0
  have VA := hide VA0
  clear BA0 VA0
  have HDa := hide (fun (w' : World) (hb : Below w.heap.size w w') => l10DataI (hv.later hb))
  have HTm := hide (fun (h : rfF r = 0) (w' : World) (hb : Below w.heap.size w w') (h6 : Var6 w' w.heap.size (.int .i64 r.tm) (.int .i64 r.vt) (.int .i64 r.si) (.int .i64 r.st) (.slice ay r.sn.length cy) (.slice az r.lg.length cz)) => l10TermI r i (rfF_iff.1 h) h6 ⟨ay, _, cy, rfl⟩ (hz.later hb))
  have HCp := hide (fun (h : rfF r = 0) (w' : World) (hb : Below w.heap.size w w') => l10CopyI r.tm r.vt r.si r.st (hy.later hb) (hz.later hb) (Nat.le_trans (rf_room h).1 (by decide)) (Nat.le_trans (rf_room h).2.1 (by decide)) (rf_room h).2.2)
  have HZ := hide hz
  have HV := hide hv
  have HRm := hide (@rf_room r)
  have HDl := hide (@daF_len xs)
  have HRs := hide (fun h : rfF r = 0 => (rfF_iff.1 h).rg.2.1)
  have HRa := hide (fun h : rfF r = 0 => (rfF_iff.1 h).rg.1.1)
  have HBad := hide (@iq_bad r i t xs)
  have HData := hide (@iq_data r i t xs)
  have HRng := hide (@iq_rng r i t xs)
  have HLo := hide (@iq_lo r i t xs)
  have HSt := hide (@iq_st r i t xs)
  have HFar := hide (@iq_far r i t xs)
  have HAt := hide (@iq_at r i t xs)
  obtain ⟨C, hC⟩ : ∃ C, inC r i t xs = C := ⟨_, rfl⟩
  obtain ⟨R, hR⟩ : ∃ R, inR r i t xs = R := ⟨_, rfl⟩
  rw [hC, hR] at HBad HData HRng HLo HSt HFar HAt ⊢
  obtain ⟨TV, hTV⟩ : ∃ x, tmV r i = x := ⟨_, rfl⟩
  obtain ⟨TC, hTC⟩ : ∃ x, tmC r i = x := ⟨_, rfl⟩
  rw [hTV, hTC] at HTm
  simp only [hTV, hTC] at HBad HData HRng HLo HSt HFar HAt
  clear hTV hTC
  obtain ⟨Z, hZ⟩ : ∃ Z, rfF r = Z := ⟨_, rfl⟩
  rw [hZ] at HF HTm HCp HRm HRs HRa HBad HData HRng HLo HSt HFar HAt
  obtain ⟨D, hD⟩ : ∃ D, daF xs = D := ⟨_, rfl⟩
  rw [hD] at HDa HDl
  simp only [hD] at HBad HData HRng HLo HSt HFar HAt
  clear hC hR hZ hD hy hz hv
  obtain ⟨ps, hps⟩ : ∃ ps, r.lg = ps := ⟨_, rfl⟩
  rw [hps] at HF HTm HCp HZ HRm BA VA RA hcz ⊢
  simp only [hps] at HBad HData HRng HLo HSt HFar HAt
  clear hps
  obtain ⟨m, hme⟩ : ∃ m, ps.length = m := ⟨_, rfl⟩
  have HME := hide hme
  rw [hme] at HF HTm HCp HZ HRm BA VA RA hcz ⊢
  simp only [hme] at HBad HData HRng HLo HSt HFar HAt
  clear hme
  generalize r.sn.length = l at *
  obtain ⟨lv, hlv⟩ : ∃ x, xs.length = x := ⟨_, rfl⟩
  have HLv := hide hlv
  rw [hlv] at HDa HV HDl ⊢
  clear hlv
  generalize r.tm = a at *
  generalize r.vt = b at *
  generalize r.si = c at *
  generalize r.st = d at *
  obtain ⟨W, hW⟩ : ∃ W, ((w.alloc (.cells #[.int .i64 a, .int .i64 b, .int .i64 c, .int .i64 d, .slice ay l cy, .slice az m cz] 27)).alloc (.cells #[.int .i64 0, .int .i64 0, .int .i64 0, .int .i64 0, .int .i64 0, .slice none 0 0, .slice none 0 0] 79)) = W := ⟨_, rfl⟩
  rw [hW] at BA VA RA HF
  obtain ⟨v0, v1, v2, v3, v4, v5⟩ := VA.out
  go_enter Tryz.func48, Tryz.ntmps48
  go_wp2_with fail
  clear hW
  refine HF.out.mono ?_
  rintro e w1 ⟨rfl, hb⟩
  have BB := hide (below_on BA.out hb)
  have VB := hide (VA.out.later hb)
  have RB := hide (RA.out.later hb)
  clear hb v0 v1 v2 v3 v4 v5 VA RA BA
  by_cases h0 : Z = 0
  · subst h0
    obtain ⟨_, hml, hll⟩ := HRm.out (by first | trivial | rfl)
    have HLL := hide hll
    clear hll
    have hrs := HRs.out (by first | trivial | rfl)
    have hra := HRa.out (by first | trivial | rfl)
    have HDb := hide (HDa.out _ BB.out)
    go_wp2_with fail
    refine HDb.out.mono ?_
    rintro e w2 ⟨rfl, qd, hw2⟩
    have hb : Below w1.heap.size w1 w2 := by rw [hw2]; exact below_drewN _ _
    clear hw2
    have BC := hide (below_on BB.out hb)
    have VC := hide (VB.out.later hb)
    have RC := hide (RB.out.later hb)
    clear hb VB RB BB HDb HDa
    by_cases hd : D = 0
    · subst hd
      have hdl := HDl.out (by first | trivial | rfl)
      obtain ⟨v0, v1, v2, v3, v4, v5⟩ := VC.out
      by_cases hix : 1 ≤ i ∧ i ≤ 9999
      · skip
        go_wp2_with fail
        refine (l9IndexY i hix.1 hix.2 _).mono ?_
        rintro e wi ⟨rfl, hwi⟩
        have hwj := hwi.symm
        clear hwi
        subst hwj
        go_wp2_with fail
        refine (l1InB t 1 a _).mono ?_
        rintro e wi ⟨rfl, hwi⟩
        have hwj := hwi.symm
        clear hwi
        subst hwj
        by_cases hta : 1 ≤ t ∧ t ≤ a
        · rw [inBq_yes hta]
          have H1 : Hid ((1 ≤ i ∧ i ≤ 9999) ∧ 1 ≤ t ∧ t ≤ a) := ⟨hix, hta⟩
          by_cases hlo : i ≤ c
          · obtain ⟨rfl, rfl⟩ := HLo.out (by first | trivial | rfl) (by first | trivial | rfl) H1.out hlo
            go_wp2_with fail
            refine (l10BadI 6 _).mono ?_
            rintro e wb ⟨rfl, hb⟩
            have RZ := hide (RC.out.later hb)
            clear hb
            have HFn := hide (ret_none (x0 := .int .i64 6) (x1 := .int .i64 0) (x2 := .int .i64 0) (x3 := .int .i64 0) (x4 := .int .i64 0) RZ.out.below RZ.out.ge)
            obtain ⟨_, ⟨c0, c1, c2, c3, c4, c5, c6⟩, F, _⟩ := RZ.out
            have f0 := F 0
            have f1 := F 1
            have f2 := F 2
            have f3 := F 3
            have f4 := F 4
            have f5 := F 5
            have f6 := F 6
            clear F
            go_wp2
            refine bodyPost_ret (v := .agg #[.int .i64 6, .int .i64 0, .int .i64 0, .int .i64 0, .int .i64 0, .slice none 0 0, .slice none 0 0]) (by simp [results, Tryz.results48, go_sem, c0, c1, c2, c3, c4, c5, c6]) rfl ⟨_, _, rfl, HFn.out.1, HFn.out.2⟩
          · by_cases hst : t < d
            · obtain ⟨rfl, rfl⟩ := HSt.out (by first | trivial | rfl) (by first | trivial | rfl) H1.out (by omega) hst
              go_wp2_with fail
              refine (l10BadI 10 _).mono ?_
              rintro e wb ⟨rfl, hb⟩
              have RZ := hide (RC.out.later hb)
              clear hb
              have HFn := hide (ret_none (x0 := .int .i64 10) (x1 := .int .i64 0) (x2 := .int .i64 0) (x3 := .int .i64 0) (x4 := .int .i64 0) RZ.out.below RZ.out.ge)
              obtain ⟨_, ⟨c0, c1, c2, c3, c4, c5, c6⟩, F, _⟩ := RZ.out
              have f0 := F 0
              have f1 := F 1
              have f2 := F 2
              have f3 := F 3
              have f4 := F 4
              have f5 := F 5
              have f6 := F 6
              clear F
              go_wp2
              refine bodyPost_ret (v := .agg #[.int .i64 10, .int .i64 0, .int .i64 0, .int .i64 0, .int .i64 0, .slice none 0 0, .slice none 0 0]) (by simp [results, Tryz.results48, go_sem, c0, c1, c2, c3, c4, c5, c6]) rfl ⟨_, _, rfl, HFn.out.1, HFn.out.2⟩
            · skip
              obtain ⟨v0, v1, v2, v3, v4, v5⟩ := VC.out
              have HCq := hide (HCp.out (by first | trivial | rfl) _ BC.out)
              go_wp2_with fail
              refine HCq.out.mono ?_
              rintro e w5 ⟨y5, z5, rfl, hb, ho⟩
              obtain ⟨a5, k5, g5, j5, hy5, hz5⟩ := ho.shape
              obtain ⟨l5, hl5⟩ : ∃ x, r.sn.length = x := ⟨_, rfl⟩
              obtain ⟨m5, hm5⟩ : ∃ x, ps.length = x := ⟨_, rfl⟩
              rw [hl5] at hy5
              rw [hm5] at hz5
              clear hl5 hm5
              subst hy5
              subst hz5
              have hbe := below_on hb (below_alloc w5 (.cells #[.int .i64 a, .int .i64 b, .int .i64 c, .int .i64 d, .slice a5 l5 k5, .slice g5 m5 j5] 27))
              have BF := hide (below_on BC.out hbe)
              have VF := hide (VC.out.later hbe)
              have RF := hide (RC.out.later hbe)
              have hr5 : w.heap.size + 1 < w5.heap.size := Nat.lt_of_lt_of_le RC.out.lt hb.size
              have NV := hide (Var6_new w5 (.int .i64 a) (.int .i64 b) (.int .i64 c) (.int .i64 d) (.slice a5 l5 k5) (.slice g5 m5 j5) 27)
              have NF : Hid (∀ o, (w5.alloc (.cells #[.int .i64 a, .int .i64 b, .int .i64 c, .int .i64 d, .slice a5 l5 k5, .slice g5 m5 j5] 27)).frozen? ⟨w5.heap.size, o, none⟩ = false) := fun o => by simp [go_sem]
              obtain ⟨W5, hW5⟩ : ∃ x, w5.alloc (.cells #[.int .i64 a, .int .i64 b, .int .i64 c, .int .i64 d, .slice a5 l5 k5, .slice g5 m5 j5] 27) = x := ⟨_, rfl⟩
              rw [hW5] at BF VF RF NV NF
              have hs5 : W5.heap.size = w5.heap.size + 1 := by rw [← hW5]; simp
              clear hb hbe ho v0 v1 v2 v3 v4 v5 HCq VC RC BC
              obtain ⟨n0, n1, n2, n3, n4, n5⟩ := NV.out
              have q5 := NF.out 5
              go_wp2_with fail
              (try rw [hW5])
              clear hW5
              refine forgetC (fun W7 => Var6 W7 w5.heap.size (.int .i64 a) (.int .i64 b) (.int .i64 c) (.int .i64 d) (.slice a5 l5 k5) (.slice none 0 0) ∧ (∀ o, W7.frozen? ⟨w5.heap.size, o, none⟩ = false) ∧ Res7 w W7 (w.heap.size + 1) ∧ Var6 W7 w.heap.size (.int .i64 a) (.int .i64 b) (.int .i64 c) (.int .i64 d) (.slice ay l cy) (.slice az m cz) ∧ W7.heap.size = W5.heap.size) ?s0 ?_
              case s0 =>
                have hw7 : Wr (fun x => x = w5.heap.size) W5 _ := Wr.setCell (p := ⟨w5.heap.size, 5, none⟩) (Wr.refl (fun x => x = w5.heap.size) _) rfl (.slice none 0 0)
                obtain ⟨g0, g1, g2, g3, g4, g5⟩ := VF.out
                have hv5 : w.heap.size < W5.heap.size := by omega
                have hv6 : ¬ (w.heap.size = w5.heap.size) := by omega
                refine ⟨⟨by simp [go_sem, n0], by simp [go_sem, n1], by simp [go_sem, n2], by simp [go_sem, n3], by simp [go_sem, n4], by simp [go_sem, n5]⟩, fun o => ?_, RF.out.wr hw7 (by omega) (fun b hb => by omega), ⟨(hw7.cell hv5 hv6).trans g0, (hw7.cell hv5 hv6).trans g1, (hw7.cell hv5 hv6).trans g2, (hw7.cell hv5 hv6).trans g3, (hw7.cell hv5 hv6).trans g4, (hw7.cell hv5 hv6).trans g5⟩, by simp⟩
                simp only [World.frozen?_setCell]; exact NF.out o
              clear n0 n1 n2 n3 n4 n5 q5 NV NF
              rintro W7 ⟨N7, F7, R7, V7, hs7⟩
              refine (HTm.out (by first | trivial | rfl) _ R7.below V7).mono ?_
              rintro e W8 ⟨rfl, qd, hw8⟩
              have hb : Below W7.heap.size W7 W8 := by rw [hw8]; exact below_drewN _ _
              have hs8 : W8.heap.size = w5.heap.size + 1 := by rw [hw8]; simp; omega
              have NV := hide (N7.later hb)
              have NF : Hid (∀ o, W8.frozen? ⟨w5.heap.size, o, none⟩ = false) := fun o => ((bcell hb).2 _ _ N7.lt).trans (F7 o)
              clear RF VF BF hs5
              have RF := hide (R7.later hb)
              have VF := hide (V7.later hb)
              have BF := hide RF.out.below
              have hs5 := hs8
              clear hb hw8 N7 F7 R7 V7 hs7 hs8
              have hW5 := trivial
              by_cases hhi : c + (m : Int) < i
              · obtain ⟨rfl, hRe, rfl⟩ := HFar.out (by first | trivial | rfl) (by first | trivial | rfl) H1.out (by omega) (by omega)
                subst hRe
                obtain ⟨n0, n1, n2, n3, n4, n5⟩ := NV.out
                have q2 := NF.out 2
                have q3 := NF.out 3
                go_wp2_with fail
                refine forgetC (fun W7 => Var6 W7 w5.heap.size (.int .i64 a) (.int .i64 b) (.int .i64 i) (.int .i64 t) (.slice a5 l5 k5) (.slice none 0 0) ∧ (∀ o, W7.frozen? ⟨w5.heap.size, o, none⟩ = false) ∧ Res7 w W7 (w.heap.size + 1) ∧ OwJ (fun b => w5.heap.size + 1 ≤ b ∧ b < W8.heap.size) W7 (.slice none 0 0) [] ∧ W7.heap.size = W8.heap.size) ?s7x1 ?_
                case s7x1 =>
                  have hw7 : Wr (fun x => x = w5.heap.size) W8 _ := (Wr.setCell (p := ⟨w5.heap.size, 3, none⟩) (Wr.setCell (p := ⟨w5.heap.size, 2, none⟩) (Wr.refl (fun x => x = w5.heap.size) _) rfl (.int .i64 i)) rfl (.int .i64 t))
                  refine ⟨⟨by simp [go_sem, n0], by simp [go_sem, n1], by simp [go_sem, n2], by simp [go_sem, n3], by simp [go_sem, n4], by simp [go_sem, n5]⟩, fun o => ?_, RF.out.wr hw7 (by omega) (fun b hb => by omega), (OwJ_nil _ _).wr hw7 (fun b hb e => by omega), by simp⟩
                  simp only [World.frozen?_setCell]; exact NF.out o
                clear n0 n1 n2 n3 n4 n5 q2 q3
                rintro W7 ⟨N7, F7, R7, J7, hs7⟩
                refine (l1Ints (HV.out.later R7.below) (by rw [HLv.out]; omega)).mono ?_
                rintro e w8 ⟨u8, rfl, hb, ho⟩
                obtain ⟨a8, k8, hu⟩ := ho.shape
                rw [HLv.out] at hu
                subst hu
                have N8 := hide (N7.later hb)
                have F8 : Hid (∀ o, w8.frozen? ⟨w5.heap.size, o, none⟩ = false) := fun o => ((bcell hb).2 _ _ N7.lt).trans (F7 o)
                have R8 := hide (R7.later hb)
                have hz8 := hb.size
                have HIv := hide (IvR_made2 (lo := w5.heap.size + 1) (w' := w8.setCell ⟨w5.heap.size, 4, none⟩ (.slice a8 lv k8)) (J7.wr (Wr.of_below hb fun _ => False) (fun _ _ => id)) (ho.low (by omega)) (Nat.le_refl _) (by omega) (by omega) (Wr.setCell (p := ⟨w5.heap.size, 4, none⟩) (Wr.refl (fun b => b < w5.heap.size + 1) _) (by simp) _))
                have HFn := hide (ret_raft (r := w.heap.size + 1) (x0 := .int .i64 0) (x1 := .int .i64 a) (x2 := .int .i64 b) (x3 := .int .i64 i) (x4 := .int .i64 t) (R8.out.below.setCell (p := ⟨w5.heap.size, 4, none⟩) (by simp; omega) (.slice a8 lv k8)) R8.out.ge HIv.out (by omega))
                clear hb ho N7 F7 R7 J7 HIv
                obtain ⟨n0, n1, n2, n3, n4, n5⟩ := N8.out
                have q4 := F8.out 4
                obtain ⟨_, ⟨c0, c1, c2, c3, c4, c5, c6⟩, F, _⟩ := R8.out
                have f0 := F 0
                have f1 := F 1
                have f2 := F 2
                have f3 := F 3
                have f4 := F 4
                have f5 := F 5
                have f6 := F 6
                clear F
                go_wp2
                refine bodyPost_ret (v := .agg #[.int .i64 0, .int .i64 a, .int .i64 b, .int .i64 i, .int .i64 t, .slice a8 lv k8, .slice none 0 0]) (by simp [results, Tryz.results48, go_sem, c0, c1, c2, c3, c4, c5, c6]) rfl ⟨_, _, rfl, HFn.out.1, HFn.out.2⟩
              · obtain ⟨kk, hkk⟩ : ∃ kk : Nat, i - (c + 1) = (kk : Int) := ⟨(i - (c + 1)).toNat, by omega⟩
                have hkm : kk < m := by omega
                obtain ⟨rfl, hRe, rfl⟩ := HAt.out kk (by first | trivial | rfl) (by first | trivial | rfl) H1.out hkk hkm (by omega)
                obtain ⟨g, hg⟩ : ∃ g, kk + 1 = g := ⟨_, rfl⟩
                have hgm : g ≤ m := by omega
                have e1 : IntKind.i64.wrap (i - c) = (g : Int) := by rw [show i - c = (g : Int) by omega]; simp [IntKind.wrap, IntKind.bits, IntKind.signed]; omega
                have hg0 : (0 : Int) ≤ (g : Int) := by omega
                have hg1 : (g : Int) ≤ (m : Int) := by omega
                have HGe := hide hg
                clear hg hkk hkm HAt HFar HSt HLo HRng HBad HData
                by_cases hte : TV = t
                · subst hte
                  rw [if_pos rfl] at hRe
                  subst hRe
                  have HLq : Hid (∀ j, j < (ps.drop g).length → ((ps.drop g).getD j oj0).2.2.length ≤ 1048576) := fun j hj => by
                    have e : (ps.drop g).getD j oj0 = ps.getD (g + j) oj0 := by simp [List.getD, List.getElem?_drop]
                    rw [e]
                    exact HLL.out _ (by have := HME.out; simp at hj; omega)
                  have HLl : Hid ((ps.drop g).length ≤ 1048576) := by have := HME.out; show (ps.drop g).length ≤ 1048576; simp; omega
                  have HRd := hide ((HZ.out.later BF.out).fromE g hgm hcz)
                  obtain ⟨pd, hpd⟩ : ∃ x, ps.drop g = x := ⟨_, rfl⟩
                  rw [hpd] at HLq HLl HRd
                  have HPq : Hid (ps.drop (kk + 1) = pd) := by show ps.drop (kk + 1) = pd; rw [HGe.out, hpd]
                  clear hpd
                  obtain ⟨v0, v1, v2, v3, v4, v5⟩ := VF.out
                  obtain ⟨n0, n1, n2, n3, n4, n5⟩ := NV.out
                  by_cases hck : cz = g
                  · subst hck
                    have hA : slE az cz cz = az := by simp [slE]
                    rw [hA] at HRd
                    clear hA
                    have e6 : cz = m := by omega
                    subst e6
                    rw [Nat.sub_self] at HRd
                    go_wp2_with fail
                    (try rw [hW5])
                    clear hW5
                    refine (l9Copy HRd.out HLl.out HLq.out).mono ?_
                    rintro e w6 ⟨u, rfl, hb, hbu⟩
                    have HJ := hide (hbu.ow rfl (by have := HLl.out; omega))
                    obtain ⟨g6, j6, hu⟩ := hbu.shape
                    obtain ⟨lp, hlp⟩ : ∃ x, pd.length = x := ⟨_, rfl⟩
                    rw [hlp] at hu
                    clear hlp
                    subst hu
                    have BG := hide (below_on BF.out hb)
                    have RG := hide (RF.out.later hb)
                    have NG := hide (NV.out.later hb)
                    have FG : Hid (∀ o, w6.frozen? ⟨w5.heap.size, o, none⟩ = false) := fun o => ((bcell hb).2 _ _ NV.out.lt).trans (NF.out o)
                    have hz6 := hb.size
                    rw [hs5] at HJ
                    clear hb hbu v0 v1 v2 v3 v4 v5 n0 n1 n2 n3 n4 n5 VF RF NV NF BF
                    obtain ⟨n0, n1, n2, n3, n4, n5⟩ := NG.out
                    have q2 := FG.out 2
                    have q3 := FG.out 3
                    have q5 := FG.out 5
                    go_wp2_with fail
                    refine forgetC (fun W7 => Var6 W7 w5.heap.size (.int .i64 a) (.int .i64 b) (.int .i64 i) (.int .i64 TV) (.slice a5 l5 k5) (.slice g6 lp j6) ∧ (∀ o, W7.frozen? ⟨w5.heap.size, o, none⟩ = false) ∧ Res7 w W7 (w.heap.size + 1) ∧ OwJ (fun b => w5.heap.size + 1 ≤ b ∧ b < w6.heap.size) W7 (.slice g6 lp j6) pd ∧ W7.heap.size = w6.heap.size) ?s7x2 ?_
                    case s7x2 =>
                      have hw7 : Wr (fun x => x = w5.heap.size) w6 _ := (Wr.setCell (p := ⟨w5.heap.size, 3, none⟩) (Wr.setCell (p := ⟨w5.heap.size, 2, none⟩) (Wr.setCell (p := ⟨w5.heap.size, 5, none⟩) (Wr.refl (fun x => x = w5.heap.size) _) rfl (.slice g6 lp j6)) rfl (.int .i64 i)) rfl (.int .i64 TV))
                      refine ⟨⟨by simp [go_sem, n0], by simp [go_sem, n1], by simp [go_sem, n2], by simp [go_sem, n3], by simp [go_sem, n4], by simp [go_sem, n5]⟩, fun o => ?_, RG.out.wr hw7 (by omega) (fun b hb => by omega), HJ.out.wr hw7 (fun b hb e => by omega), by simp⟩
                      simp only [World.frozen?_setCell]; exact FG.out o
                    clear n0 n1 n2 n3 n4 n5 q2 q3 q5
                    rintro W7 ⟨N7, F7, R7, J7, hs7⟩
                    refine (l1Ints (HV.out.later R7.below) (by rw [HLv.out]; omega)).mono ?_
                    rintro e w8 ⟨u8, rfl, hb, ho⟩
                    obtain ⟨a8, k8, hu⟩ := ho.shape
                    rw [HLv.out] at hu
                    subst hu
                    have N8 := hide (N7.later hb)
                    have F8 : Hid (∀ o, w8.frozen? ⟨w5.heap.size, o, none⟩ = false) := fun o => ((bcell hb).2 _ _ N7.lt).trans (F7 o)
                    have R8 := hide (R7.later hb)
                    have hz8 := hb.size
                    have HIv := hide (IvR_made2 (lo := w5.heap.size + 1) (w' := w8.setCell ⟨w5.heap.size, 4, none⟩ (.slice a8 lv k8)) (J7.wr (Wr.of_below hb fun _ => False) (fun _ _ => id)) (ho.low (by omega)) (Nat.le_refl _) (by omega) (by omega) (Wr.setCell (p := ⟨w5.heap.size, 4, none⟩) (Wr.refl (fun b => b < w5.heap.size + 1) _) (by simp) _))
                    have HFn := hide (ret_raft (r := w.heap.size + 1) (x0 := .int .i64 0) (x1 := .int .i64 a) (x2 := .int .i64 b) (x3 := .int .i64 i) (x4 := .int .i64 TV) (R8.out.below.setCell (p := ⟨w5.heap.size, 4, none⟩) (by simp; omega) (.slice a8 lv k8)) R8.out.ge HIv.out (by omega))
                    clear hb ho N7 F7 R7 J7 HIv
                    obtain ⟨n0, n1, n2, n3, n4, n5⟩ := N8.out
                    have q4 := F8.out 4
                    obtain ⟨_, ⟨c0, c1, c2, c3, c4, c5, c6⟩, F, _⟩ := R8.out
                    have f0 := F 0
                    have f1 := F 1
                    have f2 := F 2
                    have f3 := F 3
                    have f4 := F 4
                    have f5 := F 5
                    have f6 := F 6
                    clear F
                    go_wp2
                    refine bodyPost_ret (v := .agg #[.int .i64 0, .int .i64 a, .int .i64 b, .int .i64 i, .int .i64 TV, .slice a8 lv k8, .slice g6 lp j6]) (by simp [results, Tryz.results48, go_sem, c0, c1, c2, c3, c4, c5, c6]) rfl ⟨_, _, rfl, HFn.out.1, by simp only [HPq.out]; exact HFn.out.2⟩
                  · have hA : slE az cz g = Option.map (fun x => x.add (g * 3)) az := by simp [slE, hck]
                    rw [hA] at HRd
                    clear hA
                    go_wp2_with fail
                    (try rw [hW5])
                    clear hW5
                    refine (l9Copy HRd.out HLl.out HLq.out).mono ?_
                    rintro e w6 ⟨u, rfl, hb, hbu⟩
                    have HJ := hide (hbu.ow rfl (by have := HLl.out; omega))
                    obtain ⟨g6, j6, hu⟩ := hbu.shape
                    obtain ⟨lp, hlp⟩ : ∃ x, pd.length = x := ⟨_, rfl⟩
                    rw [hlp] at hu
                    clear hlp
                    subst hu
                    have BG := hide (below_on BF.out hb)
                    have RG := hide (RF.out.later hb)
                    have NG := hide (NV.out.later hb)
                    have FG : Hid (∀ o, w6.frozen? ⟨w5.heap.size, o, none⟩ = false) := fun o => ((bcell hb).2 _ _ NV.out.lt).trans (NF.out o)
                    have hz6 := hb.size
                    rw [hs5] at HJ
                    clear hb hbu v0 v1 v2 v3 v4 v5 n0 n1 n2 n3 n4 n5 VF RF NV NF BF
                    obtain ⟨n0, n1, n2, n3, n4, n5⟩ := NG.out
                    have q2 := FG.out 2
                    have q3 := FG.out 3
                    have q5 := FG.out 5
                    go_wp2_with fail
                    refine forgetC (fun W7 => Var6 W7 w5.heap.size (.int .i64 a) (.int .i64 b) (.int .i64 i) (.int .i64 TV) (.slice a5 l5 k5) (.slice g6 lp j6) ∧ (∀ o, W7.frozen? ⟨w5.heap.size, o, none⟩ = false) ∧ Res7 w W7 (w.heap.size + 1) ∧ OwJ (fun b => w5.heap.size + 1 ≤ b ∧ b < w6.heap.size) W7 (.slice g6 lp j6) pd ∧ W7.heap.size = w6.heap.size) ?s7x3 ?_
                    case s7x3 =>
                      have hw7 : Wr (fun x => x = w5.heap.size) w6 _ := (Wr.setCell (p := ⟨w5.heap.size, 3, none⟩) (Wr.setCell (p := ⟨w5.heap.size, 2, none⟩) (Wr.setCell (p := ⟨w5.heap.size, 5, none⟩) (Wr.refl (fun x => x = w5.heap.size) _) rfl (.slice g6 lp j6)) rfl (.int .i64 i)) rfl (.int .i64 TV))
                      refine ⟨⟨by simp [go_sem, n0], by simp [go_sem, n1], by simp [go_sem, n2], by simp [go_sem, n3], by simp [go_sem, n4], by simp [go_sem, n5]⟩, fun o => ?_, RG.out.wr hw7 (by omega) (fun b hb => by omega), HJ.out.wr hw7 (fun b hb e => by omega), by simp⟩
                      simp only [World.frozen?_setCell]; exact FG.out o
                    clear n0 n1 n2 n3 n4 n5 q2 q3 q5
                    rintro W7 ⟨N7, F7, R7, J7, hs7⟩
                    refine (l1Ints (HV.out.later R7.below) (by rw [HLv.out]; omega)).mono ?_
                    rintro e w8 ⟨u8, rfl, hb, ho⟩
                    obtain ⟨a8, k8, hu⟩ := ho.shape
                    rw [HLv.out] at hu
                    subst hu
                    have N8 := hide (N7.later hb)
                    have F8 : Hid (∀ o, w8.frozen? ⟨w5.heap.size, o, none⟩ = false) := fun o => ((bcell hb).2 _ _ N7.lt).trans (F7 o)
                    have R8 := hide (R7.later hb)
                    have hz8 := hb.size
                    have HIv := hide (IvR_made2 (lo := w5.heap.size + 1) (w' := w8.setCell ⟨w5.heap.size, 4, none⟩ (.slice a8 lv k8)) (J7.wr (Wr.of_below hb fun _ => False) (fun _ _ => id)) (ho.low (by omega)) (Nat.le_refl _) (by omega) (by omega) (Wr.setCell (p := ⟨w5.heap.size, 4, none⟩) (Wr.refl (fun b => b < w5.heap.size + 1) _) (by simp) _))
                    have HFn := hide (ret_raft (r := w.heap.size + 1) (x0 := .int .i64 0) (x1 := .int .i64 a) (x2 := .int .i64 b) (x3 := .int .i64 i) (x4 := .int .i64 TV) (R8.out.below.setCell (p := ⟨w5.heap.size, 4, none⟩) (by simp; omega) (.slice a8 lv k8)) R8.out.ge HIv.out (by omega))
                    clear hb ho N7 F7 R7 J7 HIv
                    obtain ⟨n0, n1, n2, n3, n4, n5⟩ := N8.out
                    have q4 := F8.out 4
                    obtain ⟨_, ⟨c0, c1, c2, c3, c4, c5, c6⟩, F, _⟩ := R8.out
                    have f0 := F 0
                    have f1 := F 1
                    have f2 := F 2
                    have f3 := F 3
                    have f4 := F 4
                    have f5 := F 5
                    have f6 := F 6
                    clear F
                    go_wp2
                    refine bodyPost_ret (v := .agg #[.int .i64 0, .int .i64 a, .int .i64 b, .int .i64 i, .int .i64 TV, .slice a8 lv k8, .slice g6 lp j6]) (by simp [results, Tryz.results48, go_sem, c0, c1, c2, c3, c4, c5, c6]) rfl ⟨_, _, rfl, HFn.out.1, by simp only [HPq.out]; exact HFn.out.2⟩
                · rw [if_neg hte] at hRe
                  subst hRe
                  have hte2 : (TV == t) = false := by simpa using hte
                  obtain ⟨n0, n1, n2, n3, n4, n5⟩ := NV.out
                  have q2 := NF.out 2
                  have q3 := NF.out 3
                  go_wp2_with fail
                  refine forgetC (fun W7 => Var6 W7 w5.heap.size (.int .i64 a) (.int .i64 b) (.int .i64 i) (.int .i64 t) (.slice a5 l5 k5) (.slice none 0 0) ∧ (∀ o, W7.frozen? ⟨w5.heap.size, o, none⟩ = false) ∧ Res7 w W7 (w.heap.size + 1) ∧ OwJ (fun b => w5.heap.size + 1 ≤ b ∧ b < W8.heap.size) W7 (.slice none 0 0) [] ∧ W7.heap.size = W8.heap.size) ?s7x4 ?_
                  case s7x4 =>
                    have hw7 : Wr (fun x => x = w5.heap.size) W8 _ := (Wr.setCell (p := ⟨w5.heap.size, 3, none⟩) (Wr.setCell (p := ⟨w5.heap.size, 2, none⟩) (Wr.refl (fun x => x = w5.heap.size) _) rfl (.int .i64 i)) rfl (.int .i64 t))
                    refine ⟨⟨by simp [go_sem, n0], by simp [go_sem, n1], by simp [go_sem, n2], by simp [go_sem, n3], by simp [go_sem, n4], by simp [go_sem, n5]⟩, fun o => ?_, RF.out.wr hw7 (by omega) (fun b hb => by omega), (OwJ_nil _ _).wr hw7 (fun b hb e => by omega), by simp⟩
                    simp only [World.frozen?_setCell]; exact NF.out o
                  clear n0 n1 n2 n3 n4 n5 q2 q3
                  rintro W7 ⟨N7, F7, R7, J7, hs7⟩
                  refine (l1Ints (HV.out.later R7.below) (by rw [HLv.out]; omega)).mono ?_
                  rintro e w8 ⟨u8, rfl, hb, ho⟩
                  obtain ⟨a8, k8, hu⟩ := ho.shape
                  rw [HLv.out] at hu
                  subst hu
                  have N8 := hide (N7.later hb)
                  have F8 : Hid (∀ o, w8.frozen? ⟨w5.heap.size, o, none⟩ = false) := fun o => ((bcell hb).2 _ _ N7.lt).trans (F7 o)
                  have R8 := hide (R7.later hb)
                  have hz8 := hb.size
                  have HIv := hide (IvR_made2 (lo := w5.heap.size + 1) (w' := w8.setCell ⟨w5.heap.size, 4, none⟩ (.slice a8 lv k8)) (J7.wr (Wr.of_below hb fun _ => False) (fun _ _ => id)) (ho.low (by omega)) (Nat.le_refl _) (by omega) (by omega) (Wr.setCell (p := ⟨w5.heap.size, 4, none⟩) (Wr.refl (fun b => b < w5.heap.size + 1) _) (by simp) _))
                  have HFn := hide (ret_raft (r := w.heap.size + 1) (x0 := .int .i64 0) (x1 := .int .i64 a) (x2 := .int .i64 b) (x3 := .int .i64 i) (x4 := .int .i64 t) (R8.out.below.setCell (p := ⟨w5.heap.size, 4, none⟩) (by simp; omega) (.slice a8 lv k8)) R8.out.ge HIv.out (by omega))
                  clear hb ho N7 F7 R7 J7 HIv
                  obtain ⟨n0, n1, n2, n3, n4, n5⟩ := N8.out
                  have q4 := F8.out 4
                  obtain ⟨_, ⟨c0, c1, c2, c3, c4, c5, c6⟩, F, _⟩ := R8.out
                  have f0 := F 0
                  have f1 := F 1
                  have f2 := F 2
                  have f3 := F 3
                  have f4 := F 4
                  have f5 := F 5
                  have f6 := F 6
                  clear F
                  go_wp2
                  refine bodyPost_ret (v := .agg #[.int .i64 0, .int .i64 a, .int .i64 b, .int .i64 i, .int .i64 t, .slice a8 lv k8, .slice none 0 0]) (by simp [results, Tryz.results48, go_sem, c0, c1, c2, c3, c4, c5, c6]) rfl ⟨_, _, rfl, HFn.out.1, HFn.out.2⟩
        · rw [inBq_no hta]
          obtain ⟨rfl, rfl⟩ := HRng.out (by first | trivial | rfl) (by first | trivial | rfl) (fun h => hta h.2)
          clear hta
          go_wp2_with fail
          refine (l10BadI 3 _).mono ?_
          rintro e wb ⟨rfl, hb⟩
          have RZ := hide (RC.out.later hb)
          clear hb
          have HFn := hide (ret_none (x0 := .int .i64 3) (x1 := .int .i64 0) (x2 := .int .i64 0) (x3 := .int .i64 0) (x4 := .int .i64 0) RZ.out.below RZ.out.ge)
          obtain ⟨_, ⟨c0, c1, c2, c3, c4, c5, c6⟩, F, _⟩ := RZ.out
          have f0 := F 0
          have f1 := F 1
          have f2 := F 2
          have f3 := F 3
          have f4 := F 4
          have f5 := F 5
          have f6 := F 6
          clear F
          go_wp2
          refine bodyPost_ret (v := .agg #[.int .i64 3, .int .i64 0, .int .i64 0, .int .i64 0, .int .i64 0, .slice none 0 0, .slice none 0 0]) (by simp [results, Tryz.results48, go_sem, c0, c1, c2, c3, c4, c5, c6]) rfl ⟨_, _, rfl, HFn.out.1, HFn.out.2⟩
      · obtain ⟨rfl, rfl⟩ := HRng.out (by first | trivial | rfl) (by first | trivial | rfl) (fun h => hix h.1)
        go_wp2_with fail
        refine (l9IndexN i hix _).mono ?_
        rintro e wi ⟨rfl, hwi⟩
        have hwj := hwi.symm
        clear hwi hix
        subst hwj
        go_wp2_with fail
        refine (l10BadI 3 _).mono ?_
        rintro e wb ⟨rfl, hb⟩
        have RZ := hide (RC.out.later hb)
        clear hb
        have HFn := hide (ret_none (x0 := .int .i64 3) (x1 := .int .i64 0) (x2 := .int .i64 0) (x3 := .int .i64 0) (x4 := .int .i64 0) RZ.out.below RZ.out.ge)
        obtain ⟨_, ⟨c0, c1, c2, c3, c4, c5, c6⟩, F, _⟩ := RZ.out
        have f0 := F 0
        have f1 := F 1
        have f2 := F 2
        have f3 := F 3
        have f4 := F 4
        have f5 := F 5
        have f6 := F 6
        clear F
        go_wp2
        refine bodyPost_ret (v := .agg #[.int .i64 3, .int .i64 0, .int .i64 0, .int .i64 0, .int .i64 0, .slice none 0 0, .slice none 0 0]) (by simp [results, Tryz.results48, go_sem, c0, c1, c2, c3, c4, c5, c6]) rfl ⟨_, _, rfl, HFn.out.1, HFn.out.2⟩
    · obtain ⟨rfl, rfl⟩ := HData.out (by first | trivial | rfl) hd
      have h0b : (C == 0) = false := by simpa using hd
      have h0c : (C != 0) = true := by simp [hd]
      clear hd
      go_wp2_with fail
      refine (l10BadI C _).mono ?_
      rintro e wb ⟨rfl, hb⟩
      have RZ := hide (RC.out.later hb)
      clear hb
      have HFn := hide (ret_none (x0 := .int .i64 C) (x1 := .int .i64 0) (x2 := .int .i64 0) (x3 := .int .i64 0) (x4 := .int .i64 0) RZ.out.below RZ.out.ge)
      obtain ⟨_, ⟨c0, c1, c2, c3, c4, c5, c6⟩, F, _⟩ := RZ.out
      have f0 := F 0
      have f1 := F 1
      have f2 := F 2
      have f3 := F 3
      have f4 := F 4
      have f5 := F 5
      have f6 := F 6
      clear F
      go_wp2
      refine bodyPost_ret (v := .agg #[.int .i64 C, .int .i64 0, .int .i64 0, .int .i64 0, .int .i64 0, .slice none 0 0, .slice none 0 0]) (by simp [results, Tryz.results48, go_sem, c0, c1, c2, c3, c4, c5, c6]) rfl ⟨_, _, rfl, HFn.out.1, HFn.out.2⟩
  · obtain ⟨rfl, rfl⟩ := HBad.out h0
    have h0b : (C == 0) = false := by simpa using h0
    have h0c : (C != 0) = true := by simp [h0]
    clear h0
    go_wp2_with fail
    refine (l10BadI C _).mono ?_
    rintro e wb ⟨rfl, hb⟩
    have RZ := hide (RB.out.later hb)
    clear hb
    have HFn := hide (ret_none (x0 := .int .i64 C) (x1 := .int .i64 0) (x2 := .int .i64 0) (x3 := .int .i64 0) (x4 := .int .i64 0) RZ.out.below RZ.out.ge)
    obtain ⟨_, ⟨c0, c1, c2, c3, c4, c5, c6⟩, F, _⟩ := RZ.out
    have f0 := F 0
    have f1 := F 1
    have f2 := F 2
    have f3 := F 3
    have f4 := F 4
    have f5 := F 5
    have f6 := F 6
    clear F
    go_wp2
    refine bodyPost_ret (v := .agg #[.int .i64 C, .int .i64 0, .int .i64 0, .int .i64 0, .int .i64 0, .slice none 0 0, .slice none 0 0]) (by simp [results, Tryz.results48, go_sem, c0, c1, c2, c3, c4, c5, c6]) rfl ⟨_, _, rfl, HFn.out.1, HFn.out.2⟩
end Go.Proofs.YtlliggfggadidaaGreatDoor
