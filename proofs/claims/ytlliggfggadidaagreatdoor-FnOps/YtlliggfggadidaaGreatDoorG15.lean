/- In1 in one text: what each says stands at its head below. -/
import Derived.Test.YtlliggfggadidaaGreatDoorG14
namespace Go.Proofs.YtlliggfggadidaaGreatDoor
open Go.RowKit
theorem run_eql_iface_nilR {P : Program} (w : World) {ti : TypeId} {ms : Array (String × TypeId)} (tp : TypeId) (v : Value) (hi : P.underlying ti = some (.interface ms)) :
    (binOp .eql ti (.iface tp v) .nilIface).run P w = .ok (.bool false) w := by
  have h : ∀ d : Nat, (Op.equalIn (d + 1) ti (.iface tp v) .nilIface).run P w = .ok false w := fun d => by simp [Op.equalIn, run_underlying hi]
  simp only [binOp]
  simp [Op.equal, Op.maxDepth, h 9999]
theorem run_eql_nil_nilR {P : Program} (w : World) {ti : TypeId} {ms : Array (String × TypeId)} (hi : P.underlying ti = some (.interface ms)) :
    (binOp .eql ti .nilIface .nilIface).run P w = .ok (.bool true) w := by
  have h : ∀ d : Nat, (Op.equalIn (d + 1) ti .nilIface .nilIface).run P w = .ok true w := fun d => by simp [Op.equalIn, run_underlying hi]
  simp only [binOp]
  simp [Op.equal, Op.maxDepth, h 9999]
theorem RdJ_nilR (w : World) : RdJ (fun _ => False) w (.slice none 0 0) [] := (OwJ_nil (fun _ => False) w).rd
theorem in_bad {r : Rf} {i t : Int} {xs : List Int} (h : dfF r xs ≠ 0) : inC r i t xs = dfF r xs ∧ inR r i t xs = rf0 := by
  have hc : inC r i t xs = dfF r xs := by
    unfold inC dfF
    by_cases h0 : rfF r = 0
    · have h1 : daF xs ≠ 0 := by rw [dfF_ok h0] at h; exact h
      simp [h0, h1]
    · simp [h0]
  exact ⟨hc, by unfold inR; rw [if_neg (by rw [hc]; exact h)]⟩
theorem in_rng {r : Rf} {i t : Int} {xs : List Int} (h : dfF r xs = 0) (h1 : ¬ ((1 ≤ i ∧ i ≤ 9999) ∧ 1 ≤ t ∧ t ≤ r.tm)) : inC r i t xs = 3 ∧ inR r i t xs = rf0 := by
  have hc : inC r i t xs = 3 := by unfold inC; rw [if_neg (by simp [(df_zero h).1]), if_neg (by simp [(df_zero h).2]), if_pos h1]
  exact ⟨hc, by unfold inR; rw [if_neg (by rw [hc]; decide)]⟩
theorem in_lo {r : Rf} {i t : Int} {xs : List Int} (h : dfF r xs = 0) (h1 : (1 ≤ i ∧ i ≤ 9999) ∧ 1 ≤ t ∧ t ≤ r.tm) (h2 : i ≤ r.si) : inC r i t xs = 6 ∧ inR r i t xs = rf0 := by
  have hc : inC r i t xs = 6 := by unfold inC; rw [if_neg (by simp [(df_zero h).1]), if_neg (by simp [(df_zero h).2]), if_neg (fun h => h h1), if_pos h2]
  exact ⟨hc, by unfold inR; rw [if_neg (by rw [hc]; decide)]⟩
theorem in_st {r : Rf} {i t : Int} {xs : List Int} (h : dfF r xs = 0) (h1 : (1 ≤ i ∧ i ≤ 9999) ∧ 1 ≤ t ∧ t ≤ r.tm) (h2 : ¬ i ≤ r.si) (h3 : t < r.st) : inC r i t xs = 10 ∧ inR r i t xs = rf0 := by
  have hc : inC r i t xs = 10 := by unfold inC; rw [if_neg (by simp [(df_zero h).1]), if_neg (by simp [(df_zero h).2]), if_neg (fun h => h h1), if_neg h2, if_pos h3]
  exact ⟨hc, by unfold inR; rw [if_neg (by rw [hc]; decide)]⟩
theorem in_ok {r : Rf} {i t : Int} {xs : List Int} (h : dfF r xs = 0) (h1 : (1 ≤ i ∧ i ≤ 9999) ∧ 1 ≤ t ∧ t ≤ r.tm) (h2 : ¬ i ≤ r.si) (h3 : ¬ t < r.st) : inC r i t xs = 0 ∧ inR r i t xs = ⟨r.tm, r.vt, i, t, xs, if tmC r i = 0 ∧ tmV r i = t then r.lg.drop (i - r.si).toNat else []⟩ := by
  have hc : inC r i t xs = 0 := by unfold inC; rw [if_neg (by simp [(df_zero h).1]), if_neg (by simp [(df_zero h).2]), if_neg (fun h => h h1), if_neg h2, if_neg h3]
  exact ⟨hc, by unfold inR; rw [if_pos hc]⟩
theorem in_far {r : Rf} {i t : Int} {xs : List Int} (h : dfF r xs = 0) (h1 : (1 ≤ i ∧ i ≤ 9999) ∧ 1 ≤ t ∧ t ≤ r.tm) (h2 : r.si + (r.lg.length : Int) < i) (h3 : ¬ t < r.st) : inC r i t xs = 0 ∧ inR r i t xs = ⟨r.tm, r.vt, i, t, xs, []⟩ ∧ tmC r i = 4 := by
  have hl : lastR r = r.si + (r.lg.length : Int) := rfl
  have ht : tmC r i = 4 := by unfold tmC; rw [if_neg (by omega), if_pos (by omega)]
  obtain ⟨e1, e2⟩ := in_ok (xs := xs) h h1 (by omega) h3
  refine ⟨e1, ?_, ht⟩
  rw [e2, if_neg (by rw [ht]; rintro ⟨h, _⟩; cases h)]
theorem in_at {r : Rf} {i t : Int} {xs : List Int} (k : Nat) (h : dfF r xs = 0) (h1 : (1 ≤ i ∧ i ≤ 9999) ∧ 1 ≤ t ∧ t ≤ r.tm) (h2 : i - (r.si + 1) = (k : Int)) (h2' : k < r.lg.length) (h3 : ¬ t < r.st) : inC r i t xs = 0 ∧ inR r i t xs = ⟨r.tm, r.vt, i, t, xs, if (r.lg.getD k oj0).2.1 = t then r.lg.drop (k + 1) else []⟩ ∧ tmC r i = 0 ∧ tmV r i = (r.lg.getD k oj0).2.1 ∧ (r.lg.getD k oj0).1 = i := by
  obtain ⟨_, _, g1, g2, g3⟩ := cp_ok (i := i) (xs := xs) k h h2 h2'
  obtain ⟨e1, e2⟩ := in_ok (xs := xs) h h1 (by omega) h3
  refine ⟨e1, ?_, g3, g2, g1⟩
  have e : (i - r.si).toNat = k + 1 := by omega
  rw [e2, e, g3, g2]
  simp
set_option linter.unusedSimpArgs false in
set_option maxHeartbeats 4000000 in
set_option maxRecDepth 4000 in
theorem implInstallRaft {S T U : Nat → Prop} {w : World} {y z v : Value} {xs : List Int} (r : Rf) (i t : Int) (hg : Gl w) (hy : RdI S w y r.sn) (hz : RdJ T w z r.lg) (hcp : capE z) (hv : RdI U w v xs) :
    Calls Tryz.prog 83 #[.agg #[.int .i64 r.tm, .int .i64 r.vt, .int .i64 r.si, .int .i64 r.st, y, z], .int .i64 i, .int .i64 t, v] w (EndsRf (inC r i t xs) (inR r i t xs) w) := by
  obtain ⟨ay, cy, rfl⟩ := hy.shape
  obtain ⟨az, cz, rfl, _⟩ := hz.shape
  obtain ⟨av, cv, rfl⟩ := hv.shape
  have hcz : r.lg.length ≤ cz := hcp
  clear hcp
  have HG := hide hg
  have BA0 := below_on (below_alloc w (.cells #[.int .i64 r.tm, .int .i64 r.vt, .int .i64 r.si, .int .i64 r.st, .slice ay r.sn.length cy, .slice az r.lg.length cz] 27)) (below_alloc _ (.cells #[.int .i64 0, .int .i64 0, .int .i64 0, .int .i64 0, .int .i64 0, .slice none 0 0, .slice none 0 0] 79))
  have VA0 := (Var6_new w (.int .i64 r.tm) (.int .i64 r.vt) (.int .i64 r.si) (.int .i64 r.st) (.slice ay r.sn.length cy) (.slice az r.lg.length cz) 27).later (below_alloc _ (.cells #[.int .i64 0, .int .i64 0, .int .i64 0, .int .i64 0, .int .i64 0, .slice none 0 0, .slice none 0 0] 79))
  have RA := hide (Res7.start w (.cells #[.int .i64 r.tm, .int .i64 r.vt, .int .i64 r.si, .int .i64 r.st, .slice ay r.sn.length cy, .slice az r.lg.length cz] 27) 79)
  have HF := hide (dataFaultI r (hy.later BA0) (hz.later BA0) (hv.later BA0))
  have BA := hide BA0
  have VA := hide VA0
  clear BA0 VA0
  have HZ := hide hz
  have HV := hide hv
  have HRm := hide (fun h : dfF r xs = 0 => rf_room (df_zero h).1)
  have HDl := hide (fun h : dfF r xs = 0 => daF_len (df_zero h).2)
  have HRs := hide (fun h : dfF r xs = 0 => (rfF_iff.1 (df_zero h).1).rg.2.1)
  have HBad := hide (@in_bad r i t xs)
  have HRng := hide (@in_rng r i t xs)
  have HLo := hide (@in_lo r i t xs)
  have HSt := hide (@in_st r i t xs)
  have HFar := hide (@in_far r i t xs)
  have HAt := hide (@in_at r i t xs)
  obtain ⟨C, hC⟩ : ∃ C, inC r i t xs = C := ⟨_, rfl⟩
  obtain ⟨R, hR⟩ : ∃ R, inR r i t xs = R := ⟨_, rfl⟩
  rw [hC, hR] at HBad HRng HLo HSt HFar HAt ⊢
  obtain ⟨Z, hZ⟩ : ∃ Z, dfF r xs = Z := ⟨_, rfl⟩
  rw [hZ] at HF HRm HDl HRs HBad HRng HLo HSt HFar HAt
  clear hC hR hZ hy hz hv hg
  obtain ⟨ps, hps⟩ : ∃ ps, r.lg = ps := ⟨_, rfl⟩
  rw [hps] at HF HZ HRm HFar HAt BA VA RA hcz ⊢
  clear hps
  obtain ⟨m, hme⟩ : ∃ m, ps.length = m := ⟨_, rfl⟩
  have HME := hide hme
  rw [hme] at HF HZ HRm HFar HAt BA VA RA hcz ⊢
  clear hme
  generalize r.sn.length = l at *
  obtain ⟨lv, hlv⟩ : ∃ x, xs.length = x := ⟨_, rfl⟩
  have HLv := hide hlv
  rw [hlv] at HF HV HDl ⊢
  clear hlv
  generalize r.tm = a at *
  generalize r.vt = b at *
  generalize r.si = c at *
  generalize r.st = d at *
  obtain ⟨W, hW⟩ : ∃ W, ((w.alloc (.cells #[.int .i64 a, .int .i64 b, .int .i64 c, .int .i64 d, .slice ay l cy, .slice az m cz] 27)).alloc (.cells #[.int .i64 0, .int .i64 0, .int .i64 0, .int .i64 0, .int .i64 0, .slice none 0 0, .slice none 0 0] 79)) = W := ⟨_, rfl⟩
  rw [hW] at BA VA RA HF
  obtain ⟨v0, v1, v2, v3, v4, v5⟩ := VA.out
  go_enter Tryz.func83, Tryz.ntmps83
  go_wp2_with fail
  clear hW
  refine HF.out.mono ?_
  rintro e w1 ⟨rfl, hb⟩
  have BB := hide (below_on BA.out hb)
  have VB := hide (VA.out.later hb)
  have RB := hide (RA.out.later hb)
  clear hb v0 v1 v2 v3 v4 v5 VA RA BA
  by_cases h0 : Z = 0
  · subst h0
    obtain ⟨_, hml, hll⟩ := HRm.out (by first | trivial | rfl)
    have HLL := hide hll
    clear hll
    have hrs := HRs.out (by first | trivial | rfl)
    have hdl := HDl.out (by first | trivial | rfl)
    obtain ⟨v0, v1, v2, v3, v4, v5⟩ := VB.out
    by_cases hix : 1 ≤ i ∧ i ≤ 9999
    · skip
      go_wp2_with fail
      refine (isIndexY i hix.1 hix.2 _).mono ?_
      rintro e wi ⟨rfl, hwi⟩
      have hwj := hwi.symm
      clear hwi
      subst hwj
      by_cases ht1 : t < 1
      · obtain ⟨rfl, rfl⟩ := HRng.out (by first | trivial | rfl) (by omega)
        have HFn := hide (ret_none (x0 := .int .i64 3) (x1 := .int .i64 0) (x2 := .int .i64 0) (x3 := .int .i64 0) (x4 := .int .i64 0) RB.out.below RB.out.ge)
        obtain ⟨_, ⟨c0, c1, c2, c3, c4, c5, c6⟩, F, _⟩ := RB.out
        have f0 := F 0
        have f1 := F 1
        have f2 := F 2
        have f3 := F 3
        have f4 := F 4
        have f5 := F 5
        have f6 := F 6
        clear F
        go_wp2
        refine bodyPost_ret (v := .agg #[.int .i64 3, .int .i64 0, .int .i64 0, .int .i64 0, .int .i64 0, .slice none 0 0, .slice none 0 0]) (by simp [results, Tryz.results83, go_sem, c0, c1, c2, c3, c4, c5, c6]) rfl ⟨_, _, rfl, HFn.out.1, HFn.out.2⟩
      · by_cases ht2 : a < t
        · obtain ⟨rfl, rfl⟩ := HRng.out (by first | trivial | rfl) (by omega)
          have HFn := hide (ret_none (x0 := .int .i64 3) (x1 := .int .i64 0) (x2 := .int .i64 0) (x3 := .int .i64 0) (x4 := .int .i64 0) RB.out.below RB.out.ge)
          obtain ⟨_, ⟨c0, c1, c2, c3, c4, c5, c6⟩, F, _⟩ := RB.out
          have f0 := F 0
          have f1 := F 1
          have f2 := F 2
          have f3 := F 3
          have f4 := F 4
          have f5 := F 5
          have f6 := F 6
          clear F
          go_wp2
          refine bodyPost_ret (v := .agg #[.int .i64 3, .int .i64 0, .int .i64 0, .int .i64 0, .int .i64 0, .slice none 0 0, .slice none 0 0]) (by simp [results, Tryz.results83, go_sem, c0, c1, c2, c3, c4, c5, c6]) rfl ⟨_, _, rfl, HFn.out.1, HFn.out.2⟩
        · have H1 : Hid ((1 ≤ i ∧ i ≤ 9999) ∧ 1 ≤ t ∧ t ≤ a) := ⟨hix, by omega, by omega⟩
          have HLog := hide (logOfE a b c d ay az l cy m cz hrs.1 hrs.2)
          go_wp2_with fail
          refine (HLog.out _).mono ?_
          rintro e w2 ⟨rfl, hb⟩
          obtain ⟨f, hf⟩ : ∃ f, c + 1 = f := ⟨_, rfl⟩
          rw [hf]
          have hbl := below_on hb (below_alloc w2 (.cells #[.int .i64 f, .slice az m cz] 131))
          have BC := hide (below_on BB.out hbl)
          have VC := hide (VB.out.later hbl)
          have RC := hide (RB.out.later hbl)
          have LC := hide (Var2_new w2 (.int .i64 f) (.slice az m cz) 131)
          have hw2 : w.heap.size + 1 < w2.heap.size := Nat.lt_of_lt_of_le RB.out.lt hb.size
          clear hb hbl v0 v1 v2 v3 v4 v5 VB RB BB ht1 ht2
          have hf0 : 0 ≤ f := by omega
          have hf1 : f ≤ 10000 := by omega
          obtain ⟨W2, hW2⟩ : ∃ W2, w2.alloc (.cells #[.int .i64 f, .slice az m cz] 131) = W2 := ⟨_, rfl⟩
          rw [hW2] at BC VC RC LC
          have hs2 : W2.heap.size = w2.heap.size + 1 := by rw [← hW2]; simp
          have HS2 := hide hs2
          clear hs2
          by_cases hlo : i < f
          · obtain ⟨rfl, rfl⟩ := HLo.out (by first | trivial | rfl) H1.out (by omega)
            have HRe := hide (atLoE f i az m cz hlo)
            clear hlo hf
            obtain ⟨l0, l1⟩ := LC.out
            go_wp2_with fail
            (try rw [hW2])
            clear hW2
            refine (HRe.out _).mono ?_
            rintro e w3 ⟨rfl, hb⟩
            have hbe := below_on hb (below_alloc w3 (.cells #[.int .i64 0, .int .i64 0, .slice none 0 0] 58))
            have BD := hide (below_on BC.out hbe)
            have VD := hide (VC.out.later hbe)
            have RD := hide (RC.out.later hbe)
            have LD := hide (LC.out.later hbe)
            have ED := hide (Var3_new w3 (.int .i64 0) (.int .i64 0) (.slice none 0 0) 58)
            have hz3 := hb.size
            have hw3 : w.heap.size + 1 < w3.heap.size := by have := HS2.out; omega
            clear hb hbe l0 l1 VC RC LC
            go_wp2_with fail
            refine (codeOver f _ (HG.out.later BD.out)).mono ?_
            rintro e w4 ⟨rfl, hb⟩
            have BE := hide (below_on BD.out hb)
            have VE := hide (VD.out.later hb)
            have RE := hide (RD.out.later hb)
            have LE := hide (LD.out.later hb)
            have EE := hide (ED.out.later hb)
            clear hb VD RD LD ED BD
            have HFn := hide (ret_none (x0 := .int .i64 6) (x1 := .int .i64 0) (x2 := .int .i64 0) (x3 := .int .i64 0) (x4 := .int .i64 0) RE.out.below RE.out.ge)
            obtain ⟨_, ⟨c0, c1, c2, c3, c4, c5, c6⟩, F, _⟩ := RE.out
            have f0 := F 0
            have f1 := F 1
            have f2 := F 2
            have f3 := F 3
            have f4 := F 4
            have f5 := F 5
            have f6 := F 6
            clear F
            go_wp2
            refine bodyPost_ret (v := .agg #[.int .i64 6, .int .i64 0, .int .i64 0, .int .i64 0, .int .i64 0, .slice none 0 0, .slice none 0 0]) (by simp [results, Tryz.results83, go_sem, c0, c1, c2, c3, c4, c5, c6]) rfl ⟨_, _, rfl, HFn.out.1, HFn.out.2⟩
          · by_cases hhi : f + (m : Int) ≤ i
            · skip
              obtain ⟨⟨pa, hpa⟩, _⟩ := HG.out.later BC.out
              have HPc := hide hpa
              have HRe := hide (atHiE f i az m cz hf0 hf1 (by omega) hhi W2 pa hpa)
              clear hpa
              obtain ⟨l0, l1⟩ := LC.out
              go_wp2_with fail
              (try rw [hW2])
              clear hW2
              refine HRe.out.mono ?_
              rintro e w3 ⟨rfl, hb⟩
              have hbe := below_on hb (below_alloc w3 (.cells #[.int .i64 0, .int .i64 0, .slice none 0 0] 58))
              have BD := hide (below_on BC.out hbe)
              have VD := hide (VC.out.later hbe)
              have RD := hide (RC.out.later hbe)
              have LD := hide (LC.out.later hbe)
              have ED := hide (Var3_new w3 (.int .i64 0) (.int .i64 0) (.slice none 0 0) 58)
              have HPd := hide (cell_later hbe HPc.out)
              have hz3 := hb.size
              have hw3 : w.heap.size + 1 < w3.heap.size := by have := HS2.out; omega
              clear hb hbe l0 l1 VC RC LC
              go_wp2_with fail
              refine (codeYet pa _ (HG.out.later BD.out) HPd.out).mono ?_
              rintro e w4 ⟨rfl, hb⟩
              have BE := hide (below_on BD.out hb)
              have VE := hide (VD.out.later hb)
              have RE := hide (RD.out.later hb)
              have LE := hide (LD.out.later hb)
              have EE := hide (ED.out.later hb)
              clear hb VD RD LD ED BD
              obtain ⟨v0, v1, v2, v3, v4, v5⟩ := VE.out
              by_cases hst : t < d
              · obtain ⟨rfl, rfl⟩ := HSt.out (by first | trivial | rfl) H1.out (by omega) hst
                obtain ⟨v0, v1, v2, v3, v4, v5⟩ := VE.out
                have HFn := hide (ret_none (x0 := .int .i64 10) (x1 := .int .i64 0) (x2 := .int .i64 0) (x3 := .int .i64 0) (x4 := .int .i64 0) RE.out.below RE.out.ge)
                obtain ⟨_, ⟨c0, c1, c2, c3, c4, c5, c6⟩, F, _⟩ := RE.out
                have f0 := F 0
                have f1 := F 1
                have f2 := F 2
                have f3 := F 3
                have f4 := F 4
                have f5 := F 5
                have f6 := F 6
                clear F
                go_wp2
                refine bodyPost_ret (v := .agg #[.int .i64 10, .int .i64 0, .int .i64 0, .int .i64 0, .int .i64 0, .slice none 0 0, .slice none 0 0]) (by simp [results, Tryz.results83, go_sem, c0, c1, c2, c3, c4, c5, c6]) rfl ⟨_, _, rfl, HFn.out.1, HFn.out.2⟩
              · skip
                obtain ⟨rfl, hRe, _⟩ := HFar.out (by first | trivial | rfl) H1.out (by omega) (by omega)
                subst hRe
                have hne := run_eql_iface_nilR (P := Tryz.prog) w4 191 (.pointer (some pa)) Tryz.underlying72
                clear v0 v1 v2 v3 v4 v5
                have HSn := hide (snappedI a b c d i t ay az none l cy m cz 0 0 (HV.out.later BE.out) (RdJ_nilR w4) (by rw [HLv.out]; omega) (by simp) (fun j hj => absurd hj (Nat.not_lt_zero _)))
                obtain ⟨v0, v1, v2, v3, v4, v5⟩ := VE.out
                go_wp2_with fail
                refine HSn.out.mono ?_
                rintro e w6 ⟨y6, z6, rfl, hb, ho⟩
                have R6 := hide (RE.out.later hb)
                have hz6 := hb.size
                obtain ⟨a6, k6, b6, j6, hy6, hz7⟩ := ho.shape
                obtain ⟨lp, hlp⟩ : ∃ x, (([] : List Oj)).length = x := ⟨_, rfl⟩
                rw [HLv.out] at hy6
                rw [hlp] at hz7
                clear hlp
                subst hy6
                subst hz7
                have hrl := RE.out.lt
                have HFn := hide (ret_raft (r := w.heap.size + 1) (x0 := .int .i64 0) (x1 := .int .i64 a) (x2 := .int .i64 b) (x3 := .int .i64 i) (x4 := .int .i64 t) R6.out.below R6.out.ge ho (by omega))
                clear hb ho HSn
                obtain ⟨_, ⟨c0, c1, c2, c3, c4, c5, c6⟩, F, _⟩ := R6.out
                have f0 := F 0
                have f1 := F 1
                have f2 := F 2
                have f3 := F 3
                have f4 := F 4
                have f5 := F 5
                have f6 := F 6
                clear F
                go_wp2
                refine bodyPost_ret (v := .agg #[.int .i64 0, .int .i64 a, .int .i64 b, .int .i64 i, .int .i64 t, .slice a6 lv k6, .slice b6 lp j6]) (by simp [results, Tryz.results83, go_sem, c0, c1, c2, c3, c4, c5, c6]) rfl ⟨.slice a6 lv k6, .slice b6 lp j6, rfl, HFn.out.1, HFn.out.2⟩
            · obtain ⟨kk, hkk⟩ : ∃ kk : Nat, i - f = (kk : Int) := ⟨(i - f).toNat, by omega⟩
              have hkm : kk < m := by omega
              have HAt2 := hide (fun h3 => HAt.out kk (by first | trivial | rfl) H1.out (by omega) hkm h3)
              have HRe := hide (atInE f i kk (HZ.out.later BC.out) HME.out hf0 hf1 (by omega) hkk hkm)
              have HFr := hide (fromE f (i + 1) az m cz (kk + 1) (by omega) (by omega) (by omega))
              have hi1 : IntKind.i64.wrap (i + 1) = i + 1 := by simp [IntKind.wrap, IntKind.bits, IntKind.signed]; omega
              obtain ⟨et, het⟩ : ∃ x, (ps.getD kk oj0).2.1 = x := ⟨_, rfl⟩
              obtain ⟨ei, hei⟩ : ∃ x, (ps.getD kk oj0).1 = x := ⟨_, rfl⟩
              rw [het, hei] at HRe
              simp only [het] at HAt2
              clear het hei
              obtain ⟨l0, l1⟩ := LC.out
              go_wp2_with fail
              (try rw [hW2])
              clear hW2
              refine HRe.out.mono ?_
              rintro e w3 ⟨q3, k3, d3, rfl, hb⟩
              have hbe := below_on hb (below_alloc w3 (.cells #[.int .i64 ei, .int .i64 et, .slice q3 k3 d3] 58))
              have BD := hide (below_on BC.out hbe)
              have VD := hide (VC.out.later hbe)
              have RD := hide (RC.out.later hbe)
              have LD := hide (LC.out.later hbe)
              have ED := hide (Var3_new w3 (.int .i64 ei) (.int .i64 et) (.slice q3 k3 d3) 58)
              have hz3 := hb.size
              have hw3 : w.heap.size + 1 < w3.heap.size := by have := HS2.out; omega
              clear hb hbe l0 l1 VC RC LC
              go_wp2_with fail
              refine (codeNil _ (HG.out.later BD.out)).mono ?_
              rintro e w4 ⟨rfl, hb⟩
              have BE := hide (below_on BD.out hb)
              have VE := hide (VD.out.later hb)
              have RE := hide (RD.out.later hb)
              have LE := hide (LD.out.later hb)
              have EE := hide (ED.out.later hb)
              clear hb VD RD LD ED BD
              obtain ⟨v0, v1, v2, v3, v4, v5⟩ := VE.out
              obtain ⟨e0, e1, e2⟩ := EE.out
              by_cases hst : t < d
              · obtain ⟨rfl, rfl⟩ := HSt.out (by first | trivial | rfl) H1.out (by omega) hst
                obtain ⟨v0, v1, v2, v3, v4, v5⟩ := VE.out
                have HFn := hide (ret_none (x0 := .int .i64 10) (x1 := .int .i64 0) (x2 := .int .i64 0) (x3 := .int .i64 0) (x4 := .int .i64 0) RE.out.below RE.out.ge)
                obtain ⟨_, ⟨c0, c1, c2, c3, c4, c5, c6⟩, F, _⟩ := RE.out
                have f0 := F 0
                have f1 := F 1
                have f2 := F 2
                have f3 := F 3
                have f4 := F 4
                have f5 := F 5
                have f6 := F 6
                clear F
                go_wp2
                refine bodyPost_ret (v := .agg #[.int .i64 10, .int .i64 0, .int .i64 0, .int .i64 0, .int .i64 0, .slice none 0 0, .slice none 0 0]) (by simp [results, Tryz.results83, go_sem, c0, c1, c2, c3, c4, c5, c6]) rfl ⟨_, _, rfl, HFn.out.1, HFn.out.2⟩
              · skip
                obtain ⟨rfl, hRe, _⟩ := HAt2.out (by omega)
                have hnn := run_eql_nil_nilR (P := Tryz.prog) w4 Tryz.underlying72
                by_cases hte : et = t
                · subst hte
                  rw [if_pos rfl] at hRe
                  subst hRe
                  obtain ⟨l0, l1⟩ := LE.out
                  go_wp2_with fail
                  refine (HFr.out _).mono ?_
                  rintro e w5 ⟨rfl, hb⟩
                  have BF := hide (below_on BE.out hb)
                  have VF := hide (VE.out.later hb)
                  have RF := hide (RE.out.later hb)
                  clear hb v0 v1 v2 v3 v4 v5 e0 e1 e2 l0 l1 VE RE BE LE EE
                  have HLd : Hid (∀ j, j < (ps.drop (kk + 1)).length → ((ps.drop (kk + 1)).getD j oj0).2.2.length ≤ 1048576) := fun j hj => by
                    have e : (ps.drop (kk + 1)).getD j oj0 = ps.getD (kk + 1 + j) oj0 := by simp [List.getD, List.getElem?_drop]
                    rw [e]
                    exact HLL.out _ (by have := HME.out; simp at hj; omega)
                  have HRk := hide ((HZ.out.later BF.out).fromE (kk + 1) (by omega) hcz)
                  have HLk : Hid ((ps.drop (kk + 1)).length ≤ 1048576) := by have := HME.out; show (ps.drop (kk + 1)).length ≤ 1048576; simp; omega
                  obtain ⟨AA, hA⟩ : ∃ A, slE az cz (kk + 1) = A := ⟨_, rfl⟩
                  rw [hA] at HRk ⊢
                  clear hA
                  obtain ⟨m2, hm2⟩ : ∃ x, m - (kk + 1) = x := ⟨_, rfl⟩
                  obtain ⟨c7, hc7⟩ : ∃ x, cz - (kk + 1) = x := ⟨_, rfl⟩
                  rw [hm2, hc7] at HRk ⊢
                  clear hm2 hc7
                  obtain ⟨pd, hpd⟩ : ∃ x, ps.drop (kk + 1) = x := ⟨_, rfl⟩
                  rw [hpd] at HRk HLk HLd
                  have HPq := hide hpd
                  clear hpd
                  have HSn := hide (snappedI a b c d i et ay az none l cy m cz 0 0 (HV.out.later BF.out) (HRk.out) (by rw [HLv.out]; omega) HLk.out HLd.out)
                  obtain ⟨v0, v1, v2, v3, v4, v5⟩ := VF.out
                  go_wp2_with fail
                  refine HSn.out.mono ?_
                  rintro e w6 ⟨y6, z6, rfl, hb, ho⟩
                  have R6 := hide (RF.out.later hb)
                  have hz6 := hb.size
                  obtain ⟨a6, k6, b6, j6, hy6, hz7⟩ := ho.shape
                  obtain ⟨lp, hlp⟩ : ∃ x, (pd).length = x := ⟨_, rfl⟩
                  rw [HLv.out] at hy6
                  rw [hlp] at hz7
                  clear hlp
                  subst hy6
                  subst hz7
                  have hrl := RF.out.lt
                  have HFn := hide (ret_raft (r := w.heap.size + 1) (x0 := .int .i64 0) (x1 := .int .i64 a) (x2 := .int .i64 b) (x3 := .int .i64 i) (x4 := .int .i64 et) R6.out.below R6.out.ge ho (by omega))
                  clear hb ho HSn
                  obtain ⟨_, ⟨c0, c1, c2, c3, c4, c5, c6⟩, F, _⟩ := R6.out
                  have f0 := F 0
                  have f1 := F 1
                  have f2 := F 2
                  have f3 := F 3
                  have f4 := F 4
                  have f5 := F 5
                  have f6 := F 6
                  clear F
                  go_wp2
                  refine bodyPost_ret (v := .agg #[.int .i64 0, .int .i64 a, .int .i64 b, .int .i64 i, .int .i64 et, .slice a6 lv k6, .slice b6 lp j6]) (by simp [results, Tryz.results83, go_sem, c0, c1, c2, c3, c4, c5, c6]) rfl ⟨.slice a6 lv k6, .slice b6 lp j6, rfl, HFn.out.1, by simp only [HPq.out]; exact HFn.out.2⟩
                · rw [if_neg hte] at hRe
                  subst hRe
                  have hte2 : (et == t) = false := by simpa using hte
                  clear v0 v1 v2 v3 v4 v5
                  have HSn := hide (snappedI a b c d i t ay az none l cy m cz 0 0 (HV.out.later BE.out) (RdJ_nilR w4) (by rw [HLv.out]; omega) (by simp) (fun j hj => absurd hj (Nat.not_lt_zero _)))
                  obtain ⟨v0, v1, v2, v3, v4, v5⟩ := VE.out
                  go_wp2_with fail
                  refine HSn.out.mono ?_
                  rintro e w6 ⟨y6, z6, rfl, hb, ho⟩
                  have R6 := hide (RE.out.later hb)
                  have hz6 := hb.size
                  obtain ⟨a6, k6, b6, j6, hy6, hz7⟩ := ho.shape
                  obtain ⟨lp, hlp⟩ : ∃ x, (([] : List Oj)).length = x := ⟨_, rfl⟩
                  rw [HLv.out] at hy6
                  rw [hlp] at hz7
                  clear hlp
                  subst hy6
                  subst hz7
                  have hrl := RE.out.lt
                  have HFn := hide (ret_raft (r := w.heap.size + 1) (x0 := .int .i64 0) (x1 := .int .i64 a) (x2 := .int .i64 b) (x3 := .int .i64 i) (x4 := .int .i64 t) R6.out.below R6.out.ge ho (by omega))
                  clear hb ho HSn
                  obtain ⟨_, ⟨c0, c1, c2, c3, c4, c5, c6⟩, F, _⟩ := R6.out
                  have f0 := F 0
                  have f1 := F 1
                  have f2 := F 2
                  have f3 := F 3
                  have f4 := F 4
                  have f5 := F 5
                  have f6 := F 6
                  clear F
                  go_wp2
                  refine bodyPost_ret (v := .agg #[.int .i64 0, .int .i64 a, .int .i64 b, .int .i64 i, .int .i64 t, .slice a6 lv k6, .slice b6 lp j6]) (by simp [results, Tryz.results83, go_sem, c0, c1, c2, c3, c4, c5, c6]) rfl ⟨.slice a6 lv k6, .slice b6 lp j6, rfl, HFn.out.1, HFn.out.2⟩
    · obtain ⟨rfl, rfl⟩ := HRng.out (by first | trivial | rfl) (fun h => hix h.1)
      go_wp2_with fail
      refine (isIndexN i hix _).mono ?_
      rintro e wi ⟨rfl, hwi⟩
      have hwj := hwi.symm
      clear hwi hix
      subst hwj
      have HFn := hide (ret_none (x0 := .int .i64 3) (x1 := .int .i64 0) (x2 := .int .i64 0) (x3 := .int .i64 0) (x4 := .int .i64 0) RB.out.below RB.out.ge)
      obtain ⟨_, ⟨c0, c1, c2, c3, c4, c5, c6⟩, F, _⟩ := RB.out
      have f0 := F 0
      have f1 := F 1
      have f2 := F 2
      have f3 := F 3
      have f4 := F 4
      have f5 := F 5
      have f6 := F 6
      clear F
      go_wp2
      refine bodyPost_ret (v := .agg #[.int .i64 3, .int .i64 0, .int .i64 0, .int .i64 0, .int .i64 0, .slice none 0 0, .slice none 0 0]) (by simp [results, Tryz.results83, go_sem, c0, c1, c2, c3, c4, c5, c6]) rfl ⟨_, _, rfl, HFn.out.1, HFn.out.2⟩
  · obtain ⟨rfl, rfl⟩ := HBad.out h0
    have h0b : (C == 0) = false := by simpa using h0
    have h0c : (C != 0) = true := by simp [h0]
    clear h0
    have HFn := hide (ret_none (x0 := .int .i64 C) (x1 := .int .i64 0) (x2 := .int .i64 0) (x3 := .int .i64 0) (x4 := .int .i64 0) RB.out.below RB.out.ge)
    obtain ⟨_, ⟨c0, c1, c2, c3, c4, c5, c6⟩, F, _⟩ := RB.out
    have f0 := F 0
    have f1 := F 1
    have f2 := F 2
    have f3 := F 3
    have f4 := F 4
    have f5 := F 5
    have f6 := F 6
    clear F
    go_wp2
    refine bodyPost_ret (v := .agg #[.int .i64 C, .int .i64 0, .int .i64 0, .int .i64 0, .int .i64 0, .slice none 0 0, .slice none 0 0]) (by simp [results, Tryz.results83, go_sem, c0, c1, c2, c3, c4, c5, c6]) rfl ⟨_, _, rfl, HFn.out.1, HFn.out.2⟩
end Go.Proofs.YtlliggfggadidaaGreatDoor
