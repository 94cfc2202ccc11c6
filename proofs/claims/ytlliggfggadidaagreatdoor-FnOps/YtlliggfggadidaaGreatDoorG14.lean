/- Cp4 in one text: what each says stands at its head below. -/
import Derived.Test.YtlliggfggadidaaGreatDoorG13
namespace Go.Proofs.YtlliggfggadidaaGreatDoor
open Go.RowKit
theorem IvR_made2 {A C lo : Nat} {w w' : World} {y z : Value} {xs : List Int} {ps : List Oj} (hj : OwJ (fun b => A ≤ b ∧ b < C) w z ps) (ho : OwI C w y xs) (h1 : lo ≤ A) (h2 : A ≤ C) (h3 : C ≤ w.heap.size) (hw : Wr (fun b => b < A) w w') : IvR lo w'.heap.size w' y z xs ps := by
  obtain ⟨b, k1, k2⟩ := ho
  refine ⟨b, fun b => A ≤ b ∧ b < C, k1.wr hw (fun hn x hx e => by subst hx; have := (k2 hn).1; omega), fun hn => ?_, Nat.le_refl _, fun x hx => ⟨by omega, Nat.lt_of_lt_of_le hx.2 (Nat.le_trans h3 hw.size)⟩, hj.wr hw fun x hx e => by omega⟩
  obtain ⟨g1, g3, g4⟩ := k2 hn
  exact ⟨by omega, Nat.lt_of_lt_of_le g3 hw.size, fun h => by omega, fun o => (hw.frz _ _ g3).trans (g4 o)⟩
theorem Res7.wr {w wr w1 : World} {r : Nat} {T : Nat → Prop} (h : Res7 w wr r) (hw : Wr T wr w1) (hr : ¬ T r) (hT : ∀ b, T b → w.heap.size ≤ b) : Res7 w w1 r := by
  obtain ⟨c0, c1, c2, c3, c4, c5, c6⟩ := h.v
  exact ⟨h.below.trans (hw.below h.below.size hT), ⟨(hw.cell h.lt hr).trans c0, (hw.cell h.lt hr).trans c1, (hw.cell h.lt hr).trans c2, (hw.cell h.lt hr).trans c3, (hw.cell h.lt hr).trans c4, (hw.cell h.lt hr).trans c5, (hw.cell h.lt hr).trans c6⟩, fun o => (hw.frz _ _ h.lt).trans (h.fr o), h.ge⟩
theorem forgetC {P : Program} {f : Nat} {args : Array Value} {Q : Ending → World → Prop} {w0 : World} (R : World → Prop) (h0 : R w0) (h : ∀ w, R w → Calls P f args w Q) : Calls P f args w0 Q := h _ h0
theorem cq_bad {r : Rf} {i : Int} {xs : List Int} (h : rfF r ≠ 0) : cpC r i xs = rfF r ∧ cpR r i xs = rf0 := by
  have h2 := dfF_bad (xs := xs) h
  have h3 := cp_bad (r := r) (i := i) (xs := xs) (by rw [h2]; exact h)
  rw [h2] at h3; exact h3
theorem cq_data {r : Rf} {i : Int} {xs : List Int} (h : rfF r = 0) (h' : daF xs ≠ 0) : cpC r i xs = daF xs ∧ cpR r i xs = rf0 := by
  have h2 := dfF_ok (xs := xs) h
  have h3 := cp_bad (r := r) (i := i) (xs := xs) (by rw [h2]; exact h')
  rw [h2] at h3; exact h3
theorem cq_lo {r : Rf} {i : Int} {xs : List Int} (h : rfF r = 0) (h' : daF xs = 0) (h1 : i ≤ r.si) : cpC r i xs = 6 ∧ cpR r i xs = rf0 := cp_lo (by rw [dfF_ok h]; exact h') h1
theorem cq_hi {r : Rf} {i : Int} {xs : List Int} (h : rfF r = 0) (h' : daF xs = 0) (h1 : r.si + (r.lg.length : Int) < i) : cpC r i xs = 4 ∧ cpR r i xs = rf0 ∧ tmC r i = 4 := by
  have h2 := cp_hi (i := i) (show dfF r xs = 0 by rw [dfF_ok h]; exact h') h1
  have hl : lastR r = r.si + (r.lg.length : Int) := rfl
  exact ⟨h2.1, h2.2, by unfold tmC; rw [if_neg (by omega), if_pos (by omega)]⟩
theorem cq_ok {r : Rf} {i : Int} {xs : List Int} (k : Nat) (h : rfF r = 0) (h' : daF xs = 0) (h1 : i - (r.si + 1) = (k : Int)) (h2 : k < r.lg.length) : cpC r i xs = 0 ∧ cpR r i xs = ⟨r.tm, r.vt, i, tmV r i, xs, r.lg.drop (k + 1)⟩ ∧ tmC r i = 0 := by
  obtain ⟨e1, e2, _, e3, e4⟩ := cp_ok (i := i) k (show dfF r xs = 0 by rw [dfF_ok h]; exact h') h1 h2
  exact ⟨e1, by rw [e2, e3], e4⟩
set_option linter.unusedSimpArgs false in
set_option maxHeartbeats 4000000 in
set_option maxRecDepth 4000 in
theorem specCompactRaft {S T U : Nat → Prop} {w : World} {y z v : Value} {xs : List Int} (r : Rf) (i : Int) (hy : RdI S w y r.sn) (hz : RdJ T w z r.lg) (hcp : capE z) (hv : RdI U w v xs) :
    Calls Tryz.prog 46 #[.agg #[.int .i64 r.tm, .int .i64 r.vt, .int .i64 r.si, .int .i64 r.st, y, z], .int .i64 i, v] w (EndsRf (cpC r i xs) (cpR r i xs) w) := by
  obtain ⟨ay, cy, rfl⟩ := hy.shape
  obtain ⟨az, cz, rfl, _⟩ := hz.shape
  obtain ⟨av, cv, rfl⟩ := hv.shape
  have hcz : r.lg.length ≤ cz := hcp
  clear hcp
  have BA0 := below_on (below_alloc w (.cells #[.int .i64 r.tm, .int .i64 r.vt, .int .i64 r.si, .int .i64 r.st, .slice ay r.sn.length cy, .slice az r.lg.length cz] 27)) (below_alloc _ (.cells #[.int .i64 0, .int .i64 0, .int .i64 0, .int .i64 0, .int .i64 0, .slice none 0 0, .slice none 0 0] 79))
  have VA0 := (Var6_new w (.int .i64 r.tm) (.int .i64 r.vt) (.int .i64 r.si) (.int .i64 r.st) (.slice ay r.sn.length cy) (.slice az r.lg.length cz) 27).later (below_alloc _ (.cells #[.int .i64 0, .int .i64 0, .int .i64 0, .int .i64 0, .int .i64 0, .slice none 0 0, .slice none 0 0] 79))
  have RA := hide (Res7.start w (.cells #[.int .i64 r.tm, .int .i64 r.vt, .int .i64 r.si, .int .i64 r.st, .slice ay r.sn.length cy, .slice az r.lg.length cz] 27) 79)
  have HF := hide (l10Fault r VA0 (hy.later BA0) (hz.later BA0))
  have BA := hide BA0
  have VA := hide VA0
  clear BA0 VA0
  have HDa := hide (fun (w' : World) (hb : Below w.heap.size w w') => l10DataI (hv.later hb))
  have HTm := hide (fun (h : rfF r = 0) (w' : World) (hb : Below w.heap.size w w') (h6 : Var6 w' w.heap.size (.int .i64 r.tm) (.int .i64 r.vt) (.int .i64 r.si) (.int .i64 r.st) (.slice ay r.sn.length cy) (.slice az r.lg.length cz)) => l10TermI r i (rfF_iff.1 h) h6 ⟨ay, _, cy, rfl⟩ (hz.later hb))
  have HCp := hide (fun (h : rfF r = 0) (w' : World) (hb : Below w.heap.size w w') => l10CopyI r.tm r.vt r.si r.st (hy.later hb) (hz.later hb) (Nat.le_trans (rf_room h).1 (by decide)) (Nat.le_trans (rf_room h).2.1 (by decide)) (rf_room h).2.2)
  have HZ := hide hz
  have HV := hide hv
  have HRm := hide (@rf_room r)
  have HDl := hide (@daF_len xs)
  have HRs := hide (fun h : rfF r = 0 => (rfF_iff.1 h).rg.2.1)
  have HRa := hide (fun h : rfF r = 0 => (rfF_iff.1 h).rg.1.1)
  have HBad := hide (@cq_bad r i xs)
  have HData := hide (@cq_data r i xs)
  have HLo := hide (@cq_lo r i xs)
  have HHi := hide (@cq_hi r i xs)
  have HOk := hide (@cq_ok r i xs)
  obtain ⟨C, hC⟩ : ∃ C, cpC r i xs = C := ⟨_, rfl⟩
  obtain ⟨R, hR⟩ : ∃ R, cpR r i xs = R := ⟨_, rfl⟩
  rw [hC, hR] at HBad HData HLo HHi HOk ⊢
  obtain ⟨TV, hTV⟩ : ∃ x, tmV r i = x := ⟨_, rfl⟩
  obtain ⟨TC, hTC⟩ : ∃ x, tmC r i = x := ⟨_, rfl⟩
  rw [hTV, hTC] at HTm
  simp only [hTV, hTC] at HBad HData HLo HHi HOk
  clear hTV hTC
  obtain ⟨Z, hZ⟩ : ∃ Z, rfF r = Z := ⟨_, rfl⟩
  rw [hZ] at HF HTm HCp HRm HRs HRa HBad HData HLo HHi HOk
  obtain ⟨D, hD⟩ : ∃ D, daF xs = D := ⟨_, rfl⟩
  rw [hD] at HDa HDl
  simp only [hD] at HBad HData HLo HHi HOk
  clear hC hR hZ hD hy hz hv
  obtain ⟨ps, hps⟩ : ∃ ps, r.lg = ps := ⟨_, rfl⟩
  rw [hps] at HF HTm HCp HZ HRm BA VA RA hcz ⊢
  simp only [hps] at HBad HData HLo HHi HOk
  clear hps
  obtain ⟨m, hme⟩ : ∃ m, ps.length = m := ⟨_, rfl⟩
  have HME := hide hme
  rw [hme] at HF HTm HCp HZ HRm BA VA RA hcz ⊢
  simp only [hme] at HBad HData HLo HHi HOk
  clear hme
  generalize r.sn.length = l at *
  obtain ⟨lv, hlv⟩ : ∃ x, xs.length = x := ⟨_, rfl⟩
  have HLv := hide hlv
  rw [hlv] at HDa HV HDl ⊢
  clear hlv
  generalize r.tm = a at *
  generalize r.vt = b at *
  generalize r.si = c at *
  generalize r.st = d at *
  obtain ⟨W, hW⟩ : ∃ W, ((w.alloc (.cells #[.int .i64 a, .int .i64 b, .int .i64 c, .int .i64 d, .slice ay l cy, .slice az m cz] 27)).alloc (.cells #[.int .i64 0, .int .i64 0, .int .i64 0, .int .i64 0, .int .i64 0, .slice none 0 0, .slice none 0 0] 79)) = W := ⟨_, rfl⟩
  rw [hW] at BA VA RA HF
  obtain ⟨v0, v1, v2, v3, v4, v5⟩ := VA.out
  go_enter Tryz.func46, Tryz.ntmps46
  go_wp2_with fail
  clear hW
  refine HF.out.mono ?_
  rintro e w1 ⟨rfl, hb⟩
  have BB := hide (below_on BA.out hb)
  have VB := hide (VA.out.later hb)
  have RB := hide (RA.out.later hb)
  clear hb v0 v1 v2 v3 v4 v5 VA RA BA
  by_cases h0 : Z = 0
  · subst h0
    obtain ⟨_, hml, hll⟩ := HRm.out (by first | trivial | rfl)
    have HLL := hide hll
    clear hll
    have hrs := HRs.out (by first | trivial | rfl)
    have hra := HRa.out (by first | trivial | rfl)
    have HDb := hide (HDa.out _ BB.out)
    go_wp2_with fail
    refine HDb.out.mono ?_
    rintro e w2 ⟨rfl, qd, hw2⟩
    have hb : Below w1.heap.size w1 w2 := by rw [hw2]; exact below_drewN _ _
    clear hw2
    have BC := hide (below_on BB.out hb)
    have VC := hide (VB.out.later hb)
    have RC := hide (RB.out.later hb)
    clear hb VB RB BB HDb HDa
    by_cases hd : D = 0
    · subst hd
      have hdl := HDl.out (by first | trivial | rfl)
      obtain ⟨v0, v1, v2, v3, v4, v5⟩ := VC.out
      by_cases hlo : i ≤ c
      · obtain ⟨rfl, rfl⟩ := HLo.out (by first | trivial | rfl) (by first | trivial | rfl) hlo
        go_wp2_with fail
        refine (l10BadI 6 _).mono ?_
        rintro e wb ⟨rfl, hb⟩
        have RZ := hide (RC.out.later hb)
        clear hb
        have HFn := hide (ret_none (x0 := .int .i64 6) (x1 := .int .i64 0) (x2 := .int .i64 0) (x3 := .int .i64 0) (x4 := .int .i64 0) RZ.out.below RZ.out.ge)
        obtain ⟨_, ⟨c0, c1, c2, c3, c4, c5, c6⟩, F, _⟩ := RZ.out
        have f0 := F 0
        have f1 := F 1
        have f2 := F 2
        have f3 := F 3
        have f4 := F 4
        have f5 := F 5
        have f6 := F 6
        clear F
        go_wp2
        refine bodyPost_ret (v := .agg #[.int .i64 6, .int .i64 0, .int .i64 0, .int .i64 0, .int .i64 0, .slice none 0 0, .slice none 0 0]) (by simp [results, Tryz.results46, go_sem, c0, c1, c2, c3, c4, c5, c6]) rfl ⟨_, _, rfl, HFn.out.1, HFn.out.2⟩
      · have HTn := hide (HTm.out (by first | trivial | rfl) _ BC.out VC.out)
        by_cases hhi : c + (m : Int) < i
        · obtain ⟨rfl, rfl, rfl⟩ := HHi.out (by first | trivial | rfl) (by first | trivial | rfl) hhi
          go_wp2_with fail
          refine HTn.out.mono ?_
          rintro e w3 ⟨rfl, qd, hw3⟩
          have hb : Below w2.heap.size w2 w3 := by rw [hw3]; exact below_drewN _ _
          clear hw3
          have BD := hide (below_on BC.out hb)
          have VD := hide (VC.out.later hb)
          have RD := hide (RC.out.later hb)
          clear hb v0 v1 v2 v3 v4 v5 VC RC BC HTn
          go_wp2_with fail
          refine (l10BadI 4 _).mono ?_
          rintro e wb ⟨rfl, hb⟩
          have RZ := hide (RD.out.later hb)
          clear hb
          have HFn := hide (ret_none (x0 := .int .i64 4) (x1 := .int .i64 0) (x2 := .int .i64 0) (x3 := .int .i64 0) (x4 := .int .i64 0) RZ.out.below RZ.out.ge)
          obtain ⟨_, ⟨c0, c1, c2, c3, c4, c5, c6⟩, F, _⟩ := RZ.out
          have f0 := F 0
          have f1 := F 1
          have f2 := F 2
          have f3 := F 3
          have f4 := F 4
          have f5 := F 5
          have f6 := F 6
          clear F
          go_wp2
          refine bodyPost_ret (v := .agg #[.int .i64 4, .int .i64 0, .int .i64 0, .int .i64 0, .int .i64 0, .slice none 0 0, .slice none 0 0]) (by simp [results, Tryz.results46, go_sem, c0, c1, c2, c3, c4, c5, c6]) rfl ⟨_, _, rfl, HFn.out.1, HFn.out.2⟩
        · obtain ⟨kk, hkk⟩ : ∃ kk : Nat, i - (c + 1) = (kk : Int) := ⟨(i - (c + 1)).toNat, by omega⟩
          have hkm : kk < m := by omega
          obtain ⟨rfl, hRe, rfl⟩ := HOk.out kk (by first | trivial | rfl) (by first | trivial | rfl) hkk hkm
          subst hRe
          obtain ⟨g, hg⟩ : ∃ g, kk + 1 = g := ⟨_, rfl⟩
          have hgm : g ≤ m := by omega
          have e1 : IntKind.i64.wrap (i - c) = (g : Int) := by rw [show i - c = (g : Int) by omega]; simp [IntKind.wrap, IntKind.bits, IntKind.signed]; omega
          have hg0 : (0 : Int) ≤ (g : Int) := by omega
          have hg1 : (g : Int) ≤ (m : Int) := by omega
          have HGe := hide hg
          clear hg hkk hkm HOk HHi HLo HBad HData
          go_wp2_with fail
          refine HTn.out.mono ?_
          rintro e w3 ⟨rfl, qd, hw3⟩
          have hb : Below w2.heap.size w2 w3 := by rw [hw3]; exact below_drewN _ _
          clear hw3
          have BD := hide (below_on BC.out hb)
          have VD := hide (VC.out.later hb)
          have RD := hide (RC.out.later hb)
          clear hb v0 v1 v2 v3 v4 v5 VC RC BC HTn
          obtain ⟨v0, v1, v2, v3, v4, v5⟩ := VD.out
          have HCq := hide (HCp.out (by first | trivial | rfl) _ BD.out)
          go_wp2_with fail
          refine HCq.out.mono ?_
          rintro e w5 ⟨y5, z5, rfl, hb, ho⟩
          obtain ⟨a5, k5, g5, j5, hy5, hz5⟩ := ho.shape
          obtain ⟨l5, hl5⟩ : ∃ x, r.sn.length = x := ⟨_, rfl⟩
          obtain ⟨m5, hm5⟩ : ∃ x, ps.length = x := ⟨_, rfl⟩
          rw [hl5] at hy5
          rw [hm5] at hz5
          clear hl5 hm5
          subst hy5
          subst hz5
          have hbe := below_on hb (below_alloc w5 (.cells #[.int .i64 a, .int .i64 b, .int .i64 c, .int .i64 d, .slice a5 l5 k5, .slice g5 m5 j5] 27))
          have BF := hide (below_on BD.out hbe)
          have VF := hide (VD.out.later hbe)
          have RF := hide (RD.out.later hbe)
          have hr5 : w.heap.size + 1 < w5.heap.size := Nat.lt_of_lt_of_le RD.out.lt hb.size
          have NV := hide (Var6_new w5 (.int .i64 a) (.int .i64 b) (.int .i64 c) (.int .i64 d) (.slice a5 l5 k5) (.slice g5 m5 j5) 27)
          have NF : Hid (∀ o, (w5.alloc (.cells #[.int .i64 a, .int .i64 b, .int .i64 c, .int .i64 d, .slice a5 l5 k5, .slice g5 m5 j5] 27)).frozen? ⟨w5.heap.size, o, none⟩ = false) := fun o => by simp [go_sem]
          obtain ⟨W5, hW5⟩ : ∃ x, w5.alloc (.cells #[.int .i64 a, .int .i64 b, .int .i64 c, .int .i64 d, .slice a5 l5 k5, .slice g5 m5 j5] 27) = x := ⟨_, rfl⟩
          rw [hW5] at BF VF RF NV NF
          have hs5 : W5.heap.size = w5.heap.size + 1 := by rw [← hW5]; simp
          clear hb hbe ho v0 v1 v2 v3 v4 v5 HCq VD RD BD
          have HLq : Hid (∀ j, j < (ps.drop g).length → ((ps.drop g).getD j oj0).2.2.length ≤ 1048576) := fun j hj => by
            have e : (ps.drop g).getD j oj0 = ps.getD (g + j) oj0 := by simp [List.getD, List.getElem?_drop]
            rw [e]
            exact HLL.out _ (by have := HME.out; simp at hj; omega)
          have HLl : Hid ((ps.drop g).length ≤ 1048576) := by have := HME.out; show (ps.drop g).length ≤ 1048576; simp; omega
          have HRd := hide ((HZ.out.later BF.out).fromE g hgm hcz)
          obtain ⟨pd, hpd⟩ : ∃ x, ps.drop g = x := ⟨_, rfl⟩
          rw [hpd] at HLq HLl HRd
          have HPq : Hid (ps.drop (kk + 1) = pd) := by show ps.drop (kk + 1) = pd; rw [HGe.out, hpd]
          clear hpd
          obtain ⟨v0, v1, v2, v3, v4, v5⟩ := VF.out
          obtain ⟨n0, n1, n2, n3, n4, n5⟩ := NV.out
          by_cases hck : cz = g
          · subst hck
            have hA : slE az cz cz = az := by simp [slE]
            rw [hA] at HRd
            clear hA
            have e6 : cz = m := by omega
            subst e6
            rw [Nat.sub_self] at HRd
            go_wp2_with fail
            (try rw [hW5])
            clear hW5
            refine (l9Copy HRd.out HLl.out HLq.out).mono ?_
            rintro e w6 ⟨u, rfl, hb, hbu⟩
            have HJ := hide (hbu.ow rfl (by have := HLl.out; omega))
            obtain ⟨g6, j6, hu⟩ := hbu.shape
            obtain ⟨lp, hlp⟩ : ∃ x, pd.length = x := ⟨_, rfl⟩
            rw [hlp] at hu
            clear hlp
            subst hu
            have BG := hide (below_on BF.out hb)
            have RG := hide (RF.out.later hb)
            have NG := hide (NV.out.later hb)
            have FG : Hid (∀ o, w6.frozen? ⟨w5.heap.size, o, none⟩ = false) := fun o => ((bcell hb).2 _ _ NV.out.lt).trans (NF.out o)
            have hz6 := hb.size
            rw [hs5] at HJ
            clear hb hbu v0 v1 v2 v3 v4 v5 n0 n1 n2 n3 n4 n5 VF RF NV NF BF
            obtain ⟨n0, n1, n2, n3, n4, n5⟩ := NG.out
            have q2 := FG.out 2
            have q3 := FG.out 3
            have q5 := FG.out 5
            go_wp2_with fail
            refine forgetC (fun W7 => Var6 W7 w5.heap.size (.int .i64 a) (.int .i64 b) (.int .i64 i) (.int .i64 TV) (.slice a5 l5 k5) (.slice g6 lp j6) ∧ (∀ o, W7.frozen? ⟨w5.heap.size, o, none⟩ = false) ∧ Res7 w W7 (w.heap.size + 1) ∧ OwJ (fun b => w5.heap.size + 1 ≤ b ∧ b < w6.heap.size) W7 (.slice g6 lp j6) pd ∧ W7.heap.size = w6.heap.size) ?s7x1 ?_
            case s7x1 =>
              have hw7 : Wr (fun x => x = w5.heap.size) w6 _ := Wr.setCell (p := ⟨w5.heap.size, 3, none⟩) (Wr.setCell (p := ⟨w5.heap.size, 2, none⟩) (Wr.setCell (p := ⟨w5.heap.size, 5, none⟩) (Wr.refl (fun x => x = w5.heap.size) _) rfl (.slice g6 lp j6)) rfl (.int .i64 i)) rfl (.int .i64 TV)
              refine ⟨⟨by simp [go_sem, n0], by simp [go_sem, n1], by simp [go_sem, n2], by simp [go_sem, n3], by simp [go_sem, n4], by simp [go_sem, n5]⟩, fun o => ?_, RG.out.wr hw7 (by omega) (fun b hb => by omega), HJ.out.wr hw7 (fun b hb e => by omega), by simp⟩
              simp only [World.frozen?_setCell]; exact FG.out o
            clear n0 n1 n2 n3 n4 n5 q2 q3 q5
            rintro W7 ⟨N7, F7, R7, J7, hs7⟩
            refine (l1Ints (HV.out.later R7.below) (by rw [HLv.out]; omega)).mono ?_
            rintro e w8 ⟨u8, rfl, hb, ho⟩
            obtain ⟨a8, k8, hu⟩ := ho.shape
            rw [HLv.out] at hu
            subst hu
            have N8 := hide (N7.later hb)
            have F8 : Hid (∀ o, w8.frozen? ⟨w5.heap.size, o, none⟩ = false) := fun o => ((bcell hb).2 _ _ N7.lt).trans (F7 o)
            have R8 := hide (R7.later hb)
            have hz8 := hb.size
            have HIv := hide (IvR_made2 (lo := w5.heap.size + 1) (w' := w8.setCell ⟨w5.heap.size, 4, none⟩ (.slice a8 lv k8)) (J7.wr (Wr.of_below hb fun _ => False) (fun _ _ => id)) (ho.low (by omega)) (Nat.le_refl _) (by omega) (by omega) (Wr.setCell (p := ⟨w5.heap.size, 4, none⟩) (Wr.refl (fun b => b < w5.heap.size + 1) _) (by simp) _))
            have HFn := hide (ret_raft (r := w.heap.size + 1) (x0 := .int .i64 0) (x1 := .int .i64 a) (x2 := .int .i64 b) (x3 := .int .i64 i) (x4 := .int .i64 TV) (R8.out.below.setCell (p := ⟨w5.heap.size, 4, none⟩) (by simp; omega) (.slice a8 lv k8)) R8.out.ge HIv.out (by omega))
            clear hb ho N7 F7 R7 J7 HIv
            obtain ⟨n0, n1, n2, n3, n4, n5⟩ := N8.out
            have q4 := F8.out 4
            obtain ⟨_, ⟨c0, c1, c2, c3, c4, c5, c6⟩, F, _⟩ := R8.out
            have f0 := F 0
            have f1 := F 1
            have f2 := F 2
            have f3 := F 3
            have f4 := F 4
            have f5 := F 5
            have f6 := F 6
            clear F
            go_wp2
            refine bodyPost_ret (v := .agg #[.int .i64 0, .int .i64 a, .int .i64 b, .int .i64 i, .int .i64 TV, .slice a8 lv k8, .slice g6 lp j6]) (by simp [results, Tryz.results46, go_sem, c0, c1, c2, c3, c4, c5, c6]) rfl ⟨_, _, rfl, HFn.out.1, by simp only [HPq.out]; exact HFn.out.2⟩
          · have hA : slE az cz g = Option.map (fun x => x.add (g * 3)) az := by simp [slE, hck]
            rw [hA] at HRd
            clear hA
            go_wp2_with fail
            (try rw [hW5])
            clear hW5
            refine (l9Copy HRd.out HLl.out HLq.out).mono ?_
            rintro e w6 ⟨u, rfl, hb, hbu⟩
            have HJ := hide (hbu.ow rfl (by have := HLl.out; omega))
            obtain ⟨g6, j6, hu⟩ := hbu.shape
            obtain ⟨lp, hlp⟩ : ∃ x, pd.length = x := ⟨_, rfl⟩
            rw [hlp] at hu
            clear hlp
            subst hu
            have BG := hide (below_on BF.out hb)
            have RG := hide (RF.out.later hb)
            have NG := hide (NV.out.later hb)
            have FG : Hid (∀ o, w6.frozen? ⟨w5.heap.size, o, none⟩ = false) := fun o => ((bcell hb).2 _ _ NV.out.lt).trans (NF.out o)
            have hz6 := hb.size
            rw [hs5] at HJ
            clear hb hbu v0 v1 v2 v3 v4 v5 n0 n1 n2 n3 n4 n5 VF RF NV NF BF
            obtain ⟨n0, n1, n2, n3, n4, n5⟩ := NG.out
            have q2 := FG.out 2
            have q3 := FG.out 3
            have q5 := FG.out 5
            go_wp2_with fail
            refine forgetC (fun W7 => Var6 W7 w5.heap.size (.int .i64 a) (.int .i64 b) (.int .i64 i) (.int .i64 TV) (.slice a5 l5 k5) (.slice g6 lp j6) ∧ (∀ o, W7.frozen? ⟨w5.heap.size, o, none⟩ = false) ∧ Res7 w W7 (w.heap.size + 1) ∧ OwJ (fun b => w5.heap.size + 1 ≤ b ∧ b < w6.heap.size) W7 (.slice g6 lp j6) pd ∧ W7.heap.size = w6.heap.size) ?s7x2 ?_
            case s7x2 =>
              have hw7 : Wr (fun x => x = w5.heap.size) w6 _ := Wr.setCell (p := ⟨w5.heap.size, 3, none⟩) (Wr.setCell (p := ⟨w5.heap.size, 2, none⟩) (Wr.setCell (p := ⟨w5.heap.size, 5, none⟩) (Wr.refl (fun x => x = w5.heap.size) _) rfl (.slice g6 lp j6)) rfl (.int .i64 i)) rfl (.int .i64 TV)
              refine ⟨⟨by simp [go_sem, n0], by simp [go_sem, n1], by simp [go_sem, n2], by simp [go_sem, n3], by simp [go_sem, n4], by simp [go_sem, n5]⟩, fun o => ?_, RG.out.wr hw7 (by omega) (fun b hb => by omega), HJ.out.wr hw7 (fun b hb e => by omega), by simp⟩
              simp only [World.frozen?_setCell]; exact FG.out o
            clear n0 n1 n2 n3 n4 n5 q2 q3 q5
            rintro W7 ⟨N7, F7, R7, J7, hs7⟩
            refine (l1Ints (HV.out.later R7.below) (by rw [HLv.out]; omega)).mono ?_
            rintro e w8 ⟨u8, rfl, hb, ho⟩
            obtain ⟨a8, k8, hu⟩ := ho.shape
            rw [HLv.out] at hu
            subst hu
            have N8 := hide (N7.later hb)
            have F8 : Hid (∀ o, w8.frozen? ⟨w5.heap.size, o, none⟩ = false) := fun o => ((bcell hb).2 _ _ N7.lt).trans (F7 o)
            have R8 := hide (R7.later hb)
            have hz8 := hb.size
            have HIv := hide (IvR_made2 (lo := w5.heap.size + 1) (w' := w8.setCell ⟨w5.heap.size, 4, none⟩ (.slice a8 lv k8)) (J7.wr (Wr.of_below hb fun _ => False) (fun _ _ => id)) (ho.low (by omega)) (Nat.le_refl _) (by omega) (by omega) (Wr.setCell (p := ⟨w5.heap.size, 4, none⟩) (Wr.refl (fun b => b < w5.heap.size + 1) _) (by simp) _))
            have HFn := hide (ret_raft (r := w.heap.size + 1) (x0 := .int .i64 0) (x1 := .int .i64 a) (x2 := .int .i64 b) (x3 := .int .i64 i) (x4 := .int .i64 TV) (R8.out.below.setCell (p := ⟨w5.heap.size, 4, none⟩) (by simp; omega) (.slice a8 lv k8)) R8.out.ge HIv.out (by omega))
            clear hb ho N7 F7 R7 J7 HIv
            obtain ⟨n0, n1, n2, n3, n4, n5⟩ := N8.out
            have q4 := F8.out 4
            obtain ⟨_, ⟨c0, c1, c2, c3, c4, c5, c6⟩, F, _⟩ := R8.out
            have f0 := F 0
            have f1 := F 1
            have f2 := F 2
            have f3 := F 3
            have f4 := F 4
            have f5 := F 5
            have f6 := F 6
            clear F
            go_wp2
            refine bodyPost_ret (v := .agg #[.int .i64 0, .int .i64 a, .int .i64 b, .int .i64 i, .int .i64 TV, .slice a8 lv k8, .slice g6 lp j6]) (by simp [results, Tryz.results46, go_sem, c0, c1, c2, c3, c4, c5, c6]) rfl ⟨_, _, rfl, HFn.out.1, by simp only [HPq.out]; exact HFn.out.2⟩
    · obtain ⟨rfl, rfl⟩ := HData.out (by first | trivial | rfl) hd
      have h0b : (C == 0) = false := by simpa using hd
      have h0c : (C != 0) = true := by simp [hd]
      clear hd
      go_wp2_with fail
      refine (l10BadI C _).mono ?_
      rintro e wb ⟨rfl, hb⟩
      have RZ := hide (RC.out.later hb)
      clear hb
      have HFn := hide (ret_none (x0 := .int .i64 C) (x1 := .int .i64 0) (x2 := .int .i64 0) (x3 := .int .i64 0) (x4 := .int .i64 0) RZ.out.below RZ.out.ge)
      obtain ⟨_, ⟨c0, c1, c2, c3, c4, c5, c6⟩, F, _⟩ := RZ.out
      have f0 := F 0
      have f1 := F 1
      have f2 := F 2
      have f3 := F 3
      have f4 := F 4
      have f5 := F 5
      have f6 := F 6
      clear F
      go_wp2
      refine bodyPost_ret (v := .agg #[.int .i64 C, .int .i64 0, .int .i64 0, .int .i64 0, .int .i64 0, .slice none 0 0, .slice none 0 0]) (by simp [results, Tryz.results46, go_sem, c0, c1, c2, c3, c4, c5, c6]) rfl ⟨_, _, rfl, HFn.out.1, HFn.out.2⟩
  · obtain ⟨rfl, rfl⟩ := HBad.out h0
    have h0b : (C == 0) = false := by simpa using h0
    have h0c : (C != 0) = true := by simp [h0]
    clear h0
    go_wp2_with fail
    refine (l10BadI C _).mono ?_
    rintro e wb ⟨rfl, hb⟩
    have RZ := hide (RB.out.later hb)
    clear hb
    have HFn := hide (ret_none (x0 := .int .i64 C) (x1 := .int .i64 0) (x2 := .int .i64 0) (x3 := .int .i64 0) (x4 := .int .i64 0) RZ.out.below RZ.out.ge)
    obtain ⟨_, ⟨c0, c1, c2, c3, c4, c5, c6⟩, F, _⟩ := RZ.out
    have f0 := F 0
    have f1 := F 1
    have f2 := F 2
    have f3 := F 3
    have f4 := F 4
    have f5 := F 5
    have f6 := F 6
    clear F
    go_wp2
    refine bodyPost_ret (v := .agg #[.int .i64 C, .int .i64 0, .int .i64 0, .int .i64 0, .int .i64 0, .slice none 0 0, .slice none 0 0]) (by simp [results, Tryz.results46, go_sem, c0, c1, c2, c3, c4, c5, c6]) rfl ⟨_, _, rfl, HFn.out.1, HFn.out.2⟩
end Go.Proofs.YtlliggfggadidaaGreatDoor
