/- Sh2 Sh3 Ef0 Ef1 in one text: what each says stands at its head below. -/
import Derived.Test.YtlliggfggadidaaGreatDoorG09
import Derived.Test.YtlliggfggadidaaGreatDoorG08
import Derived.Test.YtlliggfggadidaaGreatDoorG06
import Derived.Test.YtlliggfggadidaaGreatDoorG07
import Derived.Test.YtlliggfggadidaaGreatDoorG03
namespace Go.Proofs.YtlliggfggadidaaGreatDoor
open Go.RowKit
theorem rf_room {r : Rf} (h : rfF r = 0) : r.sn.length ≤ 40 ∧ r.lg.length ≤ 14 ∧ (∀ i, i < r.lg.length → (r.lg.getD i oj0).2.2.length ≤ 1048576) := by
  have hi := rfF_iff.1 h
  obtain ⟨h1, h2, _⟩ := logF_iff.1 hi.lo
  exact ⟨daF_len hi.da, h1, fun i hi => by have := (entF_zero (h2 i hi)).2.1; omega⟩
theorem sh_bad {r : Rf} {t v : Int} (h : rfF r ≠ 0) : shC r t v = rfF r ∧ shR r t v = rf0 := by
  have hc : shC r t v = rfF r := by unfold shC; rw [if_neg h]
  exact ⟨hc, by unfold shR; rw [if_neg (by rw [hc]; exact h)]⟩
theorem sh_rng {r : Rf} {t v : Int} (h : rfF r = 0) (h1 : ¬ ((0 ≤ t ∧ t ≤ 999) ∧ (0 ≤ v ∧ v ≤ 9))) : shC r t v = 3 ∧ shR r t v = rf0 := by
  have hc : shC r t v = 3 := by unfold shC; rw [if_pos h, if_neg h1]
  exact ⟨hc, by unfold shR; rw [if_neg (by rw [hc]; decide)]⟩
theorem sh_old {r : Rf} {t v : Int} (h : rfF r = 0) (h1 : (0 ≤ t ∧ t ≤ 999) ∧ (0 ≤ v ∧ v ≤ 9)) (h2 : OverH r.tm r.vt t v) : shC r t v = 6 ∧ shR r t v = rf0 := by
  have hc : shC r t v = 6 := by unfold shC; rw [if_pos h, if_pos h1, if_pos (show t < r.tm ∨ (t = r.tm ∧ r.vt ≠ 0 ∧ v ≠ r.vt) from h2)]
  exact ⟨hc, by unfold shR; rw [if_neg (by rw [hc]; decide)]⟩
theorem sh_ok {r : Rf} {t v : Int} (h : rfF r = 0) (h1 : (0 ≤ t ∧ t ≤ 999) ∧ (0 ≤ v ∧ v ≤ 9)) (h2 : ¬ OverH r.tm r.vt t v) : shC r t v = 0 ∧ shR r t v = ⟨t, v, r.si, r.st, r.sn, r.lg⟩ := by
  have hc : shC r t v = 0 := by unfold shC; rw [if_pos h, if_pos h1, if_neg (show ¬ (t < r.tm ∨ (t = r.tm ∧ r.vt ≠ 0 ∧ v ≠ r.vt)) from h2)]
  exact ⟨hc, by unfold shR; rw [if_pos hc]⟩
set_option maxHeartbeats 4000000 in
set_option maxRecDepth 4000 in
theorem implSetHard {S T : Nat → Prop} {w : World} {y z : Value} (r : Rf) (t v : Int) (hg : Gl w) (hy : RdI S w y r.sn) (hz : RdJ T w z r.lg) :
    Calls Tryz.prog 77 #[.agg #[.int .i64 r.tm, .int .i64 r.vt, .int .i64 r.si, .int .i64 r.st, y, z], .int .i64 t, .int .i64 v] w (EndsRf (shC r t v) (shR r t v) w) := by
  obtain ⟨ay, cy, rfl⟩ := hy.shape
  obtain ⟨az, cz, rfl, _⟩ := hz.shape
  have HG := hide hg
  have BA0 := below_on (below_alloc w (.cells #[.int .i64 r.tm, .int .i64 r.vt, .int .i64 r.si, .int .i64 r.st, .slice ay r.sn.length cy, .slice az r.lg.length cz] 27)) (below_alloc _ (.cells #[.int .i64 0, .int .i64 0, .int .i64 0, .int .i64 0, .int .i64 0, .slice none 0 0, .slice none 0 0] 79))
  have VA0 := (Var6_new w (.int .i64 r.tm) (.int .i64 r.vt) (.int .i64 r.si) (.int .i64 r.st) (.slice ay r.sn.length cy) (.slice az r.lg.length cz) 27).later (below_alloc _ (.cells #[.int .i64 0, .int .i64 0, .int .i64 0, .int .i64 0, .int .i64 0, .slice none 0 0, .slice none 0 0] 79))
  have RA := hide (Res7.start w (.cells #[.int .i64 r.tm, .int .i64 r.vt, .int .i64 r.si, .int .i64 r.st, .slice ay r.sn.length cy, .slice az r.lg.length cz] 27) 79)
  have HF := hide (implRaftFault r (hy.later BA0) (hz.later BA0))
  have BA := hide BA0
  have VA := hide VA0
  clear BA0 VA0
  have HCp := hide (fun (h : rfF r = 0) (w' : World) (hb : Below w.heap.size w w') => copyRaftI r.tm r.vt r.si r.st (hy.later hb) (hz.later hb) (Nat.le_trans (rf_room h).1 (by decide)) (Nat.le_trans (rf_room h).2.1 (by decide)) (rf_room h).2.2)
  have HRg := hide (fun (h : rfF r = 0) => (rfF_iff.1 h).rg.1.1)
  have HBad := hide (@sh_bad r t v)
  have HRng := hide (@sh_rng r t v)
  have HOld := hide (@sh_old r t v)
  have HOk := hide (@sh_ok r t v)
  obtain ⟨C, hC⟩ : ∃ C, shC r t v = C := ⟨_, rfl⟩
  obtain ⟨R, hR⟩ : ∃ R, shR r t v = R := ⟨_, rfl⟩
  rw [hC, hR] at HBad HRng HOld HOk ⊢
  clear hC hR
  obtain ⟨Z, hZ⟩ : ∃ Z, rfF r = Z := ⟨_, rfl⟩
  rw [hZ] at HF HCp HRg HBad HRng HOld HOk
  clear hZ hy hz hg
  generalize r.sn.length = l at *
  generalize r.lg.length = m at *
  generalize r.tm = a at *
  generalize r.vt = b at *
  generalize r.si = c at *
  generalize r.st = d at *
  obtain ⟨W, hW⟩ : ∃ W, ((w.alloc (.cells #[.int .i64 a, .int .i64 b, .int .i64 c, .int .i64 d, .slice ay l cy, .slice az m cz] 27)).alloc (.cells #[.int .i64 0, .int .i64 0, .int .i64 0, .int .i64 0, .int .i64 0, .slice none 0 0, .slice none 0 0] 79)) = W := ⟨_, rfl⟩
  rw [hW] at BA VA RA HF
  obtain ⟨v0, v1, v2, v3, v4, v5⟩ := VA.out
  go_enter Tryz.func77, Tryz.ntmps77
  go_wp2_with fail
  clear hW
  refine HF.out.mono ?_
  rintro e w1 ⟨rfl, hb⟩
  have BB := hide (below_on BA.out hb)
  have VB := hide (VA.out.later hb)
  have RB := hide (RA.out.later hb)
  clear hb v0 v1 v2 v3 v4 v5 VA RA BA
  by_cases h0 : Z = 0
  · subst h0
    have hrg := HRg.out (by first | trivial | rfl)
    obtain ⟨v0, v1, v2, v3, v4, v5⟩ := VB.out
    go_wp2_with fail
    refine (isHardB t v _).mono ?_
    rintro e w2 ⟨rfl, rfl⟩
    clear v0 v1 v2 v3 v4 v5
    by_cases h1 : (0 ≤ t ∧ t ≤ 999) ∧ (0 ≤ v ∧ v ≤ 9)
    · skip
      rw [decide_eq_true h1]
      have H1 := hide h1
      clear h1
      have HOv := hide (hardOverI a b c d t v ay az l cy m cz hrg.1 hrg.2)
      obtain ⟨v0, v1, v2, v3, v4, v5⟩ := VB.out
      go_wp2_with fail
      refine (HOv.out _).mono ?_
      rintro e w3 ⟨hyes, hno, hb⟩
      have BC := hide (below_on BB.out hb)
      have VC := hide (VB.out.later hb)
      have RC := hide (RB.out.later hb)
      clear hb v0 v1 v2 v3 v4 v5 VB RB BB HOv
      by_cases h2 : OverH a b t v
      · obtain ⟨x, rfl⟩ := hyes h2
        obtain ⟨rfl, rfl⟩ := HOld.out (by first | trivial | rfl) H1.out h2
        clear hyes hno h2
        go_wp2_with fail
        refine (codeOver x _ (HG.out.later BC.out)).mono ?_
        rintro e w4 ⟨rfl, hb⟩
        have RD := hide (RC.out.later hb)
        have BD := hide (below_on BC.out hb)
        clear hb
        have HFn := hide (ret_none (x0 := .int .i64 6) (x1 := .int .i64 0) (x2 := .int .i64 0) (x3 := .int .i64 0) (x4 := .int .i64 0) RD.out.below RD.out.ge)
        obtain ⟨_, ⟨c0, c1, c2, c3, c4, c5, c6⟩, F, _⟩ := RD.out
        have f0 := F 0
        have f1 := F 1
        have f2 := F 2
        have f3 := F 3
        have f4 := F 4
        have f5 := F 5
        have f6 := F 6
        clear F
        go_wp2
        refine bodyPost_ret (v := .agg #[.int .i64 6, .int .i64 0, .int .i64 0, .int .i64 0, .int .i64 0, .slice none 0 0, .slice none 0 0]) (by simp [results, Tryz.results77, go_sem, c0, c1, c2, c3, c4, c5, c6]) rfl ⟨_, _, rfl, HFn.out.1, HFn.out.2⟩
      · obtain rfl := hno h2
        obtain ⟨rfl, rfl⟩ := HOk.out (by first | trivial | rfl) H1.out h2
        clear hyes hno h2
        go_wp2_with fail
        refine (codeNil _ (HG.out.later BC.out)).mono ?_
        rintro e w4 ⟨rfl, hb⟩
        have RD := hide (RC.out.later hb)
        have BD := hide (below_on BC.out hb)
        have VD := hide (VC.out.later hb)
        clear hb VC RC BC
        obtain ⟨v0, v1, v2, v3, v4, v5⟩ := VD.out
        have HCq := hide (HCp.out (by first | trivial | rfl) _ BD.out)
        go_wp2_with fail
        refine HCq.out.mono ?_
        rintro e w5 ⟨y5, z5, rfl, hb, ho⟩
        obtain ⟨a5, k5, g5, j5, hy5, hz5⟩ := ho.shape
        obtain ⟨l5, hl5⟩ : ∃ x, r.sn.length = x := ⟨_, rfl⟩
        obtain ⟨m5, hm5⟩ : ∃ x, r.lg.length = x := ⟨_, rfl⟩
        rw [hl5] at hy5
        rw [hm5] at hz5
        clear hl5 hm5
        subst hy5
        subst hz5
        have hlt := RD.out.lt
        have hge := RD.out.ge
        have hsz := hb.size
        have RE := hide (RD.out.later hb)
        have RE2 := hide (RE.out.later (below_alloc w5 (.cells #[.int .i64 t, .int .i64 v, .int .i64 c, .int .i64 d, .slice a5 l5 k5, .slice g5 m5 j5] 27)))
        have HFn := hide (ret_raft (w3 := w5.alloc (.cells #[.int .i64 t, .int .i64 v, .int .i64 c, .int .i64 d, .slice a5 l5 k5, .slice g5 m5 j5] 27)) (r := w.heap.size + 1) (x0 := .int .i64 0) (x1 := .int .i64 t) (x2 := .int .i64 v) (x3 := .int .i64 c) (x4 := .int .i64 d) RE2.out.below RE2.out.ge (IvR.up (ho.later (below_alloc w5 (.cells #[.int .i64 t, .int .i64 v, .int .i64 c, .int .i64 d, .slice a5 l5 k5, .slice g5 m5 j5] 27))) (Nat.le_refl _) (by simp)) (by omega))
        clear hb ho v0 v1 v2 v3 v4 v5 HCq VD RD
        obtain ⟨_, ⟨c0, c1, c2, c3, c4, c5, c6⟩, F, _⟩ := RE2.out
        have f0 := F 0
        have f1 := F 1
        have f2 := F 2
        have f3 := F 3
        have f4 := F 4
        have f5 := F 5
        have f6 := F 6
        clear F
        go_wp2
        refine bodyPost_ret (v := .agg #[.int .i64 0, .int .i64 t, .int .i64 v, .int .i64 c, .int .i64 d, .slice a5 l5 k5, .slice g5 m5 j5]) (by simp [results, Tryz.results77, go_sem, c0, c1, c2, c3, c4, c5, c6]) rfl ⟨_, _, rfl, HFn.out.1, HFn.out.2⟩
    · rw [decide_eq_false h1]
      obtain ⟨rfl, rfl⟩ := HRng.out (by first | trivial | rfl) h1
      clear h1
      have HFn := hide (ret_none (x0 := .int .i64 3) (x1 := .int .i64 0) (x2 := .int .i64 0) (x3 := .int .i64 0) (x4 := .int .i64 0) RB.out.below RB.out.ge)
      obtain ⟨_, ⟨c0, c1, c2, c3, c4, c5, c6⟩, F, _⟩ := RB.out
      have f0 := F 0
      have f1 := F 1
      have f2 := F 2
      have f3 := F 3
      have f4 := F 4
      have f5 := F 5
      have f6 := F 6
      clear F
      go_wp2
      refine bodyPost_ret (v := .agg #[.int .i64 3, .int .i64 0, .int .i64 0, .int .i64 0, .int .i64 0, .slice none 0 0, .slice none 0 0]) (by simp [results, Tryz.results77, go_sem, c0, c1, c2, c3, c4, c5, c6]) rfl ⟨_, _, rfl, HFn.out.1, HFn.out.2⟩
  · obtain ⟨rfl, rfl⟩ := HBad.out h0
    have h0b : (C == 0) = false := by simpa using h0
    have h0c : (C != 0) = true := by simp [h0]
    clear h0
    have HFn := hide (ret_none (x0 := .int .i64 C) (x1 := .int .i64 0) (x2 := .int .i64 0) (x3 := .int .i64 0) (x4 := .int .i64 0) RB.out.below RB.out.ge)
    obtain ⟨_, ⟨c0, c1, c2, c3, c4, c5, c6⟩, F, _⟩ := RB.out
    have f0 := F 0
    have f1 := F 1
    have f2 := F 2
    have f3 := F 3
    have f4 := F 4
    have f5 := F 5
    have f6 := F 6
    clear F
    go_wp2
    refine bodyPost_ret (v := .agg #[.int .i64 C, .int .i64 0, .int .i64 0, .int .i64 0, .int .i64 0, .slice none 0 0, .slice none 0 0]) (by simp [results, Tryz.results77, go_sem, c0, c1, c2, c3, c4, c5, c6]) rfl ⟨_, _, rfl, HFn.out.1, HFn.out.2⟩
end Go.Proofs.YtlliggfggadidaaGreatDoor
namespace Go.Proofs.YtlliggfggadidaaGreatDoor
open Go.RowKit
set_option maxHeartbeats 4000000 in
set_option maxRecDepth 4000 in
theorem specSetHard {S T : Nat → Prop} {w : World} {y z : Value} (r : Rf) (t v : Int) (hy : RdI S w y r.sn) (hz : RdJ T w z r.lg) :
    Calls Tryz.prog 45 #[.agg #[.int .i64 r.tm, .int .i64 r.vt, .int .i64 r.si, .int .i64 r.st, y, z], .int .i64 t, .int .i64 v] w (EndsRf (shC r t v) (shR r t v) w) := by
  obtain ⟨ay, cy, rfl⟩ := hy.shape
  obtain ⟨az, cz, rfl, _⟩ := hz.shape
  have BA0 := below_on (below_alloc w (.cells #[.int .i64 r.tm, .int .i64 r.vt, .int .i64 r.si, .int .i64 r.st, .slice ay r.sn.length cy, .slice az r.lg.length cz] 27)) (below_alloc _ (.cells #[.int .i64 0, .int .i64 0, .int .i64 0, .int .i64 0, .int .i64 0, .slice none 0 0, .slice none 0 0] 79))
  have VA0 := (Var6_new w (.int .i64 r.tm) (.int .i64 r.vt) (.int .i64 r.si) (.int .i64 r.st) (.slice ay r.sn.length cy) (.slice az r.lg.length cz) 27).later (below_alloc _ (.cells #[.int .i64 0, .int .i64 0, .int .i64 0, .int .i64 0, .int .i64 0, .slice none 0 0, .slice none 0 0] 79))
  have RA := hide (Res7.start w (.cells #[.int .i64 r.tm, .int .i64 r.vt, .int .i64 r.si, .int .i64 r.st, .slice ay r.sn.length cy, .slice az r.lg.length cz] 27) 79)
  have HF := hide (l10Fault r VA0 (hy.later BA0) (hz.later BA0))
  have BA := hide BA0
  have VA := hide VA0
  clear BA0 VA0
  have HCp := hide (fun (h : rfF r = 0) (w' : World) (hb : Below w.heap.size w w') => l10CopyI r.tm r.vt r.si r.st (hy.later hb) (hz.later hb) (Nat.le_trans (rf_room h).1 (by decide)) (Nat.le_trans (rf_room h).2.1 (by decide)) (rf_room h).2.2)
  have HRg := hide (fun (h : rfF r = 0) => (rfF_iff.1 h).rg.1.1)
  have HBad := hide (@sh_bad r t v)
  have HRng := hide (@sh_rng r t v)
  have HOld := hide (@sh_old r t v)
  have HOk := hide (@sh_ok r t v)
  obtain ⟨C, hC⟩ : ∃ C, shC r t v = C := ⟨_, rfl⟩
  obtain ⟨R, hR⟩ : ∃ R, shR r t v = R := ⟨_, rfl⟩
  rw [hC, hR] at HBad HRng HOld HOk ⊢
  clear hC hR
  obtain ⟨Z, hZ⟩ : ∃ Z, rfF r = Z := ⟨_, rfl⟩
  rw [hZ] at HF HCp HRg HBad HRng HOld HOk
  clear hZ hy hz
  generalize r.sn.length = l at *
  generalize r.lg.length = m at *
  generalize r.tm = a at *
  generalize r.vt = b at *
  generalize r.si = c at *
  generalize r.st = d at *
  obtain ⟨W, hW⟩ : ∃ W, ((w.alloc (.cells #[.int .i64 a, .int .i64 b, .int .i64 c, .int .i64 d, .slice ay l cy, .slice az m cz] 27)).alloc (.cells #[.int .i64 0, .int .i64 0, .int .i64 0, .int .i64 0, .int .i64 0, .slice none 0 0, .slice none 0 0] 79)) = W := ⟨_, rfl⟩
  rw [hW] at BA VA RA HF
  obtain ⟨v0, v1, v2, v3, v4, v5⟩ := VA.out
  go_enter Tryz.func45, Tryz.ntmps45
  go_wp2_with fail
  clear hW
  refine HF.out.mono ?_
  rintro e w1 ⟨rfl, hb⟩
  have BB := hide (below_on BA.out hb)
  have VB := hide (VA.out.later hb)
  have RB := hide (RA.out.later hb)
  clear hb v0 v1 v2 v3 v4 v5 VA RA BA
  by_cases h0 : Z = 0
  · subst h0
    by_cases ht : 0 ≤ t ∧ t ≤ 999
    · skip
      go_wp2_with fail
      refine (l1InB t 0 999 _).mono ?_
      rintro e wi ⟨rfl, rfl⟩
      rw [inBq_yes (by omega)]
      by_cases hv : 0 ≤ v ∧ v ≤ 9
      · skip
        go_wp2_with fail
        refine (l1InB v 0 9 _).mono ?_
        rintro e wi ⟨rfl, rfl⟩
        rw [inBq_yes (by omega)]
        have H1 := hide (And.intro ht hv)
        clear ht hv
        by_cases hlt : t < a
        · have HP : Hid (OverH a b t v) := Or.inl hlt
          obtain ⟨rfl, rfl⟩ := HOld.out (by first | trivial | rfl) H1.out HP.out
          obtain ⟨v0, v1, v2, v3, v4, v5⟩ := VB.out
          go_wp2_with fail
          refine (l10BadI 6 _).mono ?_
          rintro e wb ⟨rfl, hb⟩
          have RZ := hide (RB.out.later hb)
          clear hb v0 v1 v2 v3 v4 v5
          have HFn := hide (ret_none (x0 := .int .i64 6) (x1 := .int .i64 0) (x2 := .int .i64 0) (x3 := .int .i64 0) (x4 := .int .i64 0) RZ.out.below RZ.out.ge)
          obtain ⟨_, ⟨c0, c1, c2, c3, c4, c5, c6⟩, F, _⟩ := RZ.out
          have f0 := F 0
          have f1 := F 1
          have f2 := F 2
          have f3 := F 3
          have f4 := F 4
          have f5 := F 5
          have f6 := F 6
          clear F
          go_wp2
          refine bodyPost_ret (v := .agg #[.int .i64 6, .int .i64 0, .int .i64 0, .int .i64 0, .int .i64 0, .slice none 0 0, .slice none 0 0]) (by simp [results, Tryz.results45, go_sem, c0, c1, c2, c3, c4, c5, c6]) rfl ⟨_, _, rfl, HFn.out.1, HFn.out.2⟩
        · by_cases heq : t = a
          · subst heq
            by_cases hb : b = 0
            · subst hb
              have HP : Hid (¬ OverH t 0 t v) := by rintro (h | ⟨_, h, _⟩); exact hlt h; exact h rfl
              obtain ⟨rfl, rfl⟩ := HOk.out (by first | trivial | rfl) H1.out HP.out
              have BD := BB
              have VD := VB
              have RD := RB
              clear BB VB RB
              obtain ⟨v0, v1, v2, v3, v4, v5⟩ := VD.out
              have HCq := hide (HCp.out (by first | trivial | rfl) _ BD.out)
              go_wp2_with fail
              refine HCq.out.mono ?_
              rintro e w5 ⟨y5, z5, rfl, hb, ho⟩
              obtain ⟨a5, k5, g5, j5, hy5, hz5⟩ := ho.shape
              obtain ⟨l5, hl5⟩ : ∃ x, r.sn.length = x := ⟨_, rfl⟩
              obtain ⟨m5, hm5⟩ : ∃ x, r.lg.length = x := ⟨_, rfl⟩
              rw [hl5] at hy5
              rw [hm5] at hz5
              clear hl5 hm5
              subst hy5
              subst hz5
              have hlt := RD.out.lt
              have hge := RD.out.ge
              have hsz := hb.size
              have RE := hide (RD.out.later hb)
              have RE2 := hide (RE.out.later (below_alloc w5 (.cells #[.int .i64 t, .int .i64 v, .int .i64 c, .int .i64 d, .slice a5 l5 k5, .slice g5 m5 j5] 27)))
              have HFn := hide (ret_raft (w3 := w5.alloc (.cells #[.int .i64 t, .int .i64 v, .int .i64 c, .int .i64 d, .slice a5 l5 k5, .slice g5 m5 j5] 27)) (r := w.heap.size + 1) (x0 := .int .i64 0) (x1 := .int .i64 t) (x2 := .int .i64 v) (x3 := .int .i64 c) (x4 := .int .i64 d) RE2.out.below RE2.out.ge (IvR.up (ho.later (below_alloc w5 (.cells #[.int .i64 t, .int .i64 v, .int .i64 c, .int .i64 d, .slice a5 l5 k5, .slice g5 m5 j5] 27))) (Nat.le_refl _) (by simp)) (by omega))
              clear hb ho v0 v1 v2 v3 v4 v5 HCq VD RD
              obtain ⟨_, ⟨c0, c1, c2, c3, c4, c5, c6⟩, F, _⟩ := RE2.out
              have f0 := F 0
              have f1 := F 1
              have f2 := F 2
              have f3 := F 3
              have f4 := F 4
              have f5 := F 5
              have f6 := F 6
              clear F
              go_wp2
              refine bodyPost_ret (v := .agg #[.int .i64 0, .int .i64 t, .int .i64 v, .int .i64 c, .int .i64 d, .slice a5 l5 k5, .slice g5 m5 j5]) (by simp [results, Tryz.results45, go_sem, c0, c1, c2, c3, c4, c5, c6]) rfl ⟨_, _, rfl, HFn.out.1, HFn.out.2⟩
            · have hb1 : (b != 0) = true := by simp [hb]
              have hb2 : (b == 0) = false := by simp [hb]
              by_cases hvb : v = b
              · subst hvb
                have HP : Hid (¬ OverH t v t v) := by rintro (h | ⟨_, _, h⟩); exact hlt h; exact h rfl
                clear hb
                obtain ⟨rfl, rfl⟩ := HOk.out (by first | trivial | rfl) H1.out HP.out
                have BD := BB
                have VD := VB
                have RD := RB
                clear BB VB RB
                obtain ⟨v0, v1, v2, v3, v4, v5⟩ := VD.out
                have HCq := hide (HCp.out (by first | trivial | rfl) _ BD.out)
                go_wp2_with fail
                refine HCq.out.mono ?_
                rintro e w5 ⟨y5, z5, rfl, hb, ho⟩
                obtain ⟨a5, k5, g5, j5, hy5, hz5⟩ := ho.shape
                obtain ⟨l5, hl5⟩ : ∃ x, r.sn.length = x := ⟨_, rfl⟩
                obtain ⟨m5, hm5⟩ : ∃ x, r.lg.length = x := ⟨_, rfl⟩
                rw [hl5] at hy5
                rw [hm5] at hz5
                clear hl5 hm5
                subst hy5
                subst hz5
                have hlt := RD.out.lt
                have hge := RD.out.ge
                have hsz := hb.size
                have RE := hide (RD.out.later hb)
                have RE2 := hide (RE.out.later (below_alloc w5 (.cells #[.int .i64 t, .int .i64 v, .int .i64 c, .int .i64 d, .slice a5 l5 k5, .slice g5 m5 j5] 27)))
                have HFn := hide (ret_raft (w3 := w5.alloc (.cells #[.int .i64 t, .int .i64 v, .int .i64 c, .int .i64 d, .slice a5 l5 k5, .slice g5 m5 j5] 27)) (r := w.heap.size + 1) (x0 := .int .i64 0) (x1 := .int .i64 t) (x2 := .int .i64 v) (x3 := .int .i64 c) (x4 := .int .i64 d) RE2.out.below RE2.out.ge (IvR.up (ho.later (below_alloc w5 (.cells #[.int .i64 t, .int .i64 v, .int .i64 c, .int .i64 d, .slice a5 l5 k5, .slice g5 m5 j5] 27))) (Nat.le_refl _) (by simp)) (by omega))
                clear hb ho v0 v1 v2 v3 v4 v5 HCq VD RD
                obtain ⟨_, ⟨c0, c1, c2, c3, c4, c5, c6⟩, F, _⟩ := RE2.out
                have f0 := F 0
                have f1 := F 1
                have f2 := F 2
                have f3 := F 3
                have f4 := F 4
                have f5 := F 5
                have f6 := F 6
                clear F
                go_wp2
                refine bodyPost_ret (v := .agg #[.int .i64 0, .int .i64 t, .int .i64 v, .int .i64 c, .int .i64 d, .slice a5 l5 k5, .slice g5 m5 j5]) (by simp [results, Tryz.results45, go_sem, c0, c1, c2, c3, c4, c5, c6]) rfl ⟨_, _, rfl, HFn.out.1, HFn.out.2⟩
              · have HP : Hid (OverH t b t v) := Or.inr ⟨rfl, hb, hvb⟩
                have hv1 : (v != b) = true := by simp [hvb]
                have hv2 : (v == b) = false := by simp [hvb]
                clear hb hvb
                obtain ⟨rfl, rfl⟩ := HOld.out (by first | trivial | rfl) H1.out HP.out
                obtain ⟨v0, v1, v2, v3, v4, v5⟩ := VB.out
                go_wp2_with fail
                refine (l10BadI 6 _).mono ?_
                rintro e wb ⟨rfl, hb⟩
                have RZ := hide (RB.out.later hb)
                clear hb v0 v1 v2 v3 v4 v5
                have HFn := hide (ret_none (x0 := .int .i64 6) (x1 := .int .i64 0) (x2 := .int .i64 0) (x3 := .int .i64 0) (x4 := .int .i64 0) RZ.out.below RZ.out.ge)
                obtain ⟨_, ⟨c0, c1, c2, c3, c4, c5, c6⟩, F, _⟩ := RZ.out
                have f0 := F 0
                have f1 := F 1
                have f2 := F 2
                have f3 := F 3
                have f4 := F 4
                have f5 := F 5
                have f6 := F 6
                clear F
                go_wp2
                refine bodyPost_ret (v := .agg #[.int .i64 6, .int .i64 0, .int .i64 0, .int .i64 0, .int .i64 0, .slice none 0 0, .slice none 0 0]) (by simp [results, Tryz.results45, go_sem, c0, c1, c2, c3, c4, c5, c6]) rfl ⟨_, _, rfl, HFn.out.1, HFn.out.2⟩
          · have HP : Hid (¬ OverH a b t v) := by rintro (h | ⟨h, _⟩); exact hlt h; exact heq h
            have he1 : (t == a) = false := by simp [heq]
            have he2 : (t != a) = true := by simp [heq]
            clear heq
            obtain ⟨rfl, rfl⟩ := HOk.out (by first | trivial | rfl) H1.out HP.out
            have BD := BB
            have VD := VB
            have RD := RB
            clear BB VB RB
            obtain ⟨v0, v1, v2, v3, v4, v5⟩ := VD.out
            have HCq := hide (HCp.out (by first | trivial | rfl) _ BD.out)
            go_wp2_with fail
            refine HCq.out.mono ?_
            rintro e w5 ⟨y5, z5, rfl, hb, ho⟩
            obtain ⟨a5, k5, g5, j5, hy5, hz5⟩ := ho.shape
            obtain ⟨l5, hl5⟩ : ∃ x, r.sn.length = x := ⟨_, rfl⟩
            obtain ⟨m5, hm5⟩ : ∃ x, r.lg.length = x := ⟨_, rfl⟩
            rw [hl5] at hy5
            rw [hm5] at hz5
            clear hl5 hm5
            subst hy5
            subst hz5
            have hlt := RD.out.lt
            have hge := RD.out.ge
            have hsz := hb.size
            have RE := hide (RD.out.later hb)
            have RE2 := hide (RE.out.later (below_alloc w5 (.cells #[.int .i64 t, .int .i64 v, .int .i64 c, .int .i64 d, .slice a5 l5 k5, .slice g5 m5 j5] 27)))
            have HFn := hide (ret_raft (w3 := w5.alloc (.cells #[.int .i64 t, .int .i64 v, .int .i64 c, .int .i64 d, .slice a5 l5 k5, .slice g5 m5 j5] 27)) (r := w.heap.size + 1) (x0 := .int .i64 0) (x1 := .int .i64 t) (x2 := .int .i64 v) (x3 := .int .i64 c) (x4 := .int .i64 d) RE2.out.below RE2.out.ge (IvR.up (ho.later (below_alloc w5 (.cells #[.int .i64 t, .int .i64 v, .int .i64 c, .int .i64 d, .slice a5 l5 k5, .slice g5 m5 j5] 27))) (Nat.le_refl _) (by simp)) (by omega))
            clear hb ho v0 v1 v2 v3 v4 v5 HCq VD RD
            obtain ⟨_, ⟨c0, c1, c2, c3, c4, c5, c6⟩, F, _⟩ := RE2.out
            have f0 := F 0
            have f1 := F 1
            have f2 := F 2
            have f3 := F 3
            have f4 := F 4
            have f5 := F 5
            have f6 := F 6
            clear F
            go_wp2
            refine bodyPost_ret (v := .agg #[.int .i64 0, .int .i64 t, .int .i64 v, .int .i64 c, .int .i64 d, .slice a5 l5 k5, .slice g5 m5 j5]) (by simp [results, Tryz.results45, go_sem, c0, c1, c2, c3, c4, c5, c6]) rfl ⟨_, _, rfl, HFn.out.1, HFn.out.2⟩
      · skip
        go_wp2_with fail
        refine (l1InB v 0 9 _).mono ?_
        rintro e wi ⟨rfl, rfl⟩
        rw [inBq_no (by omega)]
        obtain ⟨rfl, rfl⟩ := HRng.out (by first | trivial | rfl) (by omega)
        clear hv ht
        obtain ⟨v0, v1, v2, v3, v4, v5⟩ := VB.out
        go_wp2_with fail
        refine (l10BadI 3 _).mono ?_
        rintro e wb ⟨rfl, hb⟩
        have RZ := hide (RB.out.later hb)
        clear hb v0 v1 v2 v3 v4 v5
        have HFn := hide (ret_none (x0 := .int .i64 3) (x1 := .int .i64 0) (x2 := .int .i64 0) (x3 := .int .i64 0) (x4 := .int .i64 0) RZ.out.below RZ.out.ge)
        obtain ⟨_, ⟨c0, c1, c2, c3, c4, c5, c6⟩, F, _⟩ := RZ.out
        have f0 := F 0
        have f1 := F 1
        have f2 := F 2
        have f3 := F 3
        have f4 := F 4
        have f5 := F 5
        have f6 := F 6
        clear F
        go_wp2
        refine bodyPost_ret (v := .agg #[.int .i64 3, .int .i64 0, .int .i64 0, .int .i64 0, .int .i64 0, .slice none 0 0, .slice none 0 0]) (by simp [results, Tryz.results45, go_sem, c0, c1, c2, c3, c4, c5, c6]) rfl ⟨_, _, rfl, HFn.out.1, HFn.out.2⟩
    · skip
      go_wp2_with fail
      refine (l1InB t 0 999 _).mono ?_
      rintro e wi ⟨rfl, rfl⟩
      rw [inBq_no (by omega)]
      obtain ⟨rfl, rfl⟩ := HRng.out (by first | trivial | rfl) (by omega)
      clear ht
      obtain ⟨v0, v1, v2, v3, v4, v5⟩ := VB.out
      go_wp2_with fail
      refine (l10BadI 3 _).mono ?_
      rintro e wb ⟨rfl, hb⟩
      have RZ := hide (RB.out.later hb)
      clear hb v0 v1 v2 v3 v4 v5
      have HFn := hide (ret_none (x0 := .int .i64 3) (x1 := .int .i64 0) (x2 := .int .i64 0) (x3 := .int .i64 0) (x4 := .int .i64 0) RZ.out.below RZ.out.ge)
      obtain ⟨_, ⟨c0, c1, c2, c3, c4, c5, c6⟩, F, _⟩ := RZ.out
      have f0 := F 0
      have f1 := F 1
      have f2 := F 2
      have f3 := F 3
      have f4 := F 4
      have f5 := F 5
      have f6 := F 6
      clear F
      go_wp2
      refine bodyPost_ret (v := .agg #[.int .i64 3, .int .i64 0, .int .i64 0, .int .i64 0, .int .i64 0, .slice none 0 0, .slice none 0 0]) (by simp [results, Tryz.results45, go_sem, c0, c1, c2, c3, c4, c5, c6]) rfl ⟨_, _, rfl, HFn.out.1, HFn.out.2⟩
  · obtain ⟨rfl, rfl⟩ := HBad.out h0
    have h0b : (C == 0) = false := by simpa using h0
    have h0c : (C != 0) = true := by simp [h0]
    clear h0
    obtain ⟨v0, v1, v2, v3, v4, v5⟩ := VB.out
    go_wp2_with fail
    refine (l10BadI C _).mono ?_
    rintro e wb ⟨rfl, hb⟩
    have RZ := hide (RB.out.later hb)
    clear hb v0 v1 v2 v3 v4 v5
    have HFn := hide (ret_none (x0 := .int .i64 C) (x1 := .int .i64 0) (x2 := .int .i64 0) (x3 := .int .i64 0) (x4 := .int .i64 0) RZ.out.below RZ.out.ge)
    obtain ⟨_, ⟨c0, c1, c2, c3, c4, c5, c6⟩, F, _⟩ := RZ.out
    have f0 := F 0
    have f1 := F 1
    have f2 := F 2
    have f3 := F 3
    have f4 := F 4
    have f5 := F 5
    have f6 := F 6
    clear F
    go_wp2
    refine bodyPost_ret (v := .agg #[.int .i64 C, .int .i64 0, .int .i64 0, .int .i64 0, .int .i64 0, .slice none 0 0, .slice none 0 0]) (by simp [results, Tryz.results45, go_sem, c0, c1, c2, c3, c4, c5, c6]) rfl ⟨_, _, rfl, HFn.out.1, HFn.out.2⟩
end Go.Proofs.YtlliggfggadidaaGreatDoor
namespace Go.Proofs.YtlliggfggadidaaGreatDoor
open Go.RowKit
def capE : Value → Prop
  | .slice _ n c => n ≤ c
  | _ => True
theorem OwJ.capE {S : Nat → Prop} {w : World} {v : Value} {ts : List Oj} (h : OwJ S w v ts) : capE v := by
  obtain ⟨ao, c, rfl, hc⟩ := h.caps
  exact hc
theorem IvR.capE {lo hi : Nat} {w : World} {y z : Value} {xs : List Int} {ps : List Oj} (h : IvR lo hi w y z xs ps) : capE z := by
  obtain ⟨b, S, _, _, _, _, h5⟩ := h
  exact h5.capE
end Go.Proofs.YtlliggfggadidaaGreatDoor
namespace Go.Proofs.YtlliggfggadidaaGreatDoor
open Go.RowKit
theorem endE (f : Int) (ao : Option Addr) (n c : Nat) (h0 : 0 ≤ f) (h1 : f ≤ 10000) (h2 : n ≤ 100) (w : World) :
    Calls Tryz.prog 122 #[.agg #[.int .i64 f, .slice ao n c]] w fun e w' => e = .returned (.int .i64 (f + n)) ∧ Below w.heap.size w w' := by
  have hw : IntKind.i64.wrap (f + (n : Int)) = f + n := by simp [IntKind.wrap, IntKind.bits, IntKind.signed]; omega
  go_enter Tryz.func122, Tryz.ntmps122
  go_wp2
  go_ret
  exact ⟨rfl, below_alloc _ _⟩
theorem reachLoE (f i : Int) (ao : Option Addr) (n c : Nat) (h : i < f) (w : World) :
    Calls Tryz.prog 121 #[.agg #[.int .i64 f, .slice ao n c], .int .i64 i] w fun e w' => e = .returned (.iface 107 (.agg #[.int .i64 f])) ∧ Below w.heap.size w w' := by
  go_enter Tryz.func121, Tryz.ntmps121
  go_wp2
  go_ret
  exact ⟨rfl, below_alloc _ _⟩
set_option maxHeartbeats 1000000 in
theorem reachHiE (f i : Int) (ao : Option Addr) (n c : Nat) (h0 : 0 ≤ f) (h1 : f ≤ 10000) (h2 : n ≤ 100) (h : f + n < i) (w : World) (a : Addr) (ha : w.cell? ⟨0, 0, none⟩ = some (.iface 191 (.pointer (some a)))) :
    Calls Tryz.prog 121 #[.agg #[.int .i64 f, .slice ao n c], .int .i64 i] w fun e w' => e = .returned (.iface 191 (.pointer (some a))) ∧ Below w.heap.size w w' := by
  have HE := hide (endE f ao n c h0 h1 h2)
  have hl : ¬ i < f := by omega
  obtain ⟨s, hs⟩ : ∃ s, f + (n : Int) = s := ⟨_, rfl⟩
  rw [hs] at HE h
  have BA := hide (below_alloc w (.cells #[.int .i64 f, .slice ao n c] 131))
  clear hs h0 h1 h2
  go_enter Tryz.func121, Tryz.ntmps121
  go_wp2_with fail
  refine (HE.out _).mono ?_
  rintro e w1 ⟨rfl, hb⟩
  have g := cell_later (below_on BA.out hb) ha
  have BB := hide (below_on BA.out hb)
  clear hb
  go_wp2
  go_ret
  exact ⟨rfl, BB.out⟩
set_option maxHeartbeats 1000000 in
theorem reachInE (f i : Int) (ao : Option Addr) (n c : Nat) (h0 : 0 ≤ f) (h1 : f ≤ 10000) (h2 : n ≤ 100) (h3 : f ≤ i) (h : i ≤ f + n) (w : World) :
    Calls Tryz.prog 121 #[.agg #[.int .i64 f, .slice ao n c], .int .i64 i] w fun e w' => e = .returned .nilIface ∧ Below w.heap.size w w' := by
  have HE := hide (endE f ao n c h0 h1 h2)
  have hl : ¬ i < f := by omega
  obtain ⟨s, hs⟩ : ∃ s, f + (n : Int) = s := ⟨_, rfl⟩
  rw [hs] at HE h
  have hr : ¬ s < i := by omega
  have BA := hide (below_alloc w (.cells #[.int .i64 f, .slice ao n c] 131))
  clear hs h0 h1 h2 h
  go_enter Tryz.func121, Tryz.ntmps121
  go_wp2_with fail
  refine (HE.out _).mono ?_
  rintro e w1 ⟨rfl, hb⟩
  have BB := hide (below_on BA.out hb)
  clear hb
  go_wp2
  go_ret
  exact ⟨rfl, BB.out⟩
def slE (ao : Option Addr) (c i : Nat) : Option Addr := if c = i then ao else ao.map (fun x => x.add (i * 3))
theorem RdJ.fromE {S : Nat → Prop} {w : World} {ao : Option Addr} {n c : Nat} {gs : List Oj} (h : RdJ S w (.slice ao n c) gs) (i : Nat) (hi : i ≤ n) (hc : n ≤ c) : RdJ S w (.slice (slE ao c i) (n - i) (c - i)) (gs.drop i) := by
  obtain ⟨ao', c', e1, e2, e3⟩ := h
  injection e1 with e1 e4 e5
  subst e1 e4 e5
  have hl : (gs.drop i).length = gs.length - i := by simp
  refine ⟨slE ao c i, c - i, by rw [hl], by rw [hl]; omega, fun hne => ?_⟩
  have hlt : i < gs.length := by
    have := List.length_pos_iff.2 hne
    rw [hl] at this; omega
  obtain ⟨b, off, V, f1, f2, f3⟩ := e3 (by rintro rfl; simp at hlt)
  refine ⟨b, off + i * 3, fun j => V (i + j), ?_, f2, fun j hj => ?_⟩
  · unfold slE
    rw [if_neg (by omega), f1]
    simp [Addr.add_lit]
  · rw [hl] at hj
    have e : (gs.drop i).getD j oj0 = gs.getD (i + j) oj0 := by simp [List.getD, List.getElem?_drop]
    have ea : off + i * 3 + j * 3 = off + (i + j) * 3 := by omega
    rw [e, ea]
    exact f3 (i + j) (by omega)
theorem RdJ.uptoE {S : Nat → Prop} {w : World} {ao : Option Addr} {n c : Nat} {gs : List Oj} (h : RdJ S w (.slice ao n c) gs) (m : Nat) (hm : m ≤ n) : RdJ S w (.slice ao m c) (gs.take m) := by
  obtain ⟨ao', c', e1, e2, e3⟩ := h
  injection e1 with e1 e4 e5
  subst e1 e4
  have hl : (gs.take m).length = m := by simp; omega
  refine ⟨ao, c, by rw [hl], by rw [hl]; omega, fun hne => ?_⟩
  obtain ⟨b, off, V, f1, f2, f3⟩ := e3 (by rintro rfl; simp at hne)
  refine ⟨b, off, V, f1, f2, fun j hj => ?_⟩
  rw [hl] at hj
  have e : (gs.take m).getD j oj0 = gs.getD j oj0 := by simp [List.getD, hj]
  rw [e]
  exact f3 j (by omega)
theorem logOfE (a b c d : Int) (ay az : Option Addr) (l cy m cz : Nat) (h0 : 0 ≤ c) (h1 : c ≤ 9999) (w : World) :
    Calls Tryz.prog 103 #[.agg #[.int .i64 a, .int .i64 b, .int .i64 c, .int .i64 d, .slice ay l cy, .slice az m cz]] w fun e w' => e = .returned (.agg #[.int .i64 (c + 1), .slice az m cz]) ∧ Below w.heap.size w w' := by
  have e1 : IntKind.i64.wrap (c + 1) = c + 1 := by simp [IntKind.wrap, IntKind.bits, IntKind.signed]; omega
  go_enter Tryz.func103, Tryz.ntmps103
  go_wp2
  refine bodyPost_ret (v := .agg #[.int .i64 (c + 1), .slice az m cz]) (by simp [results, Tryz.results103, go_sem]) rfl ⟨rfl, ?_⟩
  repeat (first | refine Below.setCell ?_ (by simp) _ | exact below_on (below_alloc _ _) (below_alloc _ _))
theorem fromE (f i : Int) (ao : Option Addr) (n c k : Nat) (hk : i - f = (k : Int)) (hkn : k ≤ n) (hn : n ≤ 100) (w : World) :
    Calls Tryz.prog 107 #[.agg #[.int .i64 f, .slice ao n c], .int .i64 i] w fun e w' => e = .returned (.slice (slE ao c k) (n - k) (c - k)) ∧ Below w.heap.size w w' := by
  have e1 : IntKind.i64.wrap (i - f) = (k : Int) := by rw [hk]; simp [IntKind.wrap, IntKind.bits, IntKind.signed]; omega
  have hk0 : (0 : Int) ≤ (k : Int) := by omega
  have hk1 : (k : Int) ≤ (n : Int) := by omega
  go_enter Tryz.func107, Tryz.ntmps107
  go_wp2
  · go_ret
    exact ⟨by simp [slE], below_alloc _ _⟩
  · go_ret
    exact ⟨by simp [slE, h], below_alloc _ _⟩
end Go.Proofs.YtlliggfggadidaaGreatDoor
