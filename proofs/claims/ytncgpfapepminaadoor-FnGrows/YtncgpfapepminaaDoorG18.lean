/- Sh2 Sh3 in one text: what each says stands at its head below. -/
import Derived.Test.YtncgpfapepminaaDoorG16
import Derived.Test.YtncgpfapepminaaDoorG15
import Derived.Test.YtncgpfapepminaaDoorG13
import Derived.Test.YtncgpfapepminaaDoorG14
/- Chapter 10: 'SetHard' of both sides, walked. Made by program (gensh2.py). -/
namespace Go.Proofs.YtncgpfapepminaaDoor
open Go.RowKit

theorem rf_room {r : Rf} (h : rfF r = 0) : r.sn.length ≤ 40 ∧ r.lg.length ≤ 14 ∧ (∀ i, i < r.lg.length → (r.lg.getD i oj0).2.2.length ≤ 1048576) := by
  have hi := rfF_iff.1 h
  obtain ⟨h1, h2, _⟩ := logF_iff.1 hi.lo
  exact ⟨daF_len hi.da, h1, fun i hi => by have := (entF_zero (h2 i hi)).2.1; omega⟩
theorem sh_bad {r : Rf} {t v : Int} (h : rfF r ≠ 0) : shC r t v = rfF r ∧ shR r t v = rf0 := by
  have hc : shC r t v = rfF r := by unfold shC; rw [if_neg h]
  exact ⟨hc, by unfold shR; rw [if_neg (by rw [hc]; exact h)]⟩
theorem sh_rng {r : Rf} {t v : Int} (h : rfF r = 0) (h1 : ¬ ((0 ≤ t ∧ t ≤ 999) ∧ (0 ≤ v ∧ v ≤ 9))) : shC r t v = 3 ∧ shR r t v = rf0 := by
  have hc : shC r t v = 3 := by unfold shC; rw [if_pos h, if_neg h1]
  exact ⟨hc, by unfold shR; rw [if_neg (by rw [hc]; decide)]⟩
theorem sh_old {r : Rf} {t v : Int} (h : rfF r = 0) (h1 : (0 ≤ t ∧ t ≤ 999) ∧ (0 ≤ v ∧ v ≤ 9)) (h2 : OverH r.tm r.vt t v) : shC r t v = 6 ∧ shR r t v = rf0 := by
  have hc : shC r t v = 6 := by unfold shC; rw [if_pos h, if_pos h1, if_pos (show t < r.tm ∨ (t = r.tm ∧ r.vt ≠ 0 ∧ v ≠ r.vt) from h2)]
  exact ⟨hc, by unfold shR; rw [if_neg (by rw [hc]; decide)]⟩
theorem sh_ok {r : Rf} {t v : Int} (h : rfF r = 0) (h1 : (0 ≤ t ∧ t ≤ 999) ∧ (0 ≤ v ∧ v ≤ 9)) (h2 : ¬ OverH r.tm r.vt t v) : shC r t v = 0 ∧ shR r t v = ⟨t, v, r.si, r.st, r.sn, r.lg⟩ := by
  have hc : shC r t v = 0 := by unfold shC; rw [if_pos h, if_pos h1, if_neg (show ¬ (t < r.tm ∨ (t = r.tm ∧ r.vt ≠ 0 ∧ v ≠ r.vt)) from h2)]
  exact ⟨hc, by unfold shR; rw [if_pos hc]⟩

set_option maxHeartbeats 4000000 in
set_option maxRecDepth 4000 in
theorem implSetHard {S T : Nat → Prop} {w : World} {y z : Value} (r : Rf) (t v : Int) (hg : Gl w) (hy : RdI S w y r.sn) (hz : RdJ T w z r.lg) :
    Calls Tryd.prog 8 #[.agg #[.int .i64 r.tm, .int .i64 r.vt, .int .i64 r.si, .int .i64 r.st, y, z], .int .i64 t, .int .i64 v] w (EndsRf (shC r t v) (shR r t v) w) := by
  obtain ⟨ay, cy, rfl⟩ := hy.shape
  obtain ⟨az, cz, rfl, _⟩ := hz.shape
  have HG := hide hg
  have BA0 := below_on (below_alloc w (.cells #[.int .i64 r.tm, .int .i64 r.vt, .int .i64 r.si, .int .i64 r.st, .slice ay r.sn.length cy, .slice az r.lg.length cz] 27)) (below_alloc _ (.cells #[.int .i64 0, .int .i64 0, .int .i64 0, .int .i64 0, .int .i64 0, .slice none 0 0, .slice none 0 0] 31))
  have VA0 := (Var6_new w (.int .i64 r.tm) (.int .i64 r.vt) (.int .i64 r.si) (.int .i64 r.st) (.slice ay r.sn.length cy) (.slice az r.lg.length cz) 27).later (below_alloc _ (.cells #[.int .i64 0, .int .i64 0, .int .i64 0, .int .i64 0, .int .i64 0, .slice none 0 0, .slice none 0 0] 31))
  have RA := hide (Res7.start w (.cells #[.int .i64 r.tm, .int .i64 r.vt, .int .i64 r.si, .int .i64 r.st, .slice ay r.sn.length cy, .slice az r.lg.length cz] 27) 31)
  have HF := hide (implRaftFault r (hy.later BA0) (hz.later BA0))
  have BA := hide BA0
  have VA := hide VA0
  clear BA0 VA0
  have HCp := hide (fun (h : rfF r = 0) (w' : World) (hb : Below w.heap.size w w') => copyRaftI r.tm r.vt r.si r.st (hy.later hb) (hz.later hb) (Nat.le_trans (rf_room h).1 (by decide)) (Nat.le_trans (rf_room h).2.1 (by decide)) (rf_room h).2.2)
  have HRg := hide (fun (h : rfF r = 0) => (rfF_iff.1 h).rg.1.1)
  have HBad := hide (@sh_bad r t v)
  have HRng := hide (@sh_rng r t v)
  have HOld := hide (@sh_old r t v)
  have HOk := hide (@sh_ok r t v)
  obtain ⟨C, hC⟩ : ∃ C, shC r t v = C := ⟨_, rfl⟩
  obtain ⟨R, hR⟩ : ∃ R, shR r t v = R := ⟨_, rfl⟩
  rw [hC, hR] at HBad HRng HOld HOk ⊢
  clear hC hR
  obtain ⟨Z, hZ⟩ : ∃ Z, rfF r = Z := ⟨_, rfl⟩
  rw [hZ] at HF HCp HRg HBad HRng HOld HOk
  clear hZ hy hz hg
  generalize r.sn.length = l at *
  generalize r.lg.length = m at *
  generalize r.tm = a at *
  generalize r.vt = b at *
  generalize r.si = c at *
  generalize r.st = d at *
  obtain ⟨W, hW⟩ : ∃ W, ((w.alloc (.cells #[.int .i64 a, .int .i64 b, .int .i64 c, .int .i64 d, .slice ay l cy, .slice az m cz] 27)).alloc (.cells #[.int .i64 0, .int .i64 0, .int .i64 0, .int .i64 0, .int .i64 0, .slice none 0 0, .slice none 0 0] 31)) = W := ⟨_, rfl⟩
  rw [hW] at BA VA RA HF
  obtain ⟨v0, v1, v2, v3, v4, v5⟩ := VA.out
  go_enter Tryd.func8, Tryd.ntmps8
  go_wp2_with fail
  clear hW
  refine HF.out.mono ?_
  rintro e w1 ⟨rfl, hb⟩
  have BB := hide (below_on BA.out hb)
  have VB := hide (VA.out.later hb)
  have RB := hide (RA.out.later hb)
  clear hb v0 v1 v2 v3 v4 v5 VA RA BA
  by_cases h0 : Z = 0
  · subst h0
    have hrg := HRg.out (by first | trivial | rfl)
    obtain ⟨v0, v1, v2, v3, v4, v5⟩ := VB.out
    go_wp2_with fail
    refine (isHardB t v _).mono ?_
    rintro e w2 ⟨rfl, rfl⟩
    clear v0 v1 v2 v3 v4 v5
    by_cases h1 : (0 ≤ t ∧ t ≤ 999) ∧ (0 ≤ v ∧ v ≤ 9)
    · skip
      rw [decide_eq_true h1]
      have H1 := hide h1
      clear h1
      have HOv := hide (hardOverI a b c d t v ay az l cy m cz hrg.1 hrg.2)
      obtain ⟨v0, v1, v2, v3, v4, v5⟩ := VB.out
      go_wp2_with fail
      refine (HOv.out _).mono ?_
      rintro e w3 ⟨hyes, hno, hb⟩
      have BC := hide (below_on BB.out hb)
      have VC := hide (VB.out.later hb)
      have RC := hide (RB.out.later hb)
      clear hb v0 v1 v2 v3 v4 v5 VB RB BB HOv
      by_cases h2 : OverH a b t v
      · obtain ⟨x, rfl⟩ := hyes h2
        obtain ⟨rfl, rfl⟩ := HOld.out (by first | trivial | rfl) H1.out h2
        clear hyes hno h2
        go_wp2_with fail
        refine (codeOver x _ (HG.out.later BC.out)).mono ?_
        rintro e w4 ⟨rfl, hb⟩
        have RD := hide (RC.out.later hb)
        have BD := hide (below_on BC.out hb)
        clear hb
        have HFn := hide (ret_none (x0 := .int .i64 6) (x1 := .int .i64 0) (x2 := .int .i64 0) (x3 := .int .i64 0) (x4 := .int .i64 0) RD.out.below RD.out.ge)
        obtain ⟨_, ⟨c0, c1, c2, c3, c4, c5, c6⟩, F, _⟩ := RD.out
        have f0 := F 0
        have f1 := F 1
        have f2 := F 2
        have f3 := F 3
        have f4 := F 4
        have f5 := F 5
        have f6 := F 6
        clear F
        go_wp2
        refine bodyPost_ret (v := .agg #[.int .i64 6, .int .i64 0, .int .i64 0, .int .i64 0, .int .i64 0, .slice none 0 0, .slice none 0 0]) (by simp [results, Tryd.results8, go_sem, c0, c1, c2, c3, c4, c5, c6]) rfl ⟨_, _, rfl, HFn.out.1, HFn.out.2⟩
      · obtain rfl := hno h2
        obtain ⟨rfl, rfl⟩ := HOk.out (by first | trivial | rfl) H1.out h2
        clear hyes hno h2
        go_wp2_with fail
        refine (codeNil _ (HG.out.later BC.out)).mono ?_
        rintro e w4 ⟨rfl, hb⟩
        have RD := hide (RC.out.later hb)
        have BD := hide (below_on BC.out hb)
        have VD := hide (VC.out.later hb)
        clear hb VC RC BC
        obtain ⟨v0, v1, v2, v3, v4, v5⟩ := VD.out
        have HCq := hide (HCp.out (by first | trivial | rfl) _ BD.out)
        go_wp2_with fail
        refine HCq.out.mono ?_
        rintro e w5 ⟨y5, z5, rfl, hb, ho⟩
        obtain ⟨a5, k5, g5, j5, hy5, hz5⟩ := ho.shape
        obtain ⟨l5, hl5⟩ : ∃ x, r.sn.length = x := ⟨_, rfl⟩
        obtain ⟨m5, hm5⟩ : ∃ x, r.lg.length = x := ⟨_, rfl⟩
        rw [hl5] at hy5
        rw [hm5] at hz5
        clear hl5 hm5
        subst hy5
        subst hz5
        have hlt := RD.out.lt
        have hge := RD.out.ge
        have hsz := hb.size
        have RE := hide (RD.out.later hb)
        have RE2 := hide (RE.out.later (below_alloc w5 (.cells #[.int .i64 t, .int .i64 v, .int .i64 c, .int .i64 d, .slice a5 l5 k5, .slice g5 m5 j5] 27)))
        have HFn := hide (ret_raft (w3 := w5.alloc (.cells #[.int .i64 t, .int .i64 v, .int .i64 c, .int .i64 d, .slice a5 l5 k5, .slice g5 m5 j5] 27)) (r := w.heap.size + 1) (x0 := .int .i64 0) (x1 := .int .i64 t) (x2 := .int .i64 v) (x3 := .int .i64 c) (x4 := .int .i64 d) RE2.out.below RE2.out.ge (IvR.up (ho.later (below_alloc w5 (.cells #[.int .i64 t, .int .i64 v, .int .i64 c, .int .i64 d, .slice a5 l5 k5, .slice g5 m5 j5] 27))) (Nat.le_refl _) (by simp)) (by omega))
        clear hb ho v0 v1 v2 v3 v4 v5 HCq VD RD
        obtain ⟨_, ⟨c0, c1, c2, c3, c4, c5, c6⟩, F, _⟩ := RE2.out
        have f0 := F 0
        have f1 := F 1
        have f2 := F 2
        have f3 := F 3
        have f4 := F 4
        have f5 := F 5
        have f6 := F 6
        clear F
        go_wp2
        refine bodyPost_ret (v := .agg #[.int .i64 0, .int .i64 t, .int .i64 v, .int .i64 c, .int .i64 d, .slice a5 l5 k5, .slice g5 m5 j5]) (by simp [results, Tryd.results8, go_sem, c0, c1, c2, c3, c4, c5, c6]) rfl ⟨_, _, rfl, HFn.out.1, HFn.out.2⟩
    · rw [decide_eq_false h1]
      obtain ⟨rfl, rfl⟩ := HRng.out (by first | trivial | rfl) h1
      clear h1
      have HFn := hide (ret_none (x0 := .int .i64 3) (x1 := .int .i64 0) (x2 := .int .i64 0) (x3 := .int .i64 0) (x4 := .int .i64 0) RB.out.below RB.out.ge)
      obtain ⟨_, ⟨c0, c1, c2, c3, c4, c5, c6⟩, F, _⟩ := RB.out
      have f0 := F 0
      have f1 := F 1
      have f2 := F 2
      have f3 := F 3
      have f4 := F 4
      have f5 := F 5
      have f6 := F 6
      clear F
      go_wp2
      refine bodyPost_ret (v := .agg #[.int .i64 3, .int .i64 0, .int .i64 0, .int .i64 0, .int .i64 0, .slice none 0 0, .slice none 0 0]) (by simp [results, Tryd.results8, go_sem, c0, c1, c2, c3, c4, c5, c6]) rfl ⟨_, _, rfl, HFn.out.1, HFn.out.2⟩
  · obtain ⟨rfl, rfl⟩ := HBad.out h0
    have h0b : (C == 0) = false := by simpa using h0
    have h0c : (C != 0) = true := by simp [h0]
    clear h0
    have HFn := hide (ret_none (x0 := .int .i64 C) (x1 := .int .i64 0) (x2 := .int .i64 0) (x3 := .int .i64 0) (x4 := .int .i64 0) RB.out.below RB.out.ge)
    obtain ⟨_, ⟨c0, c1, c2, c3, c4, c5, c6⟩, F, _⟩ := RB.out
    have f0 := F 0
    have f1 := F 1
    have f2 := F 2
    have f3 := F 3
    have f4 := F 4
    have f5 := F 5
    have f6 := F 6
    clear F
    go_wp2
    refine bodyPost_ret (v := .agg #[.int .i64 C, .int .i64 0, .int .i64 0, .int .i64 0, .int .i64 0, .slice none 0 0, .slice none 0 0]) (by simp [results, Tryd.results8, go_sem, c0, c1, c2, c3, c4, c5, c6]) rfl ⟨_, _, rfl, HFn.out.1, HFn.out.2⟩
end Go.Proofs.YtncgpfapepminaaDoor
/- Chapter 10: 'SetHard' of the model, walked. Made by program (gensh2.py). -/
namespace Go.Proofs.YtncgpfapepminaaDoor
open Go.RowKit

set_option maxHeartbeats 4000000 in
set_option maxRecDepth 4000 in
theorem specSetHard {S T : Nat → Prop} {w : World} {y z : Value} (r : Rf) (t v : Int) (hy : RdI S w y r.sn) (hz : RdJ T w z r.lg) :
    Calls Tryd.prog 9 #[.agg #[.int .i64 r.tm, .int .i64 r.vt, .int .i64 r.si, .int .i64 r.st, y, z], .int .i64 t, .int .i64 v] w (EndsRf (shC r t v) (shR r t v) w) := by
  obtain ⟨ay, cy, rfl⟩ := hy.shape
  obtain ⟨az, cz, rfl, _⟩ := hz.shape
  have BA0 := below_on (below_alloc w (.cells #[.int .i64 r.tm, .int .i64 r.vt, .int .i64 r.si, .int .i64 r.st, .slice ay r.sn.length cy, .slice az r.lg.length cz] 27)) (below_alloc _ (.cells #[.int .i64 0, .int .i64 0, .int .i64 0, .int .i64 0, .int .i64 0, .slice none 0 0, .slice none 0 0] 31))
  have VA0 := (Var6_new w (.int .i64 r.tm) (.int .i64 r.vt) (.int .i64 r.si) (.int .i64 r.st) (.slice ay r.sn.length cy) (.slice az r.lg.length cz) 27).later (below_alloc _ (.cells #[.int .i64 0, .int .i64 0, .int .i64 0, .int .i64 0, .int .i64 0, .slice none 0 0, .slice none 0 0] 31))
  have RA := hide (Res7.start w (.cells #[.int .i64 r.tm, .int .i64 r.vt, .int .i64 r.si, .int .i64 r.st, .slice ay r.sn.length cy, .slice az r.lg.length cz] 27) 31)
  have HF := hide (l10Fault r VA0 (hy.later BA0) (hz.later BA0))
  have BA := hide BA0
  have VA := hide VA0
  clear BA0 VA0
  have HCp := hide (fun (h : rfF r = 0) (w' : World) (hb : Below w.heap.size w w') => l10CopyI r.tm r.vt r.si r.st (hy.later hb) (hz.later hb) (Nat.le_trans (rf_room h).1 (by decide)) (Nat.le_trans (rf_room h).2.1 (by decide)) (rf_room h).2.2)
  have HRg := hide (fun (h : rfF r = 0) => (rfF_iff.1 h).rg.1.1)
  have HBad := hide (@sh_bad r t v)
  have HRng := hide (@sh_rng r t v)
  have HOld := hide (@sh_old r t v)
  have HOk := hide (@sh_ok r t v)
  obtain ⟨C, hC⟩ : ∃ C, shC r t v = C := ⟨_, rfl⟩
  obtain ⟨R, hR⟩ : ∃ R, shR r t v = R := ⟨_, rfl⟩
  rw [hC, hR] at HBad HRng HOld HOk ⊢
  clear hC hR
  obtain ⟨Z, hZ⟩ : ∃ Z, rfF r = Z := ⟨_, rfl⟩
  rw [hZ] at HF HCp HRg HBad HRng HOld HOk
  clear hZ hy hz
  generalize r.sn.length = l at *
  generalize r.lg.length = m at *
  generalize r.tm = a at *
  generalize r.vt = b at *
  generalize r.si = c at *
  generalize r.st = d at *
  obtain ⟨W, hW⟩ : ∃ W, ((w.alloc (.cells #[.int .i64 a, .int .i64 b, .int .i64 c, .int .i64 d, .slice ay l cy, .slice az m cz] 27)).alloc (.cells #[.int .i64 0, .int .i64 0, .int .i64 0, .int .i64 0, .int .i64 0, .slice none 0 0, .slice none 0 0] 31)) = W := ⟨_, rfl⟩
  rw [hW] at BA VA RA HF
  obtain ⟨v0, v1, v2, v3, v4, v5⟩ := VA.out
  go_enter Tryd.func9, Tryd.ntmps9
  go_wp2_with fail
  clear hW
  refine HF.out.mono ?_
  rintro e w1 ⟨rfl, hb⟩
  have BB := hide (below_on BA.out hb)
  have VB := hide (VA.out.later hb)
  have RB := hide (RA.out.later hb)
  clear hb v0 v1 v2 v3 v4 v5 VA RA BA
  by_cases h0 : Z = 0
  · subst h0
    by_cases ht : 0 ≤ t ∧ t ≤ 999
    · skip
      go_wp2_with fail
      refine (l1InB t 0 999 _).mono ?_
      rintro e wi ⟨rfl, rfl⟩
      rw [inBq_yes (by omega)]
      by_cases hv : 0 ≤ v ∧ v ≤ 9
      · skip
        go_wp2_with fail
        refine (l1InB v 0 9 _).mono ?_
        rintro e wi ⟨rfl, rfl⟩
        rw [inBq_yes (by omega)]
        have H1 := hide (And.intro ht hv)
        clear ht hv
        by_cases hlt : t < a
        · have HP : Hid (OverH a b t v) := Or.inl hlt
          obtain ⟨rfl, rfl⟩ := HOld.out (by first | trivial | rfl) H1.out HP.out
          obtain ⟨v0, v1, v2, v3, v4, v5⟩ := VB.out
          go_wp2_with fail
          refine (l10BadI 6 _).mono ?_
          rintro e wb ⟨rfl, hb⟩
          have RZ := hide (RB.out.later hb)
          clear hb v0 v1 v2 v3 v4 v5
          have HFn := hide (ret_none (x0 := .int .i64 6) (x1 := .int .i64 0) (x2 := .int .i64 0) (x3 := .int .i64 0) (x4 := .int .i64 0) RZ.out.below RZ.out.ge)
          obtain ⟨_, ⟨c0, c1, c2, c3, c4, c5, c6⟩, F, _⟩ := RZ.out
          have f0 := F 0
          have f1 := F 1
          have f2 := F 2
          have f3 := F 3
          have f4 := F 4
          have f5 := F 5
          have f6 := F 6
          clear F
          go_wp2
          refine bodyPost_ret (v := .agg #[.int .i64 6, .int .i64 0, .int .i64 0, .int .i64 0, .int .i64 0, .slice none 0 0, .slice none 0 0]) (by simp [results, Tryd.results9, go_sem, c0, c1, c2, c3, c4, c5, c6]) rfl ⟨_, _, rfl, HFn.out.1, HFn.out.2⟩
        · by_cases heq : t = a
          · subst heq
            by_cases hb : b = 0
            · subst hb
              have HP : Hid (¬ OverH t 0 t v) := by rintro (h | ⟨_, h, _⟩); exact hlt h; exact h rfl
              obtain ⟨rfl, rfl⟩ := HOk.out (by first | trivial | rfl) H1.out HP.out
              have BD := BB
              have VD := VB
              have RD := RB
              clear BB VB RB
              obtain ⟨v0, v1, v2, v3, v4, v5⟩ := VD.out
              have HCq := hide (HCp.out (by first | trivial | rfl) _ BD.out)
              go_wp2_with fail
              refine HCq.out.mono ?_
              rintro e w5 ⟨y5, z5, rfl, hb, ho⟩
              obtain ⟨a5, k5, g5, j5, hy5, hz5⟩ := ho.shape
              obtain ⟨l5, hl5⟩ : ∃ x, r.sn.length = x := ⟨_, rfl⟩
              obtain ⟨m5, hm5⟩ : ∃ x, r.lg.length = x := ⟨_, rfl⟩
              rw [hl5] at hy5
              rw [hm5] at hz5
              clear hl5 hm5
              subst hy5
              subst hz5
              have hlt := RD.out.lt
              have hge := RD.out.ge
              have hsz := hb.size
              have RE := hide (RD.out.later hb)
              have RE2 := hide (RE.out.later (below_alloc w5 (.cells #[.int .i64 t, .int .i64 v, .int .i64 c, .int .i64 d, .slice a5 l5 k5, .slice g5 m5 j5] 27)))
              have HFn := hide (ret_raft (w3 := w5.alloc (.cells #[.int .i64 t, .int .i64 v, .int .i64 c, .int .i64 d, .slice a5 l5 k5, .slice g5 m5 j5] 27)) (r := w.heap.size + 1) (x0 := .int .i64 0) (x1 := .int .i64 t) (x2 := .int .i64 v) (x3 := .int .i64 c) (x4 := .int .i64 d) RE2.out.below RE2.out.ge (IvR.up (ho.later (below_alloc w5 (.cells #[.int .i64 t, .int .i64 v, .int .i64 c, .int .i64 d, .slice a5 l5 k5, .slice g5 m5 j5] 27))) (Nat.le_refl _) (by simp)) (by omega))
              clear hb ho v0 v1 v2 v3 v4 v5 HCq VD RD
              obtain ⟨_, ⟨c0, c1, c2, c3, c4, c5, c6⟩, F, _⟩ := RE2.out
              have f0 := F 0
              have f1 := F 1
              have f2 := F 2
              have f3 := F 3
              have f4 := F 4
              have f5 := F 5
              have f6 := F 6
              clear F
              go_wp2
              refine bodyPost_ret (v := .agg #[.int .i64 0, .int .i64 t, .int .i64 v, .int .i64 c, .int .i64 d, .slice a5 l5 k5, .slice g5 m5 j5]) (by simp [results, Tryd.results9, go_sem, c0, c1, c2, c3, c4, c5, c6]) rfl ⟨_, _, rfl, HFn.out.1, HFn.out.2⟩
            · have hb1 : (b != 0) = true := by simp [hb]
              have hb2 : (b == 0) = false := by simp [hb]
              by_cases hvb : v = b
              · subst hvb
                have HP : Hid (¬ OverH t v t v) := by rintro (h | ⟨_, _, h⟩); exact hlt h; exact h rfl
                clear hb
                obtain ⟨rfl, rfl⟩ := HOk.out (by first | trivial | rfl) H1.out HP.out
                have BD := BB
                have VD := VB
                have RD := RB
                clear BB VB RB
                obtain ⟨v0, v1, v2, v3, v4, v5⟩ := VD.out
                have HCq := hide (HCp.out (by first | trivial | rfl) _ BD.out)
                go_wp2_with fail
                refine HCq.out.mono ?_
                rintro e w5 ⟨y5, z5, rfl, hb, ho⟩
                obtain ⟨a5, k5, g5, j5, hy5, hz5⟩ := ho.shape
                obtain ⟨l5, hl5⟩ : ∃ x, r.sn.length = x := ⟨_, rfl⟩
                obtain ⟨m5, hm5⟩ : ∃ x, r.lg.length = x := ⟨_, rfl⟩
                rw [hl5] at hy5
                rw [hm5] at hz5
                clear hl5 hm5
                subst hy5
                subst hz5
                have hlt := RD.out.lt
                have hge := RD.out.ge
                have hsz := hb.size
                have RE := hide (RD.out.later hb)
                have RE2 := hide (RE.out.later (below_alloc w5 (.cells #[.int .i64 t, .int .i64 v, .int .i64 c, .int .i64 d, .slice a5 l5 k5, .slice g5 m5 j5] 27)))
                have HFn := hide (ret_raft (w3 := w5.alloc (.cells #[.int .i64 t, .int .i64 v, .int .i64 c, .int .i64 d, .slice a5 l5 k5, .slice g5 m5 j5] 27)) (r := w.heap.size + 1) (x0 := .int .i64 0) (x1 := .int .i64 t) (x2 := .int .i64 v) (x3 := .int .i64 c) (x4 := .int .i64 d) RE2.out.below RE2.out.ge (IvR.up (ho.later (below_alloc w5 (.cells #[.int .i64 t, .int .i64 v, .int .i64 c, .int .i64 d, .slice a5 l5 k5, .slice g5 m5 j5] 27))) (Nat.le_refl _) (by simp)) (by omega))
                clear hb ho v0 v1 v2 v3 v4 v5 HCq VD RD
                obtain ⟨_, ⟨c0, c1, c2, c3, c4, c5, c6⟩, F, _⟩ := RE2.out
                have f0 := F 0
                have f1 := F 1
                have f2 := F 2
                have f3 := F 3
                have f4 := F 4
                have f5 := F 5
                have f6 := F 6
                clear F
                go_wp2
                refine bodyPost_ret (v := .agg #[.int .i64 0, .int .i64 t, .int .i64 v, .int .i64 c, .int .i64 d, .slice a5 l5 k5, .slice g5 m5 j5]) (by simp [results, Tryd.results9, go_sem, c0, c1, c2, c3, c4, c5, c6]) rfl ⟨_, _, rfl, HFn.out.1, HFn.out.2⟩
              · have HP : Hid (OverH t b t v) := Or.inr ⟨rfl, hb, hvb⟩
                have hv1 : (v != b) = true := by simp [hvb]
                have hv2 : (v == b) = false := by simp [hvb]
                clear hb hvb
                obtain ⟨rfl, rfl⟩ := HOld.out (by first | trivial | rfl) H1.out HP.out
                obtain ⟨v0, v1, v2, v3, v4, v5⟩ := VB.out
                go_wp2_with fail
                refine (l10BadI 6 _).mono ?_
                rintro e wb ⟨rfl, hb⟩
                have RZ := hide (RB.out.later hb)
                clear hb v0 v1 v2 v3 v4 v5
                have HFn := hide (ret_none (x0 := .int .i64 6) (x1 := .int .i64 0) (x2 := .int .i64 0) (x3 := .int .i64 0) (x4 := .int .i64 0) RZ.out.below RZ.out.ge)
                obtain ⟨_, ⟨c0, c1, c2, c3, c4, c5, c6⟩, F, _⟩ := RZ.out
                have f0 := F 0
                have f1 := F 1
                have f2 := F 2
                have f3 := F 3
                have f4 := F 4
                have f5 := F 5
                have f6 := F 6
                clear F
                go_wp2
                refine bodyPost_ret (v := .agg #[.int .i64 6, .int .i64 0, .int .i64 0, .int .i64 0, .int .i64 0, .slice none 0 0, .slice none 0 0]) (by simp [results, Tryd.results9, go_sem, c0, c1, c2, c3, c4, c5, c6]) rfl ⟨_, _, rfl, HFn.out.1, HFn.out.2⟩
          · have HP : Hid (¬ OverH a b t v) := by rintro (h | ⟨h, _⟩); exact hlt h; exact heq h
            have he1 : (t == a) = false := by simp [heq]
            have he2 : (t != a) = true := by simp [heq]
            clear heq
            obtain ⟨rfl, rfl⟩ := HOk.out (by first | trivial | rfl) H1.out HP.out
            have BD := BB
            have VD := VB
            have RD := RB
            clear BB VB RB
            obtain ⟨v0, v1, v2, v3, v4, v5⟩ := VD.out
            have HCq := hide (HCp.out (by first | trivial | rfl) _ BD.out)
            go_wp2_with fail
            refine HCq.out.mono ?_
            rintro e w5 ⟨y5, z5, rfl, hb, ho⟩
            obtain ⟨a5, k5, g5, j5, hy5, hz5⟩ := ho.shape
            obtain ⟨l5, hl5⟩ : ∃ x, r.sn.length = x := ⟨_, rfl⟩
            obtain ⟨m5, hm5⟩ : ∃ x, r.lg.length = x := ⟨_, rfl⟩
            rw [hl5] at hy5
            rw [hm5] at hz5
            clear hl5 hm5
            subst hy5
            subst hz5
            have hlt := RD.out.lt
            have hge := RD.out.ge
            have hsz := hb.size
            have RE := hide (RD.out.later hb)
            have RE2 := hide (RE.out.later (below_alloc w5 (.cells #[.int .i64 t, .int .i64 v, .int .i64 c, .int .i64 d, .slice a5 l5 k5, .slice g5 m5 j5] 27)))
            have HFn := hide (ret_raft (w3 := w5.alloc (.cells #[.int .i64 t, .int .i64 v, .int .i64 c, .int .i64 d, .slice a5 l5 k5, .slice g5 m5 j5] 27)) (r := w.heap.size + 1) (x0 := .int .i64 0) (x1 := .int .i64 t) (x2 := .int .i64 v) (x3 := .int .i64 c) (x4 := .int .i64 d) RE2.out.below RE2.out.ge (IvR.up (ho.later (below_alloc w5 (.cells #[.int .i64 t, .int .i64 v, .int .i64 c, .int .i64 d, .slice a5 l5 k5, .slice g5 m5 j5] 27))) (Nat.le_refl _) (by simp)) (by omega))
            clear hb ho v0 v1 v2 v3 v4 v5 HCq VD RD
            obtain ⟨_, ⟨c0, c1, c2, c3, c4, c5, c6⟩, F, _⟩ := RE2.out
            have f0 := F 0
            have f1 := F 1
            have f2 := F 2
            have f3 := F 3
            have f4 := F 4
            have f5 := F 5
            have f6 := F 6
            clear F
            go_wp2
            refine bodyPost_ret (v := .agg #[.int .i64 0, .int .i64 t, .int .i64 v, .int .i64 c, .int .i64 d, .slice a5 l5 k5, .slice g5 m5 j5]) (by simp [results, Tryd.results9, go_sem, c0, c1, c2, c3, c4, c5, c6]) rfl ⟨_, _, rfl, HFn.out.1, HFn.out.2⟩
      · skip
        go_wp2_with fail
        refine (l1InB v 0 9 _).mono ?_
        rintro e wi ⟨rfl, rfl⟩
        rw [inBq_no (by omega)]
        obtain ⟨rfl, rfl⟩ := HRng.out (by first | trivial | rfl) (by omega)
        clear hv ht
        obtain ⟨v0, v1, v2, v3, v4, v5⟩ := VB.out
        go_wp2_with fail
        refine (l10BadI 3 _).mono ?_
        rintro e wb ⟨rfl, hb⟩
        have RZ := hide (RB.out.later hb)
        clear hb v0 v1 v2 v3 v4 v5
        have HFn := hide (ret_none (x0 := .int .i64 3) (x1 := .int .i64 0) (x2 := .int .i64 0) (x3 := .int .i64 0) (x4 := .int .i64 0) RZ.out.below RZ.out.ge)
        obtain ⟨_, ⟨c0, c1, c2, c3, c4, c5, c6⟩, F, _⟩ := RZ.out
        have f0 := F 0
        have f1 := F 1
        have f2 := F 2
        have f3 := F 3
        have f4 := F 4
        have f5 := F 5
        have f6 := F 6
        clear F
        go_wp2
        refine bodyPost_ret (v := .agg #[.int .i64 3, .int .i64 0, .int .i64 0, .int .i64 0, .int .i64 0, .slice none 0 0, .slice none 0 0]) (by simp [results, Tryd.results9, go_sem, c0, c1, c2, c3, c4, c5, c6]) rfl ⟨_, _, rfl, HFn.out.1, HFn.out.2⟩
    · skip
      go_wp2_with fail
      refine (l1InB t 0 999 _).mono ?_
      rintro e wi ⟨rfl, rfl⟩
      rw [inBq_no (by omega)]
      obtain ⟨rfl, rfl⟩ := HRng.out (by first | trivial | rfl) (by omega)
      clear ht
      obtain ⟨v0, v1, v2, v3, v4, v5⟩ := VB.out
      go_wp2_with fail
      refine (l10BadI 3 _).mono ?_
      rintro e wb ⟨rfl, hb⟩
      have RZ := hide (RB.out.later hb)
      clear hb v0 v1 v2 v3 v4 v5
      have HFn := hide (ret_none (x0 := .int .i64 3) (x1 := .int .i64 0) (x2 := .int .i64 0) (x3 := .int .i64 0) (x4 := .int .i64 0) RZ.out.below RZ.out.ge)
      obtain ⟨_, ⟨c0, c1, c2, c3, c4, c5, c6⟩, F, _⟩ := RZ.out
      have f0 := F 0
      have f1 := F 1
      have f2 := F 2
      have f3 := F 3
      have f4 := F 4
      have f5 := F 5
      have f6 := F 6
      clear F
      go_wp2
      refine bodyPost_ret (v := .agg #[.int .i64 3, .int .i64 0, .int .i64 0, .int .i64 0, .int .i64 0, .slice none 0 0, .slice none 0 0]) (by simp [results, Tryd.results9, go_sem, c0, c1, c2, c3, c4, c5, c6]) rfl ⟨_, _, rfl, HFn.out.1, HFn.out.2⟩
  · obtain ⟨rfl, rfl⟩ := HBad.out h0
    have h0b : (C == 0) = false := by simpa using h0
    have h0c : (C != 0) = true := by simp [h0]
    clear h0
    obtain ⟨v0, v1, v2, v3, v4, v5⟩ := VB.out
    go_wp2_with fail
    refine (l10BadI C _).mono ?_
    rintro e wb ⟨rfl, hb⟩
    have RZ := hide (RB.out.later hb)
    clear hb v0 v1 v2 v3 v4 v5
    have HFn := hide (ret_none (x0 := .int .i64 C) (x1 := .int .i64 0) (x2 := .int .i64 0) (x3 := .int .i64 0) (x4 := .int .i64 0) RZ.out.below RZ.out.ge)
    obtain ⟨_, ⟨c0, c1, c2, c3, c4, c5, c6⟩, F, _⟩ := RZ.out
    have f0 := F 0
    have f1 := F 1
    have f2 := F 2
    have f3 := F 3
    have f4 := F 4
    have f5 := F 5
    have f6 := F 6
    clear F
    go_wp2
    refine bodyPost_ret (v := .agg #[.int .i64 C, .int .i64 0, .int .i64 0, .int .i64 0, .int .i64 0, .slice none 0 0, .slice none 0 0]) (by simp [results, Tryd.results9, go_sem, c0, c1, c2, c3, c4, c5, c6]) rfl ⟨_, _, rfl, HFn.out.1, HFn.out.2⟩
end Go.Proofs.YtncgpfapepminaaDoor
