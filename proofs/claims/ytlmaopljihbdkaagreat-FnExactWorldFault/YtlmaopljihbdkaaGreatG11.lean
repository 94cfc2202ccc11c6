/- Ra5 Tear Mp1 Cont in one text: what each says stands at its head below. -/
import Derived.Test.YtlmaopljihbdkaaGreatG10
import Derived.Test.YtlmaopljihbdkaaGreatG04
import Derived.Deep.AppendLies
import Derived.BigQuiet
namespace Go.Proofs.YtlmaopljihbdkaaGreat
open Go.RowKit
theorem l10DataI {S : Nat → Prop} {w : World} {v : Value} {xs : List Int} (hv : RdI S w v xs) :
    Calls Tryz.prog 64 #[v] w fun e w' => e = .returned (.int .i64 (daF xs)) ∧ ∃ q, w' = w.drewN q := by
  have hm : xs.length ≤ 9223372036854775807 := hv.maxR
  have HW := hide (l1Words hv)
  obtain ⟨ao, c, rfl⟩ := hv.shape
  have HD : Hid (daF xs = if 40 < xs.length then 2 else wordsF xs) := rfl
  obtain ⟨l, hl⟩ : ∃ l, xs.length = l := ⟨_, rfl⟩
  rw [HD.out]
  rw [hl] at hm HW ⊢
  clear HD hl hv
  by_cases h : 40 < l
  · have h' : (40 : Int) < (l : Int) := by omega
    rw [if_pos h]
    go_enter Tryz.func64, Tryz.ntmps64
    go_wp2
    go_ret
    exact ⟨rfl, 0, rfl⟩
  · have h' : ¬ (40 : Int) < (l : Int) := by omega
    rw [if_neg h]
    go_enter Tryz.func64, Tryz.ntmps64
    go_wp2_with fail
    refine HW.out.mono ?_
    rintro e w1 ⟨rfl, q, rfl⟩
    go_wp2
    go_ret
    exact ⟨rfl, q, rfl⟩
def inBq (v lo hi : Int) : Bool := decide (lo ≤ v ∧ v ≤ hi)
theorem inBq_yes {v lo hi : Int} (h : lo ≤ v ∧ v ≤ hi) : inBq v lo hi = true := decide_eq_true h
theorem inBq_no {v lo hi : Int} (h : ¬ (lo ≤ v ∧ v ≤ hi)) : inBq v lo hi = false := decide_eq_false h
theorem l1InB (v lo hi : Int) (w : World) : Calls Tryz.prog 63 #[.int .i64 v, .int .i64 lo, .int .i64 hi] w fun e w' => e = .returned (.bool (inBq v lo hi)) ∧ w' = w := by
  by_cases h : lo ≤ v ∧ v ≤ hi
  · rw [inBq_yes h]; exact l1In_yes v lo hi h.1 h.2 w
  · rw [inBq_no h]; exact l1In_no v lo hi (by omega) w
set_option maxHeartbeats 8000000 in
set_option maxRecDepth 4000 in
theorem l10Fault {S T : Nat → Prop} {w : World} {bk : Nat} {y z : Value} (r : Rf) (hv : Var6 w bk (.int .i64 r.tm) (.int .i64 r.vt) (.int .i64 r.si) (.int .i64 r.st) y z) (hy : RdI S w y r.sn) (hz : RdJ T w z r.lg) :
    Calls Tryz.prog 31 #[.pointer (some ⟨bk, 0, none⟩)] w fun e w' => e = .returned (.int .i64 (rfF r)) ∧ Below w.heap.size w w' := by
  obtain ⟨ay, cy, rfl⟩ := hy.shape
  obtain ⟨az, cz, rfl, hzm⟩ := hz.shape
  have hym := hy.maxR
  have hrg : rgR r ↔ ((0 ≤ r.tm ∧ r.tm ≤ 999) ∧ (0 ≤ r.vt ∧ r.vt ≤ 9)) ∧ (0 ≤ r.si ∧ r.si ≤ 9999) ∧ 0 ≤ r.st ∧ r.st ≤ r.tm := Iff.rfl
  have hfm : fmR r ↔ ((r.si = 0 ↔ r.st = 0) ∧ (r.si = 0 → r.sn.length = 0)) := by unfold fmR; simp only [List.length_eq_zero_iff]
  have hlk : lkR r ↔ (r.lg ≠ [] → (r.lg.getD 0 oj0).1 = r.si + 1 ∧ r.st ≤ (r.lg.getD 0 oj0).2.1 ∧ (r.lg.getD (r.lg.length - 1) oj0).2.1 ≤ r.tm) := Iff.rfl
  have HF := hide (@rfF_range r)
  have HF1 := hide (@rfF_data r)
  have HF2 := hide (@rfF_form r)
  have HF3 := hide (@rfF_log r)
  have HF4 := hide (@rfF_link r)
  have HF5 := hide (@rfF_ok r)
  obtain ⟨Z, hZ⟩ : ∃ Z, rfF r = Z := ⟨_, rfl⟩
  rw [hZ] at HF HF1 HF2 HF3 HF4 HF5 ⊢
  have H3 := hide (fun (w' : World) (hb : Below w.heap.size w w') => l10DataI (hy.later hb))
  have H5 := hide (fun (w' : World) (hb : Below w.heap.size w w') => l9Log (hz.later hb))
  have HZ0 := hide hz
  have HRG := hide hrg
  have HFM := hide hfm
  have HLK := hide hlk
  obtain ⟨l, hl⟩ : ∃ l, r.sn.length = l := ⟨_, rfl⟩
  obtain ⟨m, hm⟩ : ∃ m, r.lg.length = m := ⟨_, rfl⟩
  rw [hl] at hv H3 HFM hym
  rw [hm] at hv H5 HZ0 HLK hzm
  have HM := hide hm
  have VA := hide hv
  obtain ⟨D, hD⟩ : ∃ D, daF r.sn = D := ⟨_, rfl⟩
  obtain ⟨G, hG⟩ : ∃ G, logF r.lg = G := ⟨_, rfl⟩
  rw [hD] at H3 HF1 HF2 HF3 HF4 HF5
  rw [hG] at H5 HF3 HF4 HF5
  clear hv hy hz hlk hrg hfm hZ hl hm hD hG
  generalize r.tm = a at *
  generalize r.vt = b at *
  generalize r.si = c at *
  generalize r.st = d at *
  have BA := hide (Below.refl w.heap.size w)
  by_cases q1 : 0 ≤ a ∧ a ≤ 999
  · have i1 := inBq_yes q1
    by_cases q2 : 0 ≤ b ∧ b ≤ 9
    · have i2 := inBq_yes q2
      by_cases q3 : 0 ≤ c ∧ c ≤ 9999
      · have i3 := inBq_yes q3
        by_cases q4 : 0 ≤ d ∧ d ≤ a
        · have i4 := inBq_yes q4
          have KR : Hid (rgR r) := HRG.out.2 ⟨⟨q1, q2⟩, q3, q4⟩
          clear q1 q2 q3 q4
          obtain ⟨c0, c1, c2, c3, c4, c5⟩ := VA.out
          go_enter Tryz.func31, Tryz.ntmps31
          go_wp2_with fail
          go_quiet ((go_at_call 63; exact Calls.quiet_of_same (l1InB _ _ _ _)))
          go_wp2_with fail
          refine (H3.out _ (below_drewN _ _)).mono ?_
          rintro e w3 ⟨rfl, q, rfl⟩
          have hb3 := below_on (below_drewN w nq) (below_drewN _ q)
          have VA3 := hide (VA.out.later hb3)
          have B3 := hide hb3
          clear hb3
          clear i1 i2 i3 i4
          obtain ⟨w3, hw3⟩ : ∃ x, (w.drewN nq).drewN q = x := ⟨_, rfl⟩
          rw [hw3] at VA3 B3 ⊢
          clear hw3 c0 c1 c2 c3 c4 c5
          obtain ⟨c0, c1, c2, c3, c4, c5⟩ := VA3.out
          by_cases hD : D = 0
          · subst hD
            by_cases f1 : c = 0
            · subst f1
              by_cases f2 : d = 0
              · subst f2
                by_cases f3 : l = 0
                · subst f3
                  have KF : Hid (fmR r) := HFM.out.2 ⟨Iff.rfl, fun _ => rfl⟩
                  go_wp2_with fail
                  go_quiet (fail)
                  go_wp2_with fail
                  refine (H5.out _ (below_on B3.out (below_drewN _ _))).mono ?_
                  rintro e w5 ⟨rfl, hb⟩
                  have hb5 := below_on (below_drewN w3 _) hb
                  have VA5 := hide (VA3.out.later hb5)
                  have B5 := hide (below_on B3.out hb5)
                  clear hb hb5 c0 c1 c2 c3 c4 c5
                  obtain ⟨c0, c1, c2, c3, c4, c5⟩ := VA5.out
                  by_cases hG : G = 0
                  · subst hG
                    by_cases hne : r.lg = []
                    · skip
                      have hm0 : m = 0 := by rw [← HM.out, hne]; rfl
                      subst hm0
                      have HZ : Hid ((0 : Int) = Z) := (HF5.out KR.out (by first | trivial | rfl) KF.out (by first | trivial | rfl) (HLK.out.2 (fun h => absurd hne h))).symm
                      go_wp2_with fail
                      go_quiet (fail)
                      go_wp2
                      go_ret
                      exact ⟨ret_int HZ.out, below_on B5.out (below_drewN _ _)⟩
                    · skip
                      have hpos : 0 < m := by rw [← HM.out]; exact List.length_pos_iff.2 hne
                      have hzl := HZ0.out.later B5.out
                      obtain ⟨b', off, e1, y0, p0, p1, p2, p3⟩ := hzl.file (k := 0) (by rw [HM.out]; exact hpos)
                      obtain ⟨b2, off2, e', y', r0, r1, r2, r3⟩ := hzl.file (k := m - 1) (by rw [HM.out]; omega)
                      subst e1
                      injection e' with e'
                      injection e' with e1 e2
                      subst e1 e2
                      have HG : Hid (lkR r ↔ (r.lg.getD 0 oj0).1 = 0 + 1 ∧ 0 ≤ (r.lg.getD 0 oj0).2.1 ∧ (r.lg.getD (m - 1) oj0).2.1 ≤ a) := ⟨fun h => HLK.out.1 h hne, fun h => HLK.out.2 fun _ => h⟩
                      have h3 := (HRG.out.1 KR.out).2.1
                      obtain ⟨x, hx⟩ : ∃ x, r.lg.getD 0 oj0 = x := ⟨_, rfl⟩
                      obtain ⟨x', hx'⟩ : ∃ x', r.lg.getD (m - 1) oj0 = x' := ⟨_, rfl⟩
                      rw [hx] at p0 p1 HG
                      rw [hx'] at r1 HG
                      obtain ⟨a0, t0, xs0⟩ := x
                      obtain ⟨a1, t1, xs1⟩ := x'
                      dsimp only at p0 p1 r1 HG
                      simp only [Nat.zero_mul, Nat.add_zero] at p0 p1
                      clear p2 p3 r0 r2 r3 hzl hx hx'
                      have hw1 : IntKind.i64.wrap ((m : Int) - 1) = ((m - 1 : Nat) : Int) := by simp [IntKind.wrap, IntKind.bits, IntKind.signed]; omega
                      obtain ⟨j, hj⟩ : ∃ j, m - 1 = j := ⟨_, rfl⟩
                      rw [hj] at r1 hw1
                      have hjm : (j : Int) < (m : Int) := by omega
                      have hj0 : (0 : Int) ≤ (j : Int) := by omega
                      have hm1 : (0 : Int) < (m : Int) := by omega
                      have hmt : decide ((m : Int) > 0) = true := by simp; omega
                      clear hj hne
                      by_cases e1 : a0 = 1
                      · subst e1
                        by_cases e2 : t0 < 0
                        · have e2' : decide (t0 < 0) = true := by simpa using e2
                          have HZ : Hid ((1 : Int) = Z) := (HF4.out KR.out (by first | trivial | rfl) KF.out (by first | trivial | rfl) (fun h => by have := (HG.out.1 h).2.1; omega)).symm
                          go_wp2_with fail
                          go_quiet (fail)
                          go_wp2
                          go_ret
                          exact ⟨ret_int HZ.out, below_on B5.out (below_drewN _ _)⟩
                        · have e2' : decide (t0 < 0) = false := by simpa using e2
                          by_cases e3 : a < t1
                          · have e3' : decide (t1 > a) = true := by simpa using e3
                            have HZ : Hid ((1 : Int) = Z) := (HF4.out KR.out (by first | trivial | rfl) KF.out (by first | trivial | rfl) (fun h => by have := (HG.out.1 h).2.2; omega)).symm
                            go_wp2_with fail
                            go_quiet (fail)
                            go_wp2
                            go_ret
                            exact ⟨ret_int HZ.out, below_on B5.out (below_drewN _ _)⟩
                          · have e3' : decide (t1 > a) = false := by simpa using e3
                            have HZ : Hid ((0 : Int) = Z) := (HF5.out KR.out (by first | trivial | rfl) KF.out (by first | trivial | rfl) (HG.out.2 ⟨by omega, by omega, by omega⟩)).symm
                            go_wp2_with fail
                            go_quiet (fail)
                            go_wp2
                            go_ret
                            exact ⟨ret_int HZ.out, below_on B5.out (below_drewN _ _)⟩
                      · have e1' : (a0 == 1) = false := by simpa using e1
                        have HZ : Hid ((1 : Int) = Z) := (HF4.out KR.out (by first | trivial | rfl) KF.out (by first | trivial | rfl) (fun h => by have := (HG.out.1 h).1; omega)).symm
                        have e1b : decide (a0 = 1) = false := by simpa using e1
                        have e1c : (a0 != 1) = true := by simpa using e1
                        have e1d : decide (a0 ≠ 1) = true := by simpa using e1
                        clear e1
                        go_wp2_with fail
                        go_quiet (fail)
                        go_wp2
                        go_ret
                        exact ⟨ret_int HZ.out, below_on B5.out (below_drewN _ _)⟩
                  · have HZ : Hid (G = Z) := (HF3.out KR.out (by first | trivial | rfl) KF.out hG).symm
                    have hG' : (G == 0) = false := by simpa using hG
                    go_wp2
                    go_ret
                    exact ⟨ret_int HZ.out, B5.out⟩
                · have f3' : decide ((l : Int) > 0) = true := by simp; omega
                  have HZ : Hid ((1 : Int) = Z) := (HF2.out KR.out (by first | trivial | rfl) (fun h => f3 ((HFM.out.1 h).2 rfl))).symm
                  go_wp2_with fail
                  go_quiet (fail)
                  go_wp2
                  go_ret
                  exact ⟨ret_int HZ.out, below_on B3.out (below_drewN _ _)⟩
              · have f2' : (d == 0) = false := by simpa using f2
                have HZ : Hid ((1 : Int) = Z) := (HF2.out KR.out (by first | trivial | rfl) (fun h => f2 ((HFM.out.1 h).1.1 rfl))).symm
                go_wp2_with fail
                go_quiet (fail)
                go_wp2
                go_ret
                exact ⟨ret_int HZ.out, below_on B3.out (below_drewN _ _)⟩
            · have f1' : (c == 0) = false := by simpa using f1
              by_cases f2 : d = 0
              · subst f2
                have HZ : Hid ((1 : Int) = Z) := (HF2.out KR.out (by first | trivial | rfl) (fun h => f1 ((HFM.out.1 h).1.2 rfl))).symm
                go_wp2_with fail
                go_quiet (fail)
                go_wp2
                go_ret
                exact ⟨ret_int HZ.out, below_on B3.out (below_drewN _ _)⟩
              · have f2' : (d == 0) = false := by simpa using f2
                have KF : Hid (fmR r) := HFM.out.2 ⟨⟨fun h => absurd h f1, fun h => absurd h f2⟩, fun h => absurd h f1⟩
                go_wp2_with fail
                go_quiet (fail)
                go_wp2_with fail
                refine (H5.out _ (below_on B3.out (below_drewN _ _))).mono ?_
                rintro e w5 ⟨rfl, hb⟩
                have hb5 := below_on (below_drewN w3 _) hb
                have VA5 := hide (VA3.out.later hb5)
                have B5 := hide (below_on B3.out hb5)
                clear hb hb5 c0 c1 c2 c3 c4 c5
                obtain ⟨c0, c1, c2, c3, c4, c5⟩ := VA5.out
                by_cases hG : G = 0
                · subst hG
                  by_cases hne : r.lg = []
                  · skip
                    have hm0 : m = 0 := by rw [← HM.out, hne]; rfl
                    subst hm0
                    have HZ : Hid ((0 : Int) = Z) := (HF5.out KR.out (by first | trivial | rfl) KF.out (by first | trivial | rfl) (HLK.out.2 (fun h => absurd hne h))).symm
                    go_wp2_with fail
                    go_quiet (fail)
                    go_wp2
                    go_ret
                    exact ⟨ret_int HZ.out, below_on B5.out (below_drewN _ _)⟩
                  · skip
                    have hpos : 0 < m := by rw [← HM.out]; exact List.length_pos_iff.2 hne
                    have hzl := HZ0.out.later B5.out
                    obtain ⟨b', off, e1, y0, p0, p1, p2, p3⟩ := hzl.file (k := 0) (by rw [HM.out]; exact hpos)
                    obtain ⟨b2, off2, e', y', r0, r1, r2, r3⟩ := hzl.file (k := m - 1) (by rw [HM.out]; omega)
                    subst e1
                    injection e' with e'
                    injection e' with e1 e2
                    subst e1 e2
                    have HG : Hid (lkR r ↔ (r.lg.getD 0 oj0).1 = c + 1 ∧ d ≤ (r.lg.getD 0 oj0).2.1 ∧ (r.lg.getD (m - 1) oj0).2.1 ≤ a) := ⟨fun h => HLK.out.1 h hne, fun h => HLK.out.2 fun _ => h⟩
                    have h3 := (HRG.out.1 KR.out).2.1
                    obtain ⟨x, hx⟩ : ∃ x, r.lg.getD 0 oj0 = x := ⟨_, rfl⟩
                    obtain ⟨x', hx'⟩ : ∃ x', r.lg.getD (m - 1) oj0 = x' := ⟨_, rfl⟩
                    rw [hx] at p0 p1 HG
                    rw [hx'] at r1 HG
                    obtain ⟨a0, t0, xs0⟩ := x
                    obtain ⟨a1, t1, xs1⟩ := x'
                    dsimp only at p0 p1 r1 HG
                    simp only [Nat.zero_mul, Nat.add_zero] at p0 p1
                    clear p2 p3 r0 r2 r3 hzl hx hx'
                    have hw1 : IntKind.i64.wrap ((m : Int) - 1) = ((m - 1 : Nat) : Int) := by simp [IntKind.wrap, IntKind.bits, IntKind.signed]; omega
                    obtain ⟨j, hj⟩ : ∃ j, m - 1 = j := ⟨_, rfl⟩
                    rw [hj] at r1 hw1
                    have hjm : (j : Int) < (m : Int) := by omega
                    have hj0 : (0 : Int) ≤ (j : Int) := by omega
                    have hm1 : (0 : Int) < (m : Int) := by omega
                    have hmt : decide ((m : Int) > 0) = true := by simp; omega
                    clear hj hne
                    have hc1 : IntKind.i64.wrap (c + 1) = c + 1 := by simp [IntKind.wrap, IntKind.bits, IntKind.signed]; omega
                    obtain ⟨s, hs⟩ : ∃ s, c + 1 = s := ⟨_, rfl⟩
                    rw [hs] at HG
                    have hc2 : IntKind.i64.wrap (c + 1) = s := hc1.trans hs
                    have HS := hide hs
                    clear hc1 hs h3
                    by_cases e1 : a0 = s
                    · subst e1
                      by_cases e2 : t0 < d
                      · have e2' : decide (t0 < d) = true := by simpa using e2
                        have HZ : Hid ((1 : Int) = Z) := (HF4.out KR.out (by first | trivial | rfl) KF.out (by first | trivial | rfl) (fun h => by have := (HG.out.1 h).2.1; omega)).symm
                        go_wp2_with fail
                        go_quiet (fail)
                        go_wp2
                        go_ret
                        exact ⟨ret_int HZ.out, below_on B5.out (below_drewN _ _)⟩
                      · have e2' : decide (t0 < d) = false := by simpa using e2
                        by_cases e3 : a < t1
                        · have e3' : decide (t1 > a) = true := by simpa using e3
                          have HZ : Hid ((1 : Int) = Z) := (HF4.out KR.out (by first | trivial | rfl) KF.out (by first | trivial | rfl) (fun h => by have := (HG.out.1 h).2.2; omega)).symm
                          go_wp2_with fail
                          go_quiet (fail)
                          go_wp2
                          go_ret
                          exact ⟨ret_int HZ.out, below_on B5.out (below_drewN _ _)⟩
                        · have e3' : decide (t1 > a) = false := by simpa using e3
                          have HZ : Hid ((0 : Int) = Z) := (HF5.out KR.out (by first | trivial | rfl) KF.out (by first | trivial | rfl) (HG.out.2 ⟨by omega, by omega, by omega⟩)).symm
                          go_wp2_with fail
                          go_quiet (fail)
                          go_wp2
                          go_ret
                          exact ⟨ret_int HZ.out, below_on B5.out (below_drewN _ _)⟩
                    · have e1' : (a0 == s) = false := by simpa using e1
                      have HZ : Hid ((1 : Int) = Z) := (HF4.out KR.out (by first | trivial | rfl) KF.out (by first | trivial | rfl) (fun h => by have := (HG.out.1 h).1; omega)).symm
                      have e1b : decide (a0 = s) = false := by simpa using e1
                      have e1c : (a0 != s) = true := by simpa using e1
                      have e1d : decide (a0 ≠ s) = true := by simpa using e1
                      clear e1
                      go_wp2_with fail
                      go_quiet (fail)
                      go_wp2
                      go_ret
                      exact ⟨ret_int HZ.out, below_on B5.out (below_drewN _ _)⟩
                · have HZ : Hid (G = Z) := (HF3.out KR.out (by first | trivial | rfl) KF.out hG).symm
                  have hG' : (G == 0) = false := by simpa using hG
                  go_wp2
                  go_ret
                  exact ⟨ret_int HZ.out, B5.out⟩
          · have HZ : Hid (D = Z) := (HF1.out KR.out hD).symm
            have hD' : (D == 0) = false := by simpa using hD
            go_wp2
            go_ret
            exact ⟨ret_int HZ.out, B3.out⟩
        · skip
          have HZ : Hid ((3 : Int) = Z) := (HF.out (fun h => by have := HRG.out.1 h; omega)).symm
          have i4 := inBq_no q4
          clear q1 q2 q3 q4
          obtain ⟨c0, c1, c2, c3, c4, c5⟩ := VA.out
          go_enter Tryz.func31, Tryz.ntmps31
          go_wp2_with fail
          go_quiet ((go_at_call 63; exact Calls.quiet_of_same (l1InB _ _ _ _)))
          go_wp2
          go_ret
          exact ⟨ret_int HZ.out, below_drewN _ _⟩
      · skip
        have HZ : Hid ((3 : Int) = Z) := (HF.out (fun h => by have := HRG.out.1 h; omega)).symm
        have i3 := inBq_no q3
        clear q1 q2 q3
        obtain ⟨c0, c1, c2, c3, c4, c5⟩ := VA.out
        go_enter Tryz.func31, Tryz.ntmps31
        go_wp2_with fail
        go_quiet ((go_at_call 63; exact Calls.quiet_of_same (l1InB _ _ _ _)))
        go_wp2
        go_ret
        exact ⟨ret_int HZ.out, below_drewN _ _⟩
    · skip
      have HZ : Hid ((3 : Int) = Z) := (HF.out (fun h => by have := HRG.out.1 h; omega)).symm
      have i2 := inBq_no q2
      clear q1 q2
      obtain ⟨c0, c1, c2, c3, c4, c5⟩ := VA.out
      go_enter Tryz.func31, Tryz.ntmps31
      go_wp2_with fail
      go_quiet ((go_at_call 63; exact Calls.quiet_of_same (l1InB _ _ _ _)))
      go_wp2
      go_ret
      exact ⟨ret_int HZ.out, below_drewN _ _⟩
  · skip
    have HZ : Hid ((3 : Int) = Z) := (HF.out (fun h => by have := HRG.out.1 h; omega)).symm
    have i1 := inBq_no q1
    clear q1
    obtain ⟨c0, c1, c2, c3, c4, c5⟩ := VA.out
    go_enter Tryz.func31, Tryz.ntmps31
    go_wp2_with fail
    go_quiet ((go_at_call 63; exact Calls.quiet_of_same (l1InB _ _ _ _)))
    go_wp2
    go_ret
    exact ⟨ret_int HZ.out, below_drewN _ _⟩
end Go.Proofs.YtlmaopljihbdkaaGreat
namespace Go.Proofs.YtlmaopljihbdkaaGreat
open Go.RowKit
theorem l1Min_any (a b : Int) (w : World) :
    Calls Tryz.prog 118 #[.int .i64 a, .int .i64 b] w fun e w' => e = .returned (.int .i64 (if a < b then a else b)) ∧ w' = w := by
  by_cases h : a < b
  · rw [if_pos h]
    go_enter Tryz.func118, Tryz.ntmps118
    go_wp2
    go_ret
    exact ⟨rfl, rfl⟩
  · rw [if_neg h]
    go_enter Tryz.func118, Tryz.ntmps118
    go_wp2
    go_ret
    exact ⟨rfl, rfl⟩
theorem RdI_nil (S : Nat → Prop) (w : World) (ao : Option Addr) (c : Nat) : RdI S w (.slice ao 0 c) [] := ⟨ao, c, by simp, by simp, fun h => absurd rfl h⟩
theorem ownsRow_shape {w : World} {B e z n : Nat} {v : Value} {xs : List Value} (h : w.ownsRow B e z v n xs) : ∃ ao c, v = .slice ao n c := by
  rcases h.2 with ⟨rfl, e⟩ | ⟨g, cap, cur, rfl, _⟩
  · exact ⟨none, 0, by rw [e]⟩
  · exact ⟨_, _, rfl⟩
theorem snoc_zero (a : List Int) (j : Nat) : (a ++ List.replicate (j + 1) 0).map (Value.int .i64) = a.map (Value.int .i64) ++ (List.replicate j (.int .i64 0) ++ [.int .i64 0]) := by
  rw [List.replicate_succ']
  simp
def sliceLen : Value → Nat
  | .slice _ n _ => n
  | _ => 0
theorem RdI.at {S : Nat → Prop} {w : World} {ao : Option Addr} {n c : Nat} {xs : List Int} (h : RdI S w (.slice ao n c) xs) {k : Nat} (hk : k < xs.length) : ∃ b off, ao = some ⟨b, off, none⟩ ∧ w.cell? ⟨b, off + k, none⟩ = some (.int .i64 (xs.getD k 0)) := by
  obtain ⟨ao', c', e1, e2, e3⟩ := h
  obtain ⟨b, off, f1, f2, f3⟩ := e3 (by rintro rfl; simp at hk)
  injection e1 with e1 _ _
  exact ⟨b, off, by rw [e1, f1], f3 k hk⟩
end Go.Proofs.YtlmaopljihbdkaaGreat
namespace Go.Proofs.YtlmaopljihbdkaaGreat
open Go.RowKit
def mpS (xs : List Int) (i : Nat) : Int :=
  if ¬ (3 ≤ xs.getD i 0 ∧ xs.getD i 0 ≤ 22) then 3 else if 0 < i ∧ xs.getD i 0 ≤ xs.getD (i - 1) 0 then 1 else 0
def mpFrom (xs : List Int) : Nat → Nat → Int
  | 0, _ => 0
  | n + 1, k => if mpS xs k = 0 then mpFrom xs n (k + 1) else mpS xs k
def mapF (xs : List Int) : Int := mpFrom xs xs.length 0
theorem mpFrom_ok {xs : List Int} {m j : Nat} (hj : j < m) (h : mpS xs j = 0) : mpFrom xs (m - j) j = mpFrom xs (m - (j + 1)) (j + 1) := by
  rw [show m - j = (m - (j + 1)) + 1 by omega, mpFrom, if_pos h]
theorem mpFrom_no {xs : List Int} {m j : Nat} (hj : j < m) (h : mpS xs j ≠ 0) : mpFrom xs (m - j) j = mpS xs j := by
  rw [show m - j = (m - (j + 1)) + 1 by omega, mpFrom, if_neg h]
theorem mpFrom_end {xs : List Int} {m j : Nat} (hj : ¬ j < m) : mpFrom xs (m - j) j = 0 := by
  rw [show m - j = 0 by omega, mpFrom]
theorem mpFrom_all {xs : List Int} : ∀ (n k : Nat), mpFrom xs n k = 0 ↔ ∀ i, k ≤ i → i < k + n → mpS xs i = 0
  | 0, k => ⟨fun _ i h1 h2 => by omega, fun _ => rfl⟩
  | n + 1, k => by
    rw [mpFrom]
    by_cases hs : mpS xs k = 0
    · rw [if_pos hs, mpFrom_all n (k + 1)]
      constructor
      · intro h i h1 h2
        by_cases e : i = k
        · rw [e]; exact hs
        · exact h i (by omega) (by omega)
      · intro h i h1 h2
        exact h i (by omega) (by omega)
    · rw [if_neg hs]
      exact ⟨fun h => absurd h hs, fun h => h k (Nat.le_refl _) (by omega)⟩
def IsMap (xs : List Int) : Prop := (∀ x, x ∈ xs → 3 ≤ x ∧ x ≤ 22) ∧ xs.Pairwise (· < ·)
theorem mpS_iff {xs : List Int} {i : Nat} : mpS xs i = 0 ↔ (3 ≤ xs.getD i 0 ∧ xs.getD i 0 ≤ 22) ∧ ¬ (0 < i ∧ xs.getD i 0 ≤ xs.getD (i - 1) 0) := by
  unfold mpS
  by_cases h1 : 3 ≤ xs.getD i 0 ∧ xs.getD i 0 ≤ 22
  · rw [if_neg (fun h => h h1)]
    by_cases h2 : 0 < i ∧ xs.getD i 0 ≤ xs.getD (i - 1) 0
    · rw [if_pos h2]; exact ⟨fun h => absurd h (by decide), fun h => absurd h2 h.2⟩
    · rw [if_neg h2]; exact ⟨fun _ => ⟨h1, h2⟩, fun _ => rfl⟩
  · rw [if_pos h1]; exact ⟨fun h => absurd h (by decide), fun h => absurd h.1 h1⟩
theorem up_of_next {xs : List Int} (h : ∀ i, i + 1 < xs.length → xs.getD i 0 < xs.getD (i + 1) 0) : ∀ (i j : Nat), i < j → j < xs.length → xs.getD i 0 < xs.getD j 0 := by
  intro i j
  induction j with
  | zero => intro h; omega
  | succ j ih =>
    intro h1 h2
    have h3 := h j h2
    by_cases e : i = j
    · rw [e]; exact h3
    · have := ih (by omega) (by omega); omega
theorem mapF_iff {xs : List Int} : mapF xs = 0 ↔ IsMap xs := by
  unfold mapF IsMap
  rw [mpFrom_all]
  constructor
  · intro h
    have hs : ∀ i, i < xs.length → (3 ≤ xs.getD i 0 ∧ xs.getD i 0 ≤ 22) ∧ ¬ (0 < i ∧ xs.getD i 0 ≤ xs.getD (i - 1) 0) := fun i hi => mpS_iff.1 (h i (Nat.zero_le _) (by omega))
    refine ⟨fun x hx => ?_, ?_⟩
    · obtain ⟨i, hi, rfl⟩ := List.mem_iff_getElem.1 hx
      have := (hs i hi).1
      simpa [List.getD, hi] using this
    · rw [List.pairwise_iff_getElem]
      intro i j hi hj hij
      have := up_of_next (xs := xs) (fun i hi => by have := (hs (i + 1) hi).2; rw [show i + 1 - 1 = i by omega] at this; omega) i j hij hj
      simpa [List.getD, hi, hj] using this
  · rintro ⟨h1, h2⟩ i _ hi
    rw [Nat.zero_add] at hi
    rw [mpS_iff]
    refine ⟨?_, fun ⟨h0, h⟩ => ?_⟩
    · have := h1 xs[i] (List.getElem_mem hi)
      simpa [List.getD, hi] using this
    · rw [List.pairwise_iff_getElem] at h2
      have := h2 (i - 1) i (by omega) hi (by omega)
      have h3 : i - 1 < xs.length := by omega
      simp [List.getD, hi, h3] at h
      omega
theorem RdI.max {S : Nat → Prop} {w : World} {v : Value} {xs : List Int} (h : RdI S w v xs) : xs.length ≤ 9223372036854775807 := by obtain ⟨_, _, _, h, _⟩ := h; exact h
set_option maxHeartbeats 1000000 in
set_option maxRecDepth 4000 in
theorem implMapFault {S : Nat → Prop} {w : World} {v : Value} {xs : List Int} (hv : RdI S w v xs) :
    Calls Tryz.prog 172 #[v] w fun e w' => e = .returned (.int .i64 (mapF xs)) ∧ ∃ q, w' = w.drewN q := by
  obtain ⟨ao, c, rfl⟩ := hv.shape
  have hm := hv.max
  have HV := hide hv
  obtain ⟨m, hmm⟩ : ∃ m, xs.length = m := ⟨_, rfl⟩
  have HM := hide hmm
  rw [hmm] at HV hm ⊢
  clear hv hmm
  have HE := hide (show mapF xs = mpFrom xs m 0 by unfold mapF; rw [HM.out])
  go_enter Tryz.func172, Tryz.ntmps172
  go_wp2
  go_loopw [7] (fun i wr => ∃ j q : Nat, j ≤ m ∧ i = .int .i64 j ∧ Hid (mapF xs = mpFrom xs (m - j) j) ∧ wr = w.drewN q) (fun i _ => m - (intOf i).toNat)
  case atStart => exact ⟨0, 0, Nat.zero_le _, rfl, HE.out, rfl⟩
  case round =>
    obtain ⟨k, q, hk, rfl, HG, rfl⟩ := hrel
    by_cases hlt : k < m
    · obtain ⟨b, off, rfl, q1⟩ := HV.out.at (k := k) (by rw [HM.out]; exact hlt)
      obtain ⟨x, hx⟩ : ∃ x, xs.getD k 0 = x := ⟨_, rfl⟩
      rw [hx] at q1
      have HX := hide hx
      clear hx
      have hk0' : (0 : Int) ≤ (k : Int) := by omega
      have hkm' : (k : Int) < (m : Int) := by omega
      by_cases hat : 3 ≤ x ∧ x ≤ 22
      · have HAt := hide hat
        obtain ⟨ha1, ha2⟩ := hat
        have hb1 : ¬ x < 3 := by omega
        have hb2 : ¬ 22 < x := by omega
        by_cases hk0 : k = 0
        · subst hk0
          have q1z : w.cell? ⟨b, off, none⟩ = some (.int .i64 x) := by simpa using q1
          clear q1
          have HF2 := hide (HG.out.trans (mpFrom_ok hlt (by unfold mpS; rw [HX.out, if_neg (fun h => h HAt.out), if_neg (by omega)])))
          go_wp2
          go_roundw
          case rel => exact ⟨0 + 1, q, by omega, by go_num, HF2.out, by first | rfl | trivial⟩
          case measure => simp [intOf]; omega
        · obtain ⟨j, hjk⟩ : ∃ j, k = j + 1 := ⟨k - 1, by omega⟩
          obtain ⟨b', off', e', q1'⟩ := HV.out.at (k := j) (by rw [HM.out]; omega)
          injection e' with e'
          injection e' with e1 e2
          subst e1 e2
          obtain ⟨z, hz⟩ : ∃ z, xs.getD j 0 = z := ⟨_, rfl⟩
          rw [hz] at q1'
          have HZ := hide hz
          clear hz
          have hw1 : IntKind.i64.wrap ((k : Int) - 1) = (j : Int) := by simp [IntKind.wrap, IntKind.bits, IntKind.signed]; omega
          have hkp : 0 < k := by omega
          have hj0 : (0 : Int) < (k : Int) := by omega
          have hjp : (0 : Int) ≤ (j : Int) := by omega
          have hjn : (j : Int) < (m : Int) := by omega
          have HJK := hide hjk
          clear hk0 hjk
          by_cases hxz : x ≤ z
          · have HF2 := hide (HG.out.trans ((mpFrom_no hlt (by unfold mpS; rw [HX.out, if_neg (fun h => h HAt.out), show k - 1 = j by have := HJK.out; omega, HZ.out, if_pos ⟨by omega, hxz⟩]; decide)).trans (show mpS xs k = 1 by unfold mpS; rw [HX.out, if_neg (fun h => h HAt.out), show k - 1 = j by have := HJK.out; omega, HZ.out, if_pos ⟨by omega, hxz⟩])))
            go_wp2
            go_ret
            exact ⟨ret_int HF2.out.symm, q, rfl⟩
          · have HF2 := hide (HG.out.trans (mpFrom_ok hlt (by unfold mpS; rw [HX.out, if_neg (fun h => h HAt.out), show k - 1 = j by have := HJK.out; omega, HZ.out, if_neg (fun h => hxz h.2)])))
            go_wp2
            go_roundw
            case rel => exact ⟨k + 1, q, by omega, by go_num, HF2.out, by first | rfl | trivial⟩
            case measure => simp [intOf]; omega
      · have HF2 : Hid (mapF xs = 3) := by
          have h : mpS xs k = 3 := by unfold mpS; rw [HX.out, if_pos hat]
          exact HG.out.trans ((mpFrom_no hlt (by rw [h]; decide)).trans h)
        have hor : x < 3 ∨ 22 < x := by omega
        clear hat
        by_cases h3 : x < 3
        · go_wp2
          go_ret
          exact ⟨ret_int HF2.out.symm, q, rfl⟩
        · have h22 : 22 < x := by omega
          clear hor
          go_wp2
          go_ret
          exact ⟨ret_int HF2.out.symm, q, rfl⟩
    · have HZ := hide (HG.out.trans (mpFrom_end hlt))
      go_wp2
      go_ret
      exact ⟨ret_int HZ.out.symm, q, rfl⟩
end Go.Proofs.YtlmaopljihbdkaaGreat
namespace Go.Proofs.YtlmaopljihbdkaaGreat
open Go.RowKit
set_option maxHeartbeats 1000000 in
set_option maxRecDepth 4000 in
theorem indexI {S : Nat → Prop} {w : World} {u : Value} {xs : List Int} (x : Int) (hu : RdI S w u xs) :
    Calls Tryz.prog 214 #[u, .int .i64 x] w fun e w' => w' = w ∧ ((e = .returned (.int .i64 (-1)) ∧ x ∉ xs) ∨ ∃ i : Nat, e = .returned (.int .i64 (i : Int)) ∧ x ∈ xs) := by
  have hml : xs.length ≤ 9223372036854775807 := by obtain ⟨_, _, _, h, _⟩ := hu; exact h
  obtain ⟨au, cu, rfl⟩ := hu.shape
  have HU := hide hu
  obtain ⟨n, hn⟩ : ∃ n, xs.length = n := ⟨_, rfl⟩
  have HN := hide hn
  rw [hn] at HU hml ⊢
  clear hu hn
  go_enter Tryz.func214, Tryz.ntmps214
  go_wp2
  go_loopw [8] (fun i wr => ∃ k : Nat, k ≤ n ∧ i = .int .i64 (k : Int) ∧ Hid (∀ j, j < k → xs.getD j 0 ≠ x) ∧ wr = w) (fun i _ => n - (RowKit.intOf i).toNat)
  case atStart => exact ⟨0, Nat.zero_le _, rfl, fun j hj => absurd hj (Nat.not_lt_zero _), rfl⟩
  case round =>
    obtain ⟨k, hk, rfl, HA, rfl⟩ := hrel
    by_cases hlt : k < n
    · obtain ⟨b, off, rfl, q1⟩ := HU.out.at (k := k) (by rw [HN.out]; exact hlt)
      obtain ⟨y, hy⟩ : ∃ y, xs.getD k 0 = y := ⟨_, rfl⟩
      rw [hy] at q1
      have HY := hide hy
      have hk0 : (0 : Int) ≤ (k : Int) := by omega
      have hk1 : (k : Int) < (n : Int) := by omega
      clear hy
      by_cases hxy : x = y
      · subst hxy
        have HIn : Hid (x ∈ xs) := by
          rw [Hid, ← HY.out]
          simp [List.getD, show k < xs.length by rw [HN.out]; exact hlt]
        go_wp2
        go_ret
        exact ⟨rfl, Or.inr ⟨k, rfl, HIn.out⟩⟩
      · have HA' : Hid (∀ j, j < k + 1 → xs.getD j 0 ≠ x) := fun j hj => by
          by_cases e : j = k
          · subst e; rw [HY.out]; exact fun e => hxy e.symm
          · exact HA.out j (by omega)
        have hxb : (x == y) = false := by simpa using hxy
        go_wp2
        go_roundw
        case rel => exact ⟨k + 1, hlt, by go_num, HA'.out, by first | rfl | trivial⟩
        case measure => simp [RowKit.intOf]; omega
    · have hkn : k = n := by omega
      subst hkn
      have HNo : Hid (x ∉ xs) := fun h => by
        obtain ⟨j, hj⟩ := List.mem_iff_getElem?.1 h
        have hl := (List.getElem?_eq_some_iff.1 hj).1
        exact HA.out j (by rw [HN.out] at hl; exact hl) (by simp [List.getD, hj])
      go_wp2
      go_ret
      exact ⟨rfl, Or.inl ⟨rfl, HNo.out⟩⟩
theorem containsI {S : Nat → Prop} {w : World} {u : Value} {xs : List Int} (x : Int) (hu : RdI S w u xs) :
    Calls Tryz.prog 198 #[u, .int .i64 x] w fun e w' => w' = w ∧ e = .returned (.bool (decide (x ∈ xs))) := by
  have HI := hide (indexI x hu)
  obtain ⟨au, cu, rfl⟩ := hu.shape
  clear hu
  go_enter Tryz.func198, Tryz.ntmps198
  go_wp2_with fail
  refine HI.out.mono ?_
  rintro e w' ⟨hw, h⟩
  have hw := hw.symm
  subst hw
  rcases h with ⟨rfl, h⟩ | ⟨i, rfl, h⟩
  · go_wp2
    go_ret
    exact ⟨rfl, by simp [h]⟩
  · have h0 : (0 : Int) ≤ (i : Int) := by omega
    go_wp2
    go_ret
    exact ⟨rfl, by simp [h]⟩
end Go.Proofs.YtlmaopljihbdkaaGreat
