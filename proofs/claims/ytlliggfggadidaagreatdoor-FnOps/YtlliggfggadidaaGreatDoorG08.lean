/- Ra5 Rt2 Hov in one text: what each says stands at its head below. -/
import Derived.Test.YtlliggfggadidaaGreatDoorG06
import Derived.Test.YtlliggfggadidaaGreatDoorG07
namespace Go.Proofs.YtlliggfggadidaaGreatDoor
open Go.RowKit
theorem l10DataI {S : Nat → Prop} {w : World} {v : Value} {xs : List Int} (hv : RdI S w v xs) :
    Calls Tryz.prog 57 #[v] w fun e w' => e = .returned (.int .i64 (daF xs)) ∧ ∃ q, w' = w.drewN q := by
  have hm : xs.length ≤ 9223372036854775807 := hv.maxR
  have HW := hide (l1Words hv)
  obtain ⟨ao, c, rfl⟩ := hv.shape
  have HD : Hid (daF xs = if 40 < xs.length then 2 else wordsF xs) := rfl
  obtain ⟨l, hl⟩ : ∃ l, xs.length = l := ⟨_, rfl⟩
  rw [HD.out]
  rw [hl] at hm HW ⊢
  clear HD hl hv
  by_cases h : 40 < l
  · have h' : (40 : Int) < (l : Int) := by omega
    rw [if_pos h]
    go_enter Tryz.func57, Tryz.ntmps57
    go_wp2
    go_ret
    exact ⟨rfl, 0, rfl⟩
  · have h' : ¬ (40 : Int) < (l : Int) := by omega
    rw [if_neg h]
    go_enter Tryz.func57, Tryz.ntmps57
    go_wp2_with fail
    refine HW.out.mono ?_
    rintro e w1 ⟨rfl, q, rfl⟩
    go_wp2
    go_ret
    exact ⟨rfl, q, rfl⟩
def inBq (v lo hi : Int) : Bool := decide (lo ≤ v ∧ v ≤ hi)
theorem inBq_yes {v lo hi : Int} (h : lo ≤ v ∧ v ≤ hi) : inBq v lo hi = true := decide_eq_true h
theorem inBq_no {v lo hi : Int} (h : ¬ (lo ≤ v ∧ v ≤ hi)) : inBq v lo hi = false := decide_eq_false h
theorem l1InB (v lo hi : Int) (w : World) : Calls Tryz.prog 56 #[.int .i64 v, .int .i64 lo, .int .i64 hi] w fun e w' => e = .returned (.bool (inBq v lo hi)) ∧ w' = w := by
  by_cases h : lo ≤ v ∧ v ≤ hi
  · rw [inBq_yes h]; exact l1In_yes v lo hi h.1 h.2 w
  · rw [inBq_no h]; exact l1In_no v lo hi (by omega) w
set_option maxHeartbeats 8000000 in
set_option maxRecDepth 4000 in
theorem l10Fault {S T : Nat → Prop} {w : World} {bk : Nat} {y z : Value} (r : Rf) (hv : Var6 w bk (.int .i64 r.tm) (.int .i64 r.vt) (.int .i64 r.si) (.int .i64 r.st) y z) (hy : RdI S w y r.sn) (hz : RdJ T w z r.lg) :
    Calls Tryz.prog 25 #[.pointer (some ⟨bk, 0, none⟩)] w fun e w' => e = .returned (.int .i64 (rfF r)) ∧ Below w.heap.size w w' := by
  obtain ⟨ay, cy, rfl⟩ := hy.shape
  obtain ⟨az, cz, rfl, hzm⟩ := hz.shape
  have hym := hy.maxR
  have hrg : rgR r ↔ ((0 ≤ r.tm ∧ r.tm ≤ 999) ∧ (0 ≤ r.vt ∧ r.vt ≤ 9)) ∧ (0 ≤ r.si ∧ r.si ≤ 9999) ∧ 0 ≤ r.st ∧ r.st ≤ r.tm := Iff.rfl
  have hfm : fmR r ↔ ((r.si = 0 ↔ r.st = 0) ∧ (r.si = 0 → r.sn.length = 0)) := by unfold fmR; simp only [List.length_eq_zero_iff]
  have hlk : lkR r ↔ (r.lg ≠ [] → (r.lg.getD 0 oj0).1 = r.si + 1 ∧ r.st ≤ (r.lg.getD 0 oj0).2.1 ∧ (r.lg.getD (r.lg.length - 1) oj0).2.1 ≤ r.tm) := Iff.rfl
  have HF := hide (@rfF_range r)
  have HF1 := hide (@rfF_data r)
  have HF2 := hide (@rfF_form r)
  have HF3 := hide (@rfF_log r)
  have HF4 := hide (@rfF_link r)
  have HF5 := hide (@rfF_ok r)
  obtain ⟨Z, hZ⟩ : ∃ Z, rfF r = Z := ⟨_, rfl⟩
  rw [hZ] at HF HF1 HF2 HF3 HF4 HF5 ⊢
  have H3 := hide (fun (w' : World) (hb : Below w.heap.size w w') => l10DataI (hy.later hb))
  have H5 := hide (fun (w' : World) (hb : Below w.heap.size w w') => l9Log (hz.later hb))
  have HZ0 := hide hz
  have HRG := hide hrg
  have HFM := hide hfm
  have HLK := hide hlk
  obtain ⟨l, hl⟩ : ∃ l, r.sn.length = l := ⟨_, rfl⟩
  obtain ⟨m, hm⟩ : ∃ m, r.lg.length = m := ⟨_, rfl⟩
  rw [hl] at hv H3 HFM hym
  rw [hm] at hv H5 HZ0 HLK hzm
  have HM := hide hm
  have VA := hide hv
  obtain ⟨D, hD⟩ : ∃ D, daF r.sn = D := ⟨_, rfl⟩
  obtain ⟨G, hG⟩ : ∃ G, logF r.lg = G := ⟨_, rfl⟩
  rw [hD] at H3 HF1 HF2 HF3 HF4 HF5
  rw [hG] at H5 HF3 HF4 HF5
  clear hv hy hz hlk hrg hfm hZ hl hm hD hG
  generalize r.tm = a at *
  generalize r.vt = b at *
  generalize r.si = c at *
  generalize r.st = d at *
  have BA := hide (Below.refl w.heap.size w)
  by_cases q1 : 0 ≤ a ∧ a ≤ 999
  · have i1 := inBq_yes q1
    by_cases q2 : 0 ≤ b ∧ b ≤ 9
    · have i2 := inBq_yes q2
      by_cases q3 : 0 ≤ c ∧ c ≤ 9999
      · have i3 := inBq_yes q3
        by_cases q4 : 0 ≤ d ∧ d ≤ a
        · have i4 := inBq_yes q4
          have KR : Hid (rgR r) := HRG.out.2 ⟨⟨q1, q2⟩, q3, q4⟩
          clear q1 q2 q3 q4
          obtain ⟨c0, c1, c2, c3, c4, c5⟩ := VA.out
          go_enter Tryz.func25, Tryz.ntmps25
          go_wp2_with fail
          go_quiet ((go_at_call 56; exact Calls.quiet_of_same (l1InB _ _ _ _)))
          go_wp2_with fail
          refine (H3.out _ (below_drewN _ _)).mono ?_
          rintro e w3 ⟨rfl, q, rfl⟩
          have hb3 := below_on (below_drewN w nq) (below_drewN _ q)
          have VA3 := hide (VA.out.later hb3)
          have B3 := hide hb3
          clear hb3
          clear i1 i2 i3 i4
          obtain ⟨w3, hw3⟩ : ∃ x, (w.drewN nq).drewN q = x := ⟨_, rfl⟩
          rw [hw3] at VA3 B3 ⊢
          clear hw3 c0 c1 c2 c3 c4 c5
          obtain ⟨c0, c1, c2, c3, c4, c5⟩ := VA3.out
          by_cases hD : D = 0
          · subst hD
            by_cases f1 : c = 0
            · subst f1
              by_cases f2 : d = 0
              · subst f2
                by_cases f3 : l = 0
                · subst f3
                  have KF : Hid (fmR r) := HFM.out.2 ⟨Iff.rfl, fun _ => rfl⟩
                  go_wp2_with fail
                  go_quiet (fail)
                  go_wp2_with fail
                  refine (H5.out _ (below_on B3.out (below_drewN _ _))).mono ?_
                  rintro e w5 ⟨rfl, hb⟩
                  have hb5 := below_on (below_drewN w3 _) hb
                  have VA5 := hide (VA3.out.later hb5)
                  have B5 := hide (below_on B3.out hb5)
                  clear hb hb5 c0 c1 c2 c3 c4 c5
                  obtain ⟨c0, c1, c2, c3, c4, c5⟩ := VA5.out
                  by_cases hG : G = 0
                  · subst hG
                    by_cases hne : r.lg = []
                    · skip
                      have hm0 : m = 0 := by rw [← HM.out, hne]; rfl
                      subst hm0
                      have HZ : Hid ((0 : Int) = Z) := (HF5.out KR.out (by first | trivial | rfl) KF.out (by first | trivial | rfl) (HLK.out.2 (fun h => absurd hne h))).symm
                      go_wp2_with fail
                      go_quiet (fail)
                      go_wp2
                      go_ret
                      exact ⟨ret_int HZ.out, below_on B5.out (below_drewN _ _)⟩
                    · skip
                      have hpos : 0 < m := by rw [← HM.out]; exact List.length_pos_iff.2 hne
                      have hzl := HZ0.out.later B5.out
                      obtain ⟨b', off, e1, y0, p0, p1, p2, p3⟩ := hzl.file (k := 0) (by rw [HM.out]; exact hpos)
                      obtain ⟨b2, off2, e', y', r0, r1, r2, r3⟩ := hzl.file (k := m - 1) (by rw [HM.out]; omega)
                      subst e1
                      injection e' with e'
                      injection e' with e1 e2
                      subst e1 e2
                      have HG : Hid (lkR r ↔ (r.lg.getD 0 oj0).1 = 0 + 1 ∧ 0 ≤ (r.lg.getD 0 oj0).2.1 ∧ (r.lg.getD (m - 1) oj0).2.1 ≤ a) := ⟨fun h => HLK.out.1 h hne, fun h => HLK.out.2 fun _ => h⟩
                      have h3 := (HRG.out.1 KR.out).2.1
                      obtain ⟨x, hx⟩ : ∃ x, r.lg.getD 0 oj0 = x := ⟨_, rfl⟩
                      obtain ⟨x', hx'⟩ : ∃ x', r.lg.getD (m - 1) oj0 = x' := ⟨_, rfl⟩
                      rw [hx] at p0 p1 HG
                      rw [hx'] at r1 HG
                      obtain ⟨a0, t0, xs0⟩ := x
                      obtain ⟨a1, t1, xs1⟩ := x'
                      dsimp only at p0 p1 r1 HG
                      simp only [Nat.zero_mul, Nat.add_zero] at p0 p1
                      clear p2 p3 r0 r2 r3 hzl hx hx'
                      have hw1 : IntKind.i64.wrap ((m : Int) - 1) = ((m - 1 : Nat) : Int) := by simp [IntKind.wrap, IntKind.bits, IntKind.signed]; omega
                      obtain ⟨j, hj⟩ : ∃ j, m - 1 = j := ⟨_, rfl⟩
                      rw [hj] at r1 hw1
                      have hjm : (j : Int) < (m : Int) := by omega
                      have hj0 : (0 : Int) ≤ (j : Int) := by omega
                      have hm1 : (0 : Int) < (m : Int) := by omega
                      have hmt : decide ((m : Int) > 0) = true := by simp; omega
                      clear hj hne
                      by_cases e1 : a0 = 1
                      · subst e1
                        by_cases e2 : t0 < 0
                        · have e2' : decide (t0 < 0) = true := by simpa using e2
                          have HZ : Hid ((1 : Int) = Z) := (HF4.out KR.out (by first | trivial | rfl) KF.out (by first | trivial | rfl) (fun h => by have := (HG.out.1 h).2.1; omega)).symm
                          go_wp2_with fail
                          go_quiet (fail)
                          go_wp2
                          go_ret
                          exact ⟨ret_int HZ.out, below_on B5.out (below_drewN _ _)⟩
                        · have e2' : decide (t0 < 0) = false := by simpa using e2
                          by_cases e3 : a < t1
                          · have e3' : decide (t1 > a) = true := by simpa using e3
                            have HZ : Hid ((1 : Int) = Z) := (HF4.out KR.out (by first | trivial | rfl) KF.out (by first | trivial | rfl) (fun h => by have := (HG.out.1 h).2.2; omega)).symm
                            go_wp2_with fail
                            go_quiet (fail)
                            go_wp2
                            go_ret
                            exact ⟨ret_int HZ.out, below_on B5.out (below_drewN _ _)⟩
                          · have e3' : decide (t1 > a) = false := by simpa using e3
                            have HZ : Hid ((0 : Int) = Z) := (HF5.out KR.out (by first | trivial | rfl) KF.out (by first | trivial | rfl) (HG.out.2 ⟨by omega, by omega, by omega⟩)).symm
                            go_wp2_with fail
                            go_quiet (fail)
                            go_wp2
                            go_ret
                            exact ⟨ret_int HZ.out, below_on B5.out (below_drewN _ _)⟩
                      · have e1' : (a0 == 1) = false := by simpa using e1
                        have HZ : Hid ((1 : Int) = Z) := (HF4.out KR.out (by first | trivial | rfl) KF.out (by first | trivial | rfl) (fun h => by have := (HG.out.1 h).1; omega)).symm
                        have e1b : decide (a0 = 1) = false := by simpa using e1
                        have e1c : (a0 != 1) = true := by simpa using e1
                        have e1d : decide (a0 ≠ 1) = true := by simpa using e1
                        clear e1
                        go_wp2_with fail
                        go_quiet (fail)
                        go_wp2
                        go_ret
                        exact ⟨ret_int HZ.out, below_on B5.out (below_drewN _ _)⟩
                  · have HZ : Hid (G = Z) := (HF3.out KR.out (by first | trivial | rfl) KF.out hG).symm
                    have hG' : (G == 0) = false := by simpa using hG
                    go_wp2
                    go_ret
                    exact ⟨ret_int HZ.out, B5.out⟩
                · have f3' : decide ((l : Int) > 0) = true := by simp; omega
                  have HZ : Hid ((1 : Int) = Z) := (HF2.out KR.out (by first | trivial | rfl) (fun h => f3 ((HFM.out.1 h).2 rfl))).symm
                  go_wp2_with fail
                  go_quiet (fail)
                  go_wp2
                  go_ret
                  exact ⟨ret_int HZ.out, below_on B3.out (below_drewN _ _)⟩
              · have f2' : (d == 0) = false := by simpa using f2
                have HZ : Hid ((1 : Int) = Z) := (HF2.out KR.out (by first | trivial | rfl) (fun h => f2 ((HFM.out.1 h).1.1 rfl))).symm
                go_wp2_with fail
                go_quiet (fail)
                go_wp2
                go_ret
                exact ⟨ret_int HZ.out, below_on B3.out (below_drewN _ _)⟩
            · have f1' : (c == 0) = false := by simpa using f1
              by_cases f2 : d = 0
              · subst f2
                have HZ : Hid ((1 : Int) = Z) := (HF2.out KR.out (by first | trivial | rfl) (fun h => f1 ((HFM.out.1 h).1.2 rfl))).symm
                go_wp2_with fail
                go_quiet (fail)
                go_wp2
                go_ret
                exact ⟨ret_int HZ.out, below_on B3.out (below_drewN _ _)⟩
              · have f2' : (d == 0) = false := by simpa using f2
                have KF : Hid (fmR r) := HFM.out.2 ⟨⟨fun h => absurd h f1, fun h => absurd h f2⟩, fun h => absurd h f1⟩
                go_wp2_with fail
                go_quiet (fail)
                go_wp2_with fail
                refine (H5.out _ (below_on B3.out (below_drewN _ _))).mono ?_
                rintro e w5 ⟨rfl, hb⟩
                have hb5 := below_on (below_drewN w3 _) hb
                have VA5 := hide (VA3.out.later hb5)
                have B5 := hide (below_on B3.out hb5)
                clear hb hb5 c0 c1 c2 c3 c4 c5
                obtain ⟨c0, c1, c2, c3, c4, c5⟩ := VA5.out
                by_cases hG : G = 0
                · subst hG
                  by_cases hne : r.lg = []
                  · skip
                    have hm0 : m = 0 := by rw [← HM.out, hne]; rfl
                    subst hm0
                    have HZ : Hid ((0 : Int) = Z) := (HF5.out KR.out (by first | trivial | rfl) KF.out (by first | trivial | rfl) (HLK.out.2 (fun h => absurd hne h))).symm
                    go_wp2_with fail
                    go_quiet (fail)
                    go_wp2
                    go_ret
                    exact ⟨ret_int HZ.out, below_on B5.out (below_drewN _ _)⟩
                  · skip
                    have hpos : 0 < m := by rw [← HM.out]; exact List.length_pos_iff.2 hne
                    have hzl := HZ0.out.later B5.out
                    obtain ⟨b', off, e1, y0, p0, p1, p2, p3⟩ := hzl.file (k := 0) (by rw [HM.out]; exact hpos)
                    obtain ⟨b2, off2, e', y', r0, r1, r2, r3⟩ := hzl.file (k := m - 1) (by rw [HM.out]; omega)
                    subst e1
                    injection e' with e'
                    injection e' with e1 e2
                    subst e1 e2
                    have HG : Hid (lkR r ↔ (r.lg.getD 0 oj0).1 = c + 1 ∧ d ≤ (r.lg.getD 0 oj0).2.1 ∧ (r.lg.getD (m - 1) oj0).2.1 ≤ a) := ⟨fun h => HLK.out.1 h hne, fun h => HLK.out.2 fun _ => h⟩
                    have h3 := (HRG.out.1 KR.out).2.1
                    obtain ⟨x, hx⟩ : ∃ x, r.lg.getD 0 oj0 = x := ⟨_, rfl⟩
                    obtain ⟨x', hx'⟩ : ∃ x', r.lg.getD (m - 1) oj0 = x' := ⟨_, rfl⟩
                    rw [hx] at p0 p1 HG
                    rw [hx'] at r1 HG
                    obtain ⟨a0, t0, xs0⟩ := x
                    obtain ⟨a1, t1, xs1⟩ := x'
                    dsimp only at p0 p1 r1 HG
                    simp only [Nat.zero_mul, Nat.add_zero] at p0 p1
                    clear p2 p3 r0 r2 r3 hzl hx hx'
                    have hw1 : IntKind.i64.wrap ((m : Int) - 1) = ((m - 1 : Nat) : Int) := by simp [IntKind.wrap, IntKind.bits, IntKind.signed]; omega
                    obtain ⟨j, hj⟩ : ∃ j, m - 1 = j := ⟨_, rfl⟩
                    rw [hj] at r1 hw1
                    have hjm : (j : Int) < (m : Int) := by omega
                    have hj0 : (0 : Int) ≤ (j : Int) := by omega
                    have hm1 : (0 : Int) < (m : Int) := by omega
                    have hmt : decide ((m : Int) > 0) = true := by simp; omega
                    clear hj hne
                    have hc1 : IntKind.i64.wrap (c + 1) = c + 1 := by simp [IntKind.wrap, IntKind.bits, IntKind.signed]; omega
                    obtain ⟨s, hs⟩ : ∃ s, c + 1 = s := ⟨_, rfl⟩
                    rw [hs] at HG
                    have hc2 : IntKind.i64.wrap (c + 1) = s := hc1.trans hs
                    have HS := hide hs
                    clear hc1 hs h3
                    by_cases e1 : a0 = s
                    · subst e1
                      by_cases e2 : t0 < d
                      · have e2' : decide (t0 < d) = true := by simpa using e2
                        have HZ : Hid ((1 : Int) = Z) := (HF4.out KR.out (by first | trivial | rfl) KF.out (by first | trivial | rfl) (fun h => by have := (HG.out.1 h).2.1; omega)).symm
                        go_wp2_with fail
                        go_quiet (fail)
                        go_wp2
                        go_ret
                        exact ⟨ret_int HZ.out, below_on B5.out (below_drewN _ _)⟩
                      · have e2' : decide (t0 < d) = false := by simpa using e2
                        by_cases e3 : a < t1
                        · have e3' : decide (t1 > a) = true := by simpa using e3
                          have HZ : Hid ((1 : Int) = Z) := (HF4.out KR.out (by first | trivial | rfl) KF.out (by first | trivial | rfl) (fun h => by have := (HG.out.1 h).2.2; omega)).symm
                          go_wp2_with fail
                          go_quiet (fail)
                          go_wp2
                          go_ret
                          exact ⟨ret_int HZ.out, below_on B5.out (below_drewN _ _)⟩
                        · have e3' : decide (t1 > a) = false := by simpa using e3
                          have HZ : Hid ((0 : Int) = Z) := (HF5.out KR.out (by first | trivial | rfl) KF.out (by first | trivial | rfl) (HG.out.2 ⟨by omega, by omega, by omega⟩)).symm
                          go_wp2_with fail
                          go_quiet (fail)
                          go_wp2
                          go_ret
                          exact ⟨ret_int HZ.out, below_on B5.out (below_drewN _ _)⟩
                    · have e1' : (a0 == s) = false := by simpa using e1
                      have HZ : Hid ((1 : Int) = Z) := (HF4.out KR.out (by first | trivial | rfl) KF.out (by first | trivial | rfl) (fun h => by have := (HG.out.1 h).1; omega)).symm
                      have e1b : decide (a0 = s) = false := by simpa using e1
                      have e1c : (a0 != s) = true := by simpa using e1
                      have e1d : decide (a0 ≠ s) = true := by simpa using e1
                      clear e1
                      go_wp2_with fail
                      go_quiet (fail)
                      go_wp2
                      go_ret
                      exact ⟨ret_int HZ.out, below_on B5.out (below_drewN _ _)⟩
                · have HZ : Hid (G = Z) := (HF3.out KR.out (by first | trivial | rfl) KF.out hG).symm
                  have hG' : (G == 0) = false := by simpa using hG
                  go_wp2
                  go_ret
                  exact ⟨ret_int HZ.out, B5.out⟩
          · have HZ : Hid (D = Z) := (HF1.out KR.out hD).symm
            have hD' : (D == 0) = false := by simpa using hD
            go_wp2
            go_ret
            exact ⟨ret_int HZ.out, B3.out⟩
        · skip
          have HZ : Hid ((3 : Int) = Z) := (HF.out (fun h => by have := HRG.out.1 h; omega)).symm
          have i4 := inBq_no q4
          clear q1 q2 q3 q4
          obtain ⟨c0, c1, c2, c3, c4, c5⟩ := VA.out
          go_enter Tryz.func25, Tryz.ntmps25
          go_wp2_with fail
          go_quiet ((go_at_call 56; exact Calls.quiet_of_same (l1InB _ _ _ _)))
          go_wp2
          go_ret
          exact ⟨ret_int HZ.out, below_drewN _ _⟩
      · skip
        have HZ : Hid ((3 : Int) = Z) := (HF.out (fun h => by have := HRG.out.1 h; omega)).symm
        have i3 := inBq_no q3
        clear q1 q2 q3
        obtain ⟨c0, c1, c2, c3, c4, c5⟩ := VA.out
        go_enter Tryz.func25, Tryz.ntmps25
        go_wp2_with fail
        go_quiet ((go_at_call 56; exact Calls.quiet_of_same (l1InB _ _ _ _)))
        go_wp2
        go_ret
        exact ⟨ret_int HZ.out, below_drewN _ _⟩
    · skip
      have HZ : Hid ((3 : Int) = Z) := (HF.out (fun h => by have := HRG.out.1 h; omega)).symm
      have i2 := inBq_no q2
      clear q1 q2
      obtain ⟨c0, c1, c2, c3, c4, c5⟩ := VA.out
      go_enter Tryz.func25, Tryz.ntmps25
      go_wp2_with fail
      go_quiet ((go_at_call 56; exact Calls.quiet_of_same (l1InB _ _ _ _)))
      go_wp2
      go_ret
      exact ⟨ret_int HZ.out, below_drewN _ _⟩
  · skip
    have HZ : Hid ((3 : Int) = Z) := (HF.out (fun h => by have := HRG.out.1 h; omega)).symm
    have i1 := inBq_no q1
    clear q1
    obtain ⟨c0, c1, c2, c3, c4, c5⟩ := VA.out
    go_enter Tryz.func25, Tryz.ntmps25
    go_wp2_with fail
    go_quiet ((go_at_call 56; exact Calls.quiet_of_same (l1InB _ _ _ _)))
    go_wp2
    go_ret
    exact ⟨ret_int HZ.out, below_drewN _ _⟩
end Go.Proofs.YtlliggfggadidaaGreatDoor
namespace Go.Proofs.YtlliggfggadidaaGreatDoor
open Go.RowKit
theorem endI (f : Int) (ao : Option Addr) (n c : Nat) (h0 : 0 ≤ f) (h1 : f ≤ 10000) (h2 : n ≤ 100) (w : World) :
    Calls Tryz.prog 124 #[.agg #[.int .i64 f, .slice ao n c]] w fun e w' => e = .returned (.int .i64 (f + n)) ∧ Below w.heap.size w w' := by
  have hw : IntKind.i64.wrap (f + (n : Int)) = f + n := by simp [IntKind.wrap, IntKind.bits, IntKind.signed]; omega
  go_enter Tryz.func124, Tryz.ntmps124
  go_wp2
  go_ret
  exact ⟨rfl, below_alloc _ _⟩
theorem reachLoI (f i : Int) (ao : Option Addr) (n c : Nat) (h : i < f) (w : World) :
    Calls Tryz.prog 123 #[.agg #[.int .i64 f, .slice ao n c], .int .i64 i] w fun e w' => e = .returned (.iface 107 (.agg #[.int .i64 f])) ∧ Below w.heap.size w w' := by
  go_enter Tryz.func123, Tryz.ntmps123
  go_wp2
  go_ret
  exact ⟨rfl, below_alloc _ _⟩
set_option maxHeartbeats 1000000 in
theorem reachHiI (f i : Int) (ao : Option Addr) (n c : Nat) (h0 : 0 ≤ f) (h1 : f ≤ 10000) (h2 : n ≤ 100) (h : f + n < i) (w : World) (a : Addr) (ha : w.cell? ⟨0, 0, none⟩ = some (.iface 191 (.pointer (some a)))) :
    Calls Tryz.prog 123 #[.agg #[.int .i64 f, .slice ao n c], .int .i64 i] w fun e w' => e = .returned (.iface 191 (.pointer (some a))) ∧ Below w.heap.size w w' := by
  have HE := hide (endI f ao n c h0 h1 h2)
  have hl : ¬ i < f := by omega
  obtain ⟨s, hs⟩ : ∃ s, f + (n : Int) = s := ⟨_, rfl⟩
  rw [hs] at HE h
  have BA := hide (below_alloc w (.cells #[.int .i64 f, .slice ao n c] 140))
  clear hs h0 h1 h2
  go_enter Tryz.func123, Tryz.ntmps123
  go_wp2_with fail
  refine (HE.out _).mono ?_
  rintro e w1 ⟨rfl, hb⟩
  have g := cell_later (below_on BA.out hb) ha
  have BB := hide (below_on BA.out hb)
  clear hb
  go_wp2
  go_ret
  exact ⟨rfl, BB.out⟩
set_option maxHeartbeats 1000000 in
theorem reachInI (f i : Int) (ao : Option Addr) (n c : Nat) (h0 : 0 ≤ f) (h1 : f ≤ 10000) (h2 : n ≤ 100) (h3 : f ≤ i) (h : i ≤ f + n) (w : World) :
    Calls Tryz.prog 123 #[.agg #[.int .i64 f, .slice ao n c], .int .i64 i] w fun e w' => e = .returned .nilIface ∧ Below w.heap.size w w' := by
  have HE := hide (endI f ao n c h0 h1 h2)
  have hl : ¬ i < f := by omega
  obtain ⟨s, hs⟩ : ∃ s, f + (n : Int) = s := ⟨_, rfl⟩
  rw [hs] at HE h
  have hr : ¬ s < i := by omega
  have BA := hide (below_alloc w (.cells #[.int .i64 f, .slice ao n c] 140))
  clear hs h0 h1 h2 h
  go_enter Tryz.func123, Tryz.ntmps123
  go_wp2_with fail
  refine (HE.out _).mono ?_
  rintro e w1 ⟨rfl, hb⟩
  have BB := hide (below_on BA.out hb)
  clear hb
  go_wp2
  go_ret
  exact ⟨rfl, BB.out⟩
theorem run_neq_iface_nilR {P : Program} (w : World) {ti : TypeId} {ms : Array (String × TypeId)} (tp : TypeId) (v : Value) (hi : P.underlying ti = some (.interface ms)) :
    (binOp .neq ti (.iface tp v) .nilIface).run P w = .ok (.bool true) w := by
  have h : ∀ d : Nat, (Op.equalIn (d + 1) ti (.iface tp v) .nilIface).run P w = .ok false w := fun d => by simp [Op.equalIn, run_underlying hi]
  simp only [binOp]
  simp [Op.equal, Op.maxDepth, h 9999]
theorem run_neq_nil_nilR {P : Program} (w : World) {ti : TypeId} {ms : Array (String × TypeId)} (hi : P.underlying ti = some (.interface ms)) :
    (binOp .neq ti .nilIface .nilIface).run P w = .ok (.bool false) w := by
  have h : ∀ d : Nat, (Op.equalIn (d + 1) ti .nilIface .nilIface).run P w = .ok true w := fun d => by simp [Op.equalIn, run_underlying hi]
  simp only [binOp]
  simp [Op.equal, Op.maxDepth, h 9999]
set_option maxHeartbeats 1000000 in
theorem atLoI (f i : Int) (ao : Option Addr) (n c : Nat) (h : i < f) (w : World) :
    Calls Tryz.prog 109 #[.agg #[.int .i64 f, .slice ao n c], .int .i64 i] w fun e w' => e = .returned (.tuple #[.int .i64 0, .iface 107 (.agg #[.int .i64 f])]) ∧ Below w.heap.size w w' := by
  have HE := hide (reachLoI f i ao n c h)
  have BA := hide (below_alloc w (.cells #[.int .i64 f, .slice ao n c] 140))
  clear h
  go_enter Tryz.func109, Tryz.ntmps109
  go_wp2_with fail
  refine (HE.out _).mono ?_
  rintro e w1 ⟨rfl, hb⟩
  have BB := hide (below_on BA.out hb)
  clear hb
  have hne := run_neq_iface_nilR (P := Tryz.prog) w1 107 (.agg #[.int .i64 f]) Tryz.underlying72
  go_wp2
  refine bodyPost_ret (v := .tuple #[.int .i64 0, .iface 107 (.agg #[.int .i64 f])]) (by simp [results, Tryz.results109, go_sem]) rfl ⟨rfl, BB.out⟩
set_option maxHeartbeats 2000000 in
theorem atHiI (f i : Int) (ao : Option Addr) (n c : Nat) (h0 : 0 ≤ f) (h1 : f ≤ 10000) (h2 : n ≤ 100) (h : f + n ≤ i) (w : World) (a : Addr) (ha : w.cell? ⟨0, 0, none⟩ = some (.iface 191 (.pointer (some a)))) :
    Calls Tryz.prog 109 #[.agg #[.int .i64 f, .slice ao n c], .int .i64 i] w fun e w' => e = .returned (.tuple #[.int .i64 0, .iface 191 (.pointer (some a))]) ∧ Below w.heap.size w w' := by
  have BA := hide (below_alloc w (.cells #[.int .i64 f, .slice ao n c] 140))
  have VA := hide (Var2_new w (.int .i64 f) (.slice ao n c) 140)
  have hac := cell_later BA.out ha
  by_cases hh : f + n < i
  · have HE := hide (reachHiI f i ao n c h0 h1 h2 hh _ a hac)
    clear h h0 h1 h2 hh ha hac
    go_enter Tryz.func109, Tryz.ntmps109
    go_wp2_with fail
    refine HE.out.mono ?_
    rintro e w1 ⟨rfl, hb⟩
    have BB := hide (below_on BA.out hb)
    clear hb
    have hne := run_neq_iface_nilR (P := Tryz.prog) w1 191 (.pointer (some a)) Tryz.underlying72
    go_wp2
    refine bodyPost_ret (v := .tuple #[.int .i64 0, .iface 191 (.pointer (some a))]) (by simp [results, Tryz.results109, go_sem]) rfl ⟨rfl, BB.out⟩
  · have he : i = f + n := by omega
    subst he
    have HE := hide (reachInI f (f + n) ao n c h0 h1 h2 (by omega) (by omega))
    have HN := hide (endI f ao n c h0 h1 h2)
    obtain ⟨s, hs⟩ : ∃ s, f + (n : Int) = s := ⟨_, rfl⟩
    rw [hs] at HE HN ⊢
    clear h h0 h1 h2 hh hs
    go_enter Tryz.func109, Tryz.ntmps109
    go_wp2_with fail
    refine (HE.out _).mono ?_
    rintro e w1 ⟨rfl, hb⟩
    have BB := hide (below_on BA.out hb)
    obtain ⟨v0, v1⟩ := VA.out.later hb
    have g := cell_later hb hac
    clear hb
    have hne := run_neq_nil_nilR (P := Tryz.prog) w1 Tryz.underlying72
    go_wp2_with fail
    refine (HN.out _).mono ?_
    rintro e w2 ⟨rfl, hb⟩
    have BC := hide (below_on BB.out hb)
    have g2 := cell_later hb g
    clear hb v0 v1 g
    go_wp2_with fail
    go_quiet (fail)
    go_wp2
    refine bodyPost_ret (v := .tuple #[.int .i64 0, .iface 191 (.pointer (some a))]) (by simp [results, Tryz.results109, go_sem]) rfl ⟨rfl, below_on BC.out (below_drewN _ _)⟩
set_option maxHeartbeats 2000000 in
theorem atInI {S : Nat → Prop} {w : World} {v : Value} {xs : List Int} (f i : Int) (hv : RdI S w v xs) (h0 : 0 ≤ f) (h1 : f ≤ 10000) (h2 : xs.length ≤ 100) (h3 : f ≤ i) (h : i < f + xs.length) :
    Calls Tryz.prog 109 #[.agg #[.int .i64 f, v], .int .i64 i] w fun e w' => e = .returned (.tuple #[.int .i64 (xs.getD (i - f).toNat 0), .nilIface]) ∧ Below w.heap.size w w' := by
  have hxl : (i - f).toNat < xs.length := by omega
  obtain ⟨ao, c, rfl, _, hc⟩ := hv
  obtain ⟨bb, off, rfl, _, hcell⟩ := hc (by intro e; rw [e] at hxl; simp at hxl)
  have g := hcell _ hxl
  obtain ⟨x, hx⟩ : ∃ x, xs.getD (i - f).toNat 0 = x := ⟨_, rfl⟩
  rw [hx] at g ⊢
  have HE := hide (reachInI f i (some ⟨bb, off, none⟩) xs.length (xs.length + c) h0 h1 h2 h3 (by omega))
  have HN := hide (endI f (some ⟨bb, off, none⟩) xs.length (xs.length + c) h0 h1 h2)
  obtain ⟨n, hn⟩ : ∃ n, xs.length = n := ⟨_, rfl⟩
  rw [hn] at HE HN h h2 ⊢
  obtain ⟨j, hj⟩ : ∃ j, (i - f).toNat = j := ⟨_, rfl⟩
  rw [hj] at g
  have hij : i - f = (j : Int) := by omega
  have hwr : IntKind.i64.wrap (i - f) = (j : Int) := by simp [IntKind.wrap, IntKind.bits, IntKind.signed]; omega
  have hjn : (j : Int) < (n : Int) := by omega
  have hj0 : (0 : Int) ≤ (j : Int) := by omega
  obtain ⟨s, hs⟩ : ∃ s, f + (n : Int) = s := ⟨_, rfl⟩
  rw [hs] at HN h
  have hne : (i == s) = false := by simp; omega
  have hned : decide (i = s) = false := by simp; omega
  have BA := hide (below_alloc w (.cells #[.int .i64 f, .slice (some ⟨bb, off, none⟩) n (n + c)] 140))
  have VA := hide (Var2_new w (.int .i64 f) (.slice (some ⟨bb, off, none⟩) n (n + c)) 140)
  have HG := hide g
  clear g hcell hc hx hn hj hs h0 h1 h2 h3 h hxl hij
  go_enter Tryz.func109, Tryz.ntmps109
  go_wp2_with fail
  refine (HE.out _).mono ?_
  rintro e w1 ⟨rfl, hb⟩
  have BB := hide (below_on BA.out hb)
  have VB := hide (VA.out.later hb)
  clear hb
  obtain ⟨v0, v1⟩ := VB.out
  have hnn := run_neq_nil_nilR (P := Tryz.prog) w1 Tryz.underlying72
  go_wp2_with fail
  refine (HN.out _).mono ?_
  rintro e w2 ⟨rfl, hb⟩
  have BC := hide (below_on BB.out hb)
  obtain ⟨u0, u1⟩ := VB.out.later hb
  have g2 := cell_later BC.out HG.out
  clear hb v0 v1
  go_wp2
  refine bodyPost_ret (v := .tuple #[.int .i64 x, .nilIface]) (by simp [results, Tryz.results109, go_sem]) rfl ⟨rfl, BC.out⟩
end Go.Proofs.YtlliggfggadidaaGreatDoor
namespace Go.Proofs.YtlliggfggadidaaGreatDoor
open Go.RowKit
def OverH (a b t v : Int) : Prop := t < a ∨ (t = a ∧ b ≠ 0 ∧ v ≠ b)
set_option maxHeartbeats 2000000 in
theorem hardOverI (a b c d t v : Int) (ay az : Option Addr) (l cy m cz : Nat) (h0 : 0 ≤ a) (h1 : a ≤ 999) (w : World) : Calls Tryz.prog 39 #[.agg #[.int .i64 a, .int .i64 b, .int .i64 c, .int .i64 d, .slice ay l cy, .slice az m cz], .int .i64 t, .int .i64 v] w fun e w' => (OverH a b t v → ∃ x, e = .returned (.iface 107 (.agg #[.int .i64 x]))) ∧ (¬ OverH a b t v → e = .returned .nilIface) ∧ Below w.heap.size w w' := by
  have BA := hide (below_alloc w (.cells #[.int .i64 a, .int .i64 b, .int .i64 c, .int .i64 d, .slice ay l cy, .slice az m cz] 27))
  have e1 : IntKind.i64.wrap (a + 1) = a + 1 := by simp [IntKind.wrap, IntKind.bits, IntKind.signed]; omega
  by_cases hb : b = 0
  · subst hb
    by_cases ht : t < a
    · have HP : Hid (OverH a 0 t v) := Or.inl ht
      skip
      go_enter Tryz.func39, Tryz.ntmps39
      go_wp2
      go_ret
      exact ⟨fun _ => ⟨_, rfl⟩, fun h => absurd HP.out h, BA.out⟩
    · have HP : Hid (¬ (OverH a 0 t v)) := by rintro (h | ⟨_, h, _⟩); exact ht h; exact h rfl
      skip
      go_enter Tryz.func39, Tryz.ntmps39
      go_wp2
      go_ret
      exact ⟨fun h => absurd h HP.out, fun _ => rfl, BA.out⟩
  · have hb1 : (b != 0) = true := by simp [hb]
    have hb2 : (b == 0) = false := by simp [hb]
    by_cases hv : b = v
    · subst hv
      by_cases ht : t < a
      · have HP : Hid (OverH a b t b) := Or.inl ht
        clear hb
        go_enter Tryz.func39, Tryz.ntmps39
        go_wp2
        go_ret
        exact ⟨fun _ => ⟨_, rfl⟩, fun h => absurd HP.out h, BA.out⟩
      · have HP : Hid (¬ (OverH a b t b)) := by rintro (h | ⟨_, _, h⟩); exact ht h; exact h rfl
        clear hb
        go_enter Tryz.func39, Tryz.ntmps39
        go_wp2
        go_ret
        exact ⟨fun h => absurd h HP.out, fun _ => rfl, BA.out⟩
    · have hv1 : (b != v) = true := by simp [hv]
      have hv2 : (b == v) = false := by simp [hv]
      by_cases ht : t < a + 1
      · have HP : Hid (OverH a b t v) := by rcases Int.lt_or_le t a with h | h; exact Or.inl h; exact Or.inr ⟨by omega, hb, fun e => hv e.symm⟩
        clear hb hv
        go_enter Tryz.func39, Tryz.ntmps39
        go_wp2
        go_ret
        exact ⟨fun _ => ⟨_, rfl⟩, fun h => absurd HP.out h, BA.out⟩
      · have HP : Hid (¬ (OverH a b t v)) := by rintro (h | ⟨h, _, _⟩) <;> omega
        clear hb hv
        go_enter Tryz.func39, Tryz.ntmps39
        go_wp2
        go_ret
        exact ⟨fun h => absurd h HP.out, fun _ => rfl, BA.out⟩
end Go.Proofs.YtlliggfggadidaaGreatDoor
