/- Chapter 10: two stores held against each other, both sides. Made by program (genra6.py). -/
import Derived.Test.YtgeijnckmlhbbaaRa6a
import Derived.Test.YtgeijnckmlhbbaaIv6
import Derived.Test.YtgeijnckmlhbbaaEn4
import Derived.Test.YtgeijnckmlhbbaaSame
import Derived.BigQuiet
namespace Go.Proofs.Ytgeijnckmlhbbaa
open Go.RowKit

set_option maxHeartbeats 4000000 in
set_option maxRecDepth 4000 in
theorem implSameRafts {S T S' T' : Nat → Prop} {w : World} {yr zr ys zs : Value} (r s : Rf) (hyr : RdI S w yr r.sn) (hzr : RdJ T w zr r.lg) (hys : RdI S' w ys s.sn) (hzs : RdJ T' w zs s.lg) :
    Calls Try.prog 7 #[.agg #[.int .i64 r.tm, .int .i64 r.vt, .int .i64 r.si, .int .i64 r.st, yr, zr], .agg #[.int .i64 s.tm, .int .i64 s.vt, .int .i64 s.si, .int .i64 s.st, ys, zs]] w fun e w' => e = .returned (.bool (sameR r s)) ∧ Below w.heap.size w w' := by
  obtain ⟨ayr, cyr, rfl⟩ := hyr.shape
  obtain ⟨azr, czr, rfl, _⟩ := hzr.shape
  obtain ⟨ays, cys, rfl⟩ := hys.shape
  obtain ⟨azs, czs, rfl, _⟩ := hzs.shape
  have H1 := hide (fun (w' : World) (hb : Below w.heap.size w w') => slicesEqualR (hyr.later hb) (hys.later hb))
  have H2 := hide (fun (w' : World) (hb : Below w.heap.size w w') => implSameEntries (hzr.later hb) (hzs.later hb))
  have HZ : Hid (sameR r s = decide (r.tm = s.tm ∧ r.vt = s.vt ∧ r.si = s.si ∧ r.st = s.st ∧ r.sn = s.sn ∧ r.lg = s.lg)) := rfl
  obtain ⟨Z, hZ⟩ : ∃ Z, sameR r s = Z := ⟨_, rfl⟩
  rw [hZ] at HZ ⊢
  clear hZ
  generalize r.sn.length = lr at *
  generalize s.sn.length = ls at *
  generalize r.lg.length = mr at *
  generalize s.lg.length = ms at *
  obtain ⟨B5, hB5⟩ : ∃ B, decide (r.sn = s.sn) = B := ⟨_, rfl⟩
  obtain ⟨B6, hB6⟩ : ∃ B, decide (r.lg = s.lg) = B := ⟨_, rfl⟩
  rw [hB5] at H1
  rw [hB6] at H2
  have K5 := hide hB5
  have K6 := hide hB6
  clear hyr hzr hys hzs hB5 hB6
  generalize r.tm = a at *
  generalize s.tm = a' at *
  generalize r.vt = b at *
  generalize s.vt = b' at *
  generalize r.si = c at *
  generalize s.si = c' at *
  generalize r.st = d at *
  generalize s.st = d' at *
  have BA := hide (below_on (below_alloc w (.cells #[.int .i64 a, .int .i64 b, .int .i64 c, .int .i64 d, .slice ayr lr cyr, .slice azr mr czr] 30)) (below_alloc _ (.cells #[.int .i64 a', .int .i64 b', .int .i64 c', .int .i64 d', .slice ays ls cys, .slice azs ms czs] 30)))
  have VR := hide ((Var6_new w (.int .i64 a) (.int .i64 b) (.int .i64 c) (.int .i64 d) (.slice ayr lr cyr) (.slice azr mr czr) 30).later (below_alloc _ (.cells #[.int .i64 a', .int .i64 b', .int .i64 c', .int .i64 d', .slice ays ls cys, .slice azs ms czs] 30)))
  by_cases qa : a = a'
  · subst qa
    by_cases qb : b = b'
    · subst qb
      by_cases qc : c = c'
      · subst qc
        by_cases qd : d = d'
        · subst qd
          go_enter Try.func7, Try.ntmps7
          go_wp2_with fail
          refine (H1.out _ BA.out).mono ?_
          rintro e w1 ⟨rfl, q, rfl⟩
          cases B5
          · have HE : Hid (false = Z) := by rw [Hid, HZ.out]; exact (decide_eq_false (fun h => of_decide_eq_false K5.out h.2.2.2.2.1)).symm
            go_wp2
            go_ret
            exact ⟨by rw [← HE.out]; rfl, below_on BA.out (below_drewN _ _)⟩
          · go_wp2_with fail
            refine (H2.out _ (below_on BA.out (below_drewN _ _))).mono ?_
            rintro e w2 ⟨rfl, hb⟩
            have HE : Hid (B6 = Z) := by
              rw [Hid, HZ.out, ← K6.out]
              exact decide_eq_decide.2 ⟨fun h => ⟨by first | trivial | rfl, by first | trivial | rfl, by first | trivial | rfl, by first | trivial | rfl, of_decide_eq_true K5.out, h⟩, fun h => h.2.2.2.2.2⟩
            have BB := hide (below_on (below_on BA.out (below_drewN _ _)) hb)
            clear hb
            go_wp2
            go_ret
            exact ⟨by rw [← HE.out]; rfl, BB.out⟩
        · have qdb : (d == d') = false := by simpa using qd
          have qdc : decide (d = d') = false := by simpa using qd
          have HE : Hid (false = Z) := by rw [Hid, HZ.out]; exact (decide_eq_false (fun h => qd h.2.2.2.1)).symm
          clear qd
          go_enter Try.func7, Try.ntmps7
          go_wp2
          go_ret
          exact ⟨by rw [← HE.out]; rfl, BA.out⟩
      · have qcb : (c == c') = false := by simpa using qc
        have qcc : decide (c = c') = false := by simpa using qc
        have HE : Hid (false = Z) := by rw [Hid, HZ.out]; exact (decide_eq_false (fun h => qc h.2.2.1)).symm
        clear qc
        go_enter Try.func7, Try.ntmps7
        go_wp2
        go_ret
        exact ⟨by rw [← HE.out]; rfl, BA.out⟩
    · have qbb : (b == b') = false := by simpa using qb
      have qbc : decide (b = b') = false := by simpa using qb
      have HE : Hid (false = Z) := by rw [Hid, HZ.out]; exact (decide_eq_false (fun h => qb h.2.1)).symm
      clear qb
      go_enter Try.func7, Try.ntmps7
      go_wp2
      go_ret
      exact ⟨by rw [← HE.out]; rfl, BA.out⟩
  · have qab : (a == a') = false := by simpa using qa
    have qac : decide (a = a') = false := by simpa using qa
    have HE : Hid (false = Z) := by rw [Hid, HZ.out]; exact (decide_eq_false (fun h => qa h.1)).symm
    clear qa
    go_enter Try.func7, Try.ntmps7
    go_wp2
    go_ret
    exact ⟨by rw [← HE.out]; rfl, BA.out⟩

set_option maxHeartbeats 4000000 in
set_option maxRecDepth 4000 in
theorem l10Same {S T S' T' : Nat → Prop} {w : World} {br bs : Nat} {yr zr ys zs : Value} (r s : Rf) (vr : Var6 w br (.int .i64 r.tm) (.int .i64 r.vt) (.int .i64 r.si) (.int .i64 r.st) yr zr) (vs : Var6 w bs (.int .i64 s.tm) (.int .i64 s.vt) (.int .i64 s.si) (.int .i64 s.st) ys zs) (hyr : RdI S w yr r.sn) (hzr : RdJ T w zr r.lg) (hys : RdI S' w ys s.sn) (hzs : RdJ T' w zs s.lg) :
    Calls Try.prog 11 #[.pointer (some ⟨br, 0, none⟩), .pointer (some ⟨bs, 0, none⟩)] w fun e w' => e = .returned (.bool (sameR r s)) ∧ Below w.heap.size w w' := by
  by_cases hne : r.tm ≠ s.tm
  · exact l10SameNe r s vr vs hyr hzr hys hzs hne
  obtain ⟨ayr, cyr, rfl⟩ := hyr.shape
  obtain ⟨azr, czr, rfl, _⟩ := hzr.shape
  obtain ⟨ays, cys, rfl⟩ := hys.shape
  obtain ⟨azs, czs, rfl, _⟩ := hzs.shape
  have H1 := hide (fun (w' : World) (hb : Below w.heap.size w w') => l2SameR (hyr.later hb) (hys.later hb))
  have H2 := hide (fun (w' : World) (hb : Below w.heap.size w w') => specSameEntries (hzr.later hb) (hzs.later hb))
  have HZ : Hid (sameR r s = decide (r.tm = s.tm ∧ r.vt = s.vt ∧ r.si = s.si ∧ r.st = s.st ∧ r.sn = s.sn ∧ r.lg = s.lg)) := rfl
  obtain ⟨Z, hZ⟩ : ∃ Z, sameR r s = Z := ⟨_, rfl⟩
  rw [hZ] at HZ ⊢
  clear hZ
  generalize r.sn.length = lr at *
  generalize s.sn.length = ls at *
  generalize r.lg.length = mr at *
  generalize s.lg.length = ms at *
  obtain ⟨B5, hB5⟩ : ∃ B, decide (r.sn = s.sn) = B := ⟨_, rfl⟩
  obtain ⟨B6, hB6⟩ : ∃ B, decide (r.lg = s.lg) = B := ⟨_, rfl⟩
  rw [hB5] at H1
  rw [hB6] at H2
  have K5 := hide hB5
  have K6 := hide hB6
  clear hyr hzr hys hzs hB5 hB6
  generalize r.tm = a at *
  generalize s.tm = a' at *
  generalize r.vt = b at *
  generalize s.vt = b' at *
  generalize r.si = c at *
  generalize s.si = c' at *
  generalize r.st = d at *
  generalize s.st = d' at *
  have VR := hide vr
  have VS := hide vs
  clear vr vs
  have BA := hide (Below.refl w.heap.size w)
  by_cases qa : a = a'
  · subst qa
    by_cases qb : b = b'
    · subst qb
      by_cases qc : c = c'
      · subst qc
        by_cases qd : d = d'
        · subst qd
          obtain ⟨r0, r1, r2, r3, r4, r5⟩ := VR.out
          obtain ⟨s0, s1, s2, s3, s4, s5⟩ := VS.out
          cases B5
          · have HE : Hid (false = Z) := by rw [Hid, HZ.out]; exact (decide_eq_false (fun h => of_decide_eq_false K5.out h.2.2.2.2.1)).symm
            go_enter Try.func11, Try.ntmps11
            go_wp2_with fail
            go_quiet (first | (go_at_call 19; exact Calls.quiet_of (H1.out _ (below_drewN _ _))) | (go_at_call 20; exact Calls.quiet_of (H2.out _ (below_drewN _ _))))
            go_wp2
            go_ret
            exact ⟨by rw [← HE.out]; rfl, below_drewN _ _⟩
          · have HE : Hid (B6 = Z) := by
              rw [Hid, HZ.out, ← K6.out]
              exact decide_eq_decide.2 ⟨fun h => ⟨by first | trivial | rfl, by first | trivial | rfl, by first | trivial | rfl, by first | trivial | rfl, of_decide_eq_true K5.out, h⟩, fun h => h.2.2.2.2.2⟩
            go_enter Try.func11, Try.ntmps11
            go_wp2_with fail
            go_quiet (first | (go_at_call 19; exact Calls.quiet_of (H1.out _ (below_drewN _ _))) | (go_at_call 20; exact Calls.quiet_of (H2.out _ (below_drewN _ _))))
            go_wp2
            go_ret
            exact ⟨by rw [← HE.out]; rfl, below_drewN _ _⟩
        · have qdb : (d == d') = false := by simpa using qd
          have qdc : decide (d = d') = false := by simpa using qd
          have HE : Hid (false = Z) := by rw [Hid, HZ.out]; exact (decide_eq_false (fun h => qd h.2.2.2.1)).symm
          clear qd
          obtain ⟨r0, r1, r2, r3, r4, r5⟩ := VR.out
          obtain ⟨s0, s1, s2, s3, s4, s5⟩ := VS.out
          go_enter Try.func11, Try.ntmps11
          go_wp2_with fail
          go_quiet (fail)
          go_wp2
          go_ret
          exact ⟨by rw [← HE.out]; rfl, below_drewN _ _⟩
      · have qcb : (c == c') = false := by simpa using qc
        have qcc : decide (c = c') = false := by simpa using qc
        have HE : Hid (false = Z) := by rw [Hid, HZ.out]; exact (decide_eq_false (fun h => qc h.2.2.1)).symm
        clear qc
        obtain ⟨r0, r1, r2, r3, r4, r5⟩ := VR.out
        obtain ⟨s0, s1, s2, s3, s4, s5⟩ := VS.out
        go_enter Try.func11, Try.ntmps11
        go_wp2_with fail
        go_quiet (fail)
        go_wp2
        go_ret
        exact ⟨by rw [← HE.out]; rfl, below_drewN _ _⟩
    · have qbb : (b == b') = false := by simpa using qb
      have qbc : decide (b = b') = false := by simpa using qb
      have HE : Hid (false = Z) := by rw [Hid, HZ.out]; exact (decide_eq_false (fun h => qb h.2.1)).symm
      clear qb
      obtain ⟨r0, r1, r2, r3, r4, r5⟩ := VR.out
      obtain ⟨s0, s1, s2, s3, s4, s5⟩ := VS.out
      go_enter Try.func11, Try.ntmps11
      go_wp2_with fail
      go_quiet (fail)
      go_wp2
      go_ret
      exact ⟨by rw [← HE.out]; rfl, below_drewN _ _⟩
  · exact absurd qa hne

set_option maxHeartbeats 2000000 in
theorem specSameRafts {S T S' T' : Nat → Prop} {w : World} {yr zr ys zs : Value} (r s : Rf) (hyr : RdI S w yr r.sn) (hzr : RdJ T w zr r.lg) (hys : RdI S' w ys s.sn) (hzs : RdJ T' w zs s.lg) :
    Calls Try.prog 5 #[.agg #[.int .i64 r.tm, .int .i64 r.vt, .int .i64 r.si, .int .i64 r.st, yr, zr], .agg #[.int .i64 s.tm, .int .i64 s.vt, .int .i64 s.si, .int .i64 s.st, ys, zs]] w fun e w' => e = .returned (.bool (sameR r s)) ∧ Below w.heap.size w w' := by
  obtain ⟨ayr, cyr, rfl⟩ := hyr.shape
  obtain ⟨azr, czr, rfl, _⟩ := hzr.shape
  obtain ⟨ays, cys, rfl⟩ := hys.shape
  obtain ⟨azs, czs, rfl, _⟩ := hzs.shape
  have BA := hide (below_on (below_alloc w (.cells #[.int .i64 r.tm, .int .i64 r.vt, .int .i64 r.si, .int .i64 r.st, .slice ayr r.sn.length cyr, .slice azr r.lg.length czr] 30)) (below_alloc _ (.cells #[.int .i64 s.tm, .int .i64 s.vt, .int .i64 s.si, .int .i64 s.st, .slice ays s.sn.length cys, .slice azs s.lg.length czs] 30)))
  have h1 := Var6_new (w.alloc (.cells #[.int .i64 r.tm, .int .i64 r.vt, .int .i64 r.si, .int .i64 r.st, .slice ayr r.sn.length cyr, .slice azr r.lg.length czr] 30)) (.int .i64 s.tm) (.int .i64 s.vt) (.int .i64 s.si) (.int .i64 s.st) (.slice ays s.sn.length cys) (.slice azs s.lg.length czs) 30
  simp only [World.size_alloc] at h1
  have HC := hide (l10Same r s ((Var6_new w (.int .i64 r.tm) (.int .i64 r.vt) (.int .i64 r.si) (.int .i64 r.st) (.slice ayr r.sn.length cyr) (.slice azr r.lg.length czr) 30).later (below_alloc _ _)) h1 (hyr.later BA.out) (hzr.later BA.out) (hys.later BA.out) (hzs.later BA.out))
  clear hyr hzr hys hzs h1
  generalize sameR r s = Z at *
  generalize r.sn.length = lr at *
  generalize s.sn.length = ls at *
  generalize r.lg.length = mr at *
  generalize s.lg.length = ms at *
  generalize r.tm = a at *
  generalize r.vt = b at *
  generalize r.si = c at *
  generalize r.st = d at *
  generalize s.tm = a' at *
  generalize s.vt = b' at *
  generalize s.si = c' at *
  generalize s.st = d' at *
  go_enter Try.func5, Try.ntmps5
  go_wp2_with fail
  refine HC.out.mono ?_
  rintro e w1 ⟨rfl, hb⟩
  have BB := hide (below_on BA.out hb)
  clear hb
  go_wp2
  go_ret
  exact ⟨rfl, BB.out⟩
end Go.Proofs.Ytgeijnckmlhbbaa
