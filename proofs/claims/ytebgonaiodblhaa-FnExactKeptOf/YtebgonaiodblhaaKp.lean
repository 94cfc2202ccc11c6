/- Chapter 15: KeptOf, of the program and of the model. Made by program (genkp.py). -/
import Derived.Test.YtebgonaiodblhaaRa4
import Derived.Test.YtebgonaiodblhaaRa5
import Derived.Test.YtebgonaiodblhaaHov
import Derived.Deep.RegionHeld3
namespace Go.Proofs.Ytebgonaiodblhaa
open Go.RowKit

/-- What KeptOf answers. -/
noncomputable def keptB (r s : Rf) : Bool := @decide (rfF r = 0 ∧ rfF s = 0 ∧ ¬ OverH r.tm r.vt s.tm s.vt ∧ r.si ≤ s.si) (Classical.propDecidable _)
theorem kept_bad {r s : Rf} (h : rfF r ≠ 0) : false = keptB r s := by unfold keptB; exact (@decide_eq_false _ (Classical.propDecidable _) (fun q => h q.1)).symm
theorem kept_bad2 {r s : Rf} (h : rfF s ≠ 0) : false = keptB r s := by unfold keptB; exact (@decide_eq_false _ (Classical.propDecidable _) (fun q => h q.2.1)).symm
theorem kept_over {r s : Rf} (h : OverH r.tm r.vt s.tm s.vt) : false = keptB r s := by unfold keptB; exact (@decide_eq_false _ (Classical.propDecidable _) (fun q => q.2.2.1 h)).symm
theorem kept_snap {r s : Rf} (h : ¬ r.si ≤ s.si) : false = keptB r s := by unfold keptB; exact (@decide_eq_false _ (Classical.propDecidable _) (fun q => h q.2.2.2)).symm
theorem kept_ok {r s : Rf} (h0 : rfF r = 0) (h1 : rfF s = 0) (h : ¬ OverH r.tm r.vt s.tm s.vt) (h2 : r.si ≤ s.si) : true = keptB r s := by unfold keptB; exact (@decide_eq_true _ (Classical.propDecidable _) ⟨h0, h1, h, h2⟩).symm

theorem run_eq_iface_nilK {P : Program} (w : World) {ti : TypeId} {ms : Array (String × TypeId)} (tp : TypeId) (v : Value) (hi : P.underlying ti = some (.interface ms)) :
    (binOp .eql ti (.iface tp v) .nilIface).run P w = .ok (.bool false) w := by
  have h : ∀ d : Nat, (Op.equalIn (d + 1) ti (.iface tp v) .nilIface).run P w = .ok false w := fun d => by simp [Op.equalIn, run_underlying hi]
  simp only [binOp]
  simp [Op.equal, Op.maxDepth, h 9999]
theorem run_eq_nil_nilK {P : Program} (w : World) {ti : TypeId} {ms : Array (String × TypeId)} (hi : P.underlying ti = some (.interface ms)) :
    (binOp .eql ti .nilIface .nilIface).run P w = .ok (.bool true) w := by
  have h : ∀ d : Nat, (Op.equalIn (d + 1) ti .nilIface .nilIface).run P w = .ok true w := fun d => by simp [Op.equalIn, run_underlying hi]
  simp only [binOp]
  simp [Op.equal, Op.maxDepth, h 9999]

set_option maxHeartbeats 8000000 in
set_option maxRecDepth 4000 in
theorem implKeptOf {S T S' T' : Nat → Prop} {w : World} {yr zr ys zs : Value} (r s : Rf) (hyr : RdI S w yr r.sn) (hzr : RdJ T w zr r.lg) (hys : RdI S' w ys s.sn) (hzs : RdJ T' w zs s.lg) :
    Calls Try.prog 13 #[.agg #[.int .i64 r.tm, .int .i64 r.vt, .int .i64 r.si, .int .i64 r.st, yr, zr], .agg #[.int .i64 s.tm, .int .i64 s.vt, .int .i64 s.si, .int .i64 s.st, ys, zs]] w fun e w' => e = .returned (.bool (keptB r s)) ∧ Below w.heap.size w w' := by
  obtain ⟨ayr, cyr, rfl⟩ := hyr.shape
  obtain ⟨azr, czr, rfl, _⟩ := hzr.shape
  obtain ⟨ays, cys, rfl⟩ := hys.shape
  obtain ⟨azs, czs, rfl, _⟩ := hzs.shape
  have H1 := hide (fun (w' : World) (hb : Below w.heap.size w w') => implRaftFault r (hyr.later hb) (hzr.later hb))
  have H2 := hide (fun (w' : World) (hb : Below w.heap.size w w') => implRaftFault s (hys.later hb) (hzs.later hb))
  have K1 := hide (@kept_bad r s)
  have K2 := hide (@kept_bad2 r s)
  have K3 := hide (@kept_over r s)
  have K4 := hide (@kept_snap r s)
  have K5 := hide (@kept_ok r s)
  have KR := hide (fun h => (rfF_iff (r := r)).1 h)
  obtain ⟨Z, hZ⟩ : ∃ Z, keptB r s = Z := ⟨_, rfl⟩
  rw [hZ] at K1 K2 K3 K4 K5 ⊢
  clear hZ
  have HT : Hid (rfF r = 0 → 0 ≤ r.tm ∧ r.tm ≤ 999) := fun h => (KR.out h).rg.1.1
  obtain ⟨f, hf⟩ : ∃ f, rfF r = f := ⟨_, rfl⟩
  obtain ⟨g, hg⟩ : ∃ g, rfF s = g := ⟨_, rfl⟩
  rw [hf] at H1 K1 K5 HT
  rw [hg] at H2 K2 K5
  clear hyr hzr hys hzs KR hf
  clear hg
  generalize r.sn.length = lr at *
  generalize r.lg.length = mr at *
  generalize r.tm = a at *
  generalize r.vt = b at *
  generalize r.si = c at *
  generalize r.st = d at *
  generalize s.sn.length = ls at *
  generalize s.lg.length = ms at *
  generalize s.tm = a' at *
  generalize s.vt = b' at *
  generalize s.si = c' at *
  generalize s.st = d' at *
  have BA := hide (below_on (below_alloc w (.cells #[.int .i64 a, .int .i64 b, .int .i64 c, .int .i64 d, .slice ayr lr cyr, .slice azr mr czr] 37)) (below_alloc _ (.cells #[.int .i64 a', .int .i64 b', .int .i64 c', .int .i64 d', .slice ays ls cys, .slice azs ms czs] 37)))
  have VA := hide ((Var6_new w (.int .i64 a) (.int .i64 b) (.int .i64 c) (.int .i64 d) (.slice ayr lr cyr) (.slice azr mr czr) 37).later (below_alloc _ (.cells #[.int .i64 a', .int .i64 b', .int .i64 c', .int .i64 d', .slice ays ls cys, .slice azs ms czs] 37)))
  have h1 := Var6_new (w.alloc (.cells #[.int .i64 a, .int .i64 b, .int .i64 c, .int .i64 d, .slice ayr lr cyr, .slice azr mr czr] 37)) (.int .i64 a') (.int .i64 b') (.int .i64 c') (.int .i64 d') (.slice ays ls cys) (.slice azs ms czs) 37
  simp only [World.size_alloc] at h1
  have VB := hide h1
  clear h1
  obtain ⟨W, hW⟩ : ∃ W, (w.alloc (.cells #[.int .i64 a, .int .i64 b, .int .i64 c, .int .i64 d, .slice ayr lr cyr, .slice azr mr czr] 37)).alloc (.cells #[.int .i64 a', .int .i64 b', .int .i64 c', .int .i64 d', .slice ays ls cys, .slice azs ms czs] 37) = W := ⟨_, rfl⟩
  rw [hW] at BA VA VB
  by_cases q0 : f = 0
  · subst q0
    obtain ⟨t0, t1⟩ := HT.out rfl
    obtain ⟨c0, c1, c2, c3, c4, c5⟩ := VA.out
    obtain ⟨p0, p1, p2, p3, p4, p5⟩ := VB.out
    go_enter Try.func13, Try.ntmps13
    go_wp2_with fail
    (try rw [hW])
    clear hW
    refine (H1.out _ BA.out).mono ?_
    rintro e w1 ⟨rfl, hb⟩
    have B1 := hide (below_on BA.out hb)
    have A1 := hide (VA.out.later hb)
    have Q1 := hide (VB.out.later hb)
    clear hb c0 c1 c2 c3 c4 c5 p0 p1 p2 p3 p4 p5
    by_cases q1 : g = 0
    · subst q1
      obtain ⟨c0, c1, c2, c3, c4, c5⟩ := A1.out
      obtain ⟨p0, p1, p2, p3, p4, p5⟩ := Q1.out
      go_wp2_with fail
      refine (H2.out _ B1.out).mono ?_
      rintro e w2 ⟨rfl, hb⟩
      have B2 := hide (below_on B1.out hb)
      have A2 := hide (A1.out.later hb)
      have Q2 := hide (Q1.out.later hb)
      clear hb c0 c1 c2 c3 c4 c5 p0 p1 p2 p3 p4 p5
      obtain ⟨c0, c1, c2, c3, c4, c5⟩ := A2.out
      obtain ⟨p0, p1, p2, p3, p4, p5⟩ := Q2.out
      have HV := hide (fun (w' : World) => hardOverI a b c d a' b' ayr azr lr cyr mr czr t0 t1 w')
      by_cases qo : OverH a b a' b'
      · have HE := hide (K3.out qo)
        go_wp2_with fail
        refine (HV.out _).mono ?_
        rintro e w3 ⟨h1, h2, hb⟩
        have B3 := hide (below_on B2.out hb)
        obtain ⟨x, rfl⟩ := h1 qo
        have hne := run_eq_iface_nilK (P := Try.prog) w3 74 (.agg #[.int .i64 x]) Try.underlying56
        have A3 := hide (A2.out.later hb)
        have Q3 := hide (Q2.out.later hb)
        clear hb h1 h2 A2 Q2 B2 qo c0 c1 c2 c3 c4 c5 p0 p1 p2 p3 p4 p5
        obtain ⟨c0, c1, c2, c3, c4, c5⟩ := A3.out
        obtain ⟨p0, p1, p2, p3, p4, p5⟩ := Q3.out
        go_wp2
        go_ret
        exact ⟨by rw [← HE.out]; rfl, B3.out⟩
      · by_cases qs : c ≤ c'
        · have HE := hide (K5.out trivial trivial qo qs)
          go_wp2_with fail
          refine (HV.out _).mono ?_
          rintro e w3 ⟨h1, h2, hb⟩
          have B3 := hide (below_on B2.out hb)
          have he := h2 qo
          subst he
          have hne := run_eq_nil_nilK (P := Try.prog) w3 Try.underlying56
          have A3 := hide (A2.out.later hb)
          have Q3 := hide (Q2.out.later hb)
          clear hb h1 h2 A2 Q2 B2 qo c0 c1 c2 c3 c4 c5 p0 p1 p2 p3 p4 p5
          obtain ⟨c0, c1, c2, c3, c4, c5⟩ := A3.out
          obtain ⟨p0, p1, p2, p3, p4, p5⟩ := Q3.out
          go_wp2
          go_ret
          exact ⟨by rw [← HE.out]; simp, B3.out⟩
        · have HE := hide (K4.out (Int.not_le.1 qs))
          go_wp2_with fail
          refine (HV.out _).mono ?_
          rintro e w3 ⟨h1, h2, hb⟩
          have B3 := hide (below_on B2.out hb)
          have he := h2 qo
          subst he
          have hne := run_eq_nil_nilK (P := Try.prog) w3 Try.underlying56
          have A3 := hide (A2.out.later hb)
          have Q3 := hide (Q2.out.later hb)
          clear hb h1 h2 A2 Q2 B2 qo c0 c1 c2 c3 c4 c5 p0 p1 p2 p3 p4 p5
          obtain ⟨c0, c1, c2, c3, c4, c5⟩ := A3.out
          obtain ⟨p0, p1, p2, p3, p4, p5⟩ := Q3.out
          go_wp2
          go_ret
          exact ⟨by rw [← HE.out]; simp [qs], B3.out⟩
    · have HE := hide (K2.out q1)
      obtain ⟨c0, c1, c2, c3, c4, c5⟩ := A1.out
      obtain ⟨p0, p1, p2, p3, p4, p5⟩ := Q1.out
      go_wp2_with fail
      refine (H2.out _ B1.out).mono ?_
      rintro e w2 ⟨rfl, hb⟩
      have B2 := hide (below_on B1.out hb)
      have A2 := hide (A1.out.later hb)
      have Q2 := hide (Q1.out.later hb)
      clear hb c0 c1 c2 c3 c4 c5 p0 p1 p2 p3 p4 p5
      go_wp2
      go_ret
      exact ⟨by rw [← HE.out]; rfl, B2.out⟩
  · have HE := hide (K1.out q0)
    obtain ⟨c0, c1, c2, c3, c4, c5⟩ := VA.out
    obtain ⟨p0, p1, p2, p3, p4, p5⟩ := VB.out
    go_enter Try.func13, Try.ntmps13
    go_wp2_with fail
    (try rw [hW])
    clear hW
    refine (H1.out _ BA.out).mono ?_
    rintro e w1 ⟨rfl, hb⟩
    have B1 := hide (below_on BA.out hb)
    have A1 := hide (VA.out.later hb)
    have Q1 := hide (VB.out.later hb)
    clear hb c0 c1 c2 c3 c4 c5 p0 p1 p2 p3 p4 p5
    go_wp2
    go_ret
    exact ⟨by rw [← HE.out]; rfl, B1.out⟩

set_option maxHeartbeats 8000000 in
set_option maxRecDepth 4000 in
theorem specKeptOf {S T S' T' : Nat → Prop} {w : World} {yr zr ys zs : Value} (r s : Rf) (hyr : RdI S w yr r.sn) (hzr : RdJ T w zr r.lg) (hys : RdI S' w ys s.sn) (hzs : RdJ T' w zs s.lg) :
    Calls Try.prog 11 #[.agg #[.int .i64 r.tm, .int .i64 r.vt, .int .i64 r.si, .int .i64 r.st, yr, zr], .agg #[.int .i64 s.tm, .int .i64 s.vt, .int .i64 s.si, .int .i64 s.st, ys, zs]] w fun e w' => e = .returned (.bool (keptB r s)) ∧ Below w.heap.size w w' := by
  obtain ⟨ayr, cyr, rfl⟩ := hyr.shape
  obtain ⟨azr, czr, rfl, _⟩ := hzr.shape
  obtain ⟨ays, cys, rfl⟩ := hys.shape
  obtain ⟨azs, czs, rfl, _⟩ := hzs.shape
  have H1 := hide (fun (w' : World) (bk : Nat) (hb : Below w.heap.size w w') (hv : Var6 w' bk (.int .i64 r.tm) (.int .i64 r.vt) (.int .i64 r.si) (.int .i64 r.st) (.slice ayr r.sn.length cyr) (.slice azr r.lg.length czr)) => l10Fault r hv (hyr.later hb) (hzr.later hb))
  have H2 := hide (fun (w' : World) (bk : Nat) (hb : Below w.heap.size w w') (hv : Var6 w' bk (.int .i64 s.tm) (.int .i64 s.vt) (.int .i64 s.si) (.int .i64 s.st) (.slice ays s.sn.length cys) (.slice azs s.lg.length czs)) => l10Fault s hv (hys.later hb) (hzs.later hb))
  have K1 := hide (@kept_bad r s)
  have K2 := hide (@kept_bad2 r s)
  have K3 := hide (@kept_over r s)
  have K4 := hide (@kept_snap r s)
  have K5 := hide (@kept_ok r s)
  have KR := hide (fun h => (rfF_iff (r := r)).1 h)
  obtain ⟨Z, hZ⟩ : ∃ Z, keptB r s = Z := ⟨_, rfl⟩
  rw [hZ] at K1 K2 K3 K4 K5 ⊢
  clear hZ
  obtain ⟨f, hf⟩ : ∃ f, rfF r = f := ⟨_, rfl⟩
  obtain ⟨g, hg⟩ : ∃ g, rfF s = g := ⟨_, rfl⟩
  rw [hf] at H1 K1 K5
  rw [hg] at H2 K2 K5
  clear hyr hzr hys hzs KR hf
  clear hg
  generalize r.sn.length = lr at *
  generalize r.lg.length = mr at *
  generalize r.tm = a at *
  generalize r.vt = b at *
  generalize r.si = c at *
  generalize r.st = d at *
  generalize s.sn.length = ls at *
  generalize s.lg.length = ms at *
  generalize s.tm = a' at *
  generalize s.vt = b' at *
  generalize s.si = c' at *
  generalize s.st = d' at *
  have BA := hide (below_on (below_alloc w (.cells #[.int .i64 a, .int .i64 b, .int .i64 c, .int .i64 d, .slice ayr lr cyr, .slice azr mr czr] 37)) (below_alloc _ (.cells #[.int .i64 a', .int .i64 b', .int .i64 c', .int .i64 d', .slice ays ls cys, .slice azs ms czs] 37)))
  have VA := hide ((Var6_new w (.int .i64 a) (.int .i64 b) (.int .i64 c) (.int .i64 d) (.slice ayr lr cyr) (.slice azr mr czr) 37).later (below_alloc _ (.cells #[.int .i64 a', .int .i64 b', .int .i64 c', .int .i64 d', .slice ays ls cys, .slice azs ms czs] 37)))
  have h1 := Var6_new (w.alloc (.cells #[.int .i64 a, .int .i64 b, .int .i64 c, .int .i64 d, .slice ayr lr cyr, .slice azr mr czr] 37)) (.int .i64 a') (.int .i64 b') (.int .i64 c') (.int .i64 d') (.slice ays ls cys) (.slice azs ms czs) 37
  simp only [World.size_alloc] at h1
  have VB := hide h1
  clear h1
  obtain ⟨W, hW⟩ : ∃ W, (w.alloc (.cells #[.int .i64 a, .int .i64 b, .int .i64 c, .int .i64 d, .slice ayr lr cyr, .slice azr mr czr] 37)).alloc (.cells #[.int .i64 a', .int .i64 b', .int .i64 c', .int .i64 d', .slice ays ls cys, .slice azs ms czs] 37) = W := ⟨_, rfl⟩
  rw [hW] at BA VA VB
  by_cases q0 : f = 0
  · have hfx : (f != 0) = false := by simp [q0]
    by_cases q1 : g = 0
    · have hgx : (g != 0) = false := by simp [q1]
      by_cases qa : a' < a
      · have HE := hide (K3.out (Or.inl qa))
        have hax : decide (a' < a) = true := by simp [qa]
        have A0 := VA.out.1
        have A2 := VA.out.2.2.1
        have P0 := VB.out.1
        have P2 := VB.out.2.2.1
        go_enter Try.func11, Try.ntmps11
        go_wp2_with fail
        (try rw [hW])
        clear hW
        clear A0 A2 P0 P2
        have A0 := VA.out.1
        have A2 := VA.out.2.2.1
        have P0 := VB.out.1
        have P2 := VB.out.2.2.1
        refine (H1.out _ _ BA.out VA.out).mono ?_
        rintro e w1 ⟨rfl, hb⟩
        have B1 := hide (below_on BA.out hb)
        have A1 := hide (VA.out.later hb)
        have Q1 := hide (VB.out.later hb)
        clear hb A0 A2 P0 P2
        have A0 := A1.out.1
        have A2 := A1.out.2.2.1
        have P0 := Q1.out.1
        have P2 := Q1.out.2.2.1
        go_wp2_with fail
        refine (H2.out _ _ B1.out Q1.out).mono ?_
        rintro e w2 ⟨rfl, hb⟩
        have B2 := hide (below_on B1.out hb)
        have V2 := hide (A1.out.later hb)
        have Q2 := hide (Q1.out.later hb)
        clear hb A0 A2 P0 P2
        have A0 := V2.out.1
        have A2 := V2.out.2.2.1
        have P0 := Q2.out.1
        have P2 := Q2.out.2.2.1
        go_wp2
        go_ret
        exact ⟨by rw [← HE.out]; rfl, B2.out⟩
      · have hax : decide (a' < a) = false := by simp [qa]
        by_cases qc : c' < c
        · have HE := hide (K4.out (by omega))
          have hcx : decide (c' < c) = true := by simp [qc]
          have A0 := VA.out.1
          have A2 := VA.out.2.2.1
          have P0 := VB.out.1
          have P2 := VB.out.2.2.1
          go_enter Try.func11, Try.ntmps11
          go_wp2_with fail
          (try rw [hW])
          clear hW
          clear A0 A2 P0 P2
          have A0 := VA.out.1
          have A2 := VA.out.2.2.1
          have P0 := VB.out.1
          have P2 := VB.out.2.2.1
          refine (H1.out _ _ BA.out VA.out).mono ?_
          rintro e w1 ⟨rfl, hb⟩
          have B1 := hide (below_on BA.out hb)
          have A1 := hide (VA.out.later hb)
          have Q1 := hide (VB.out.later hb)
          clear hb A0 A2 P0 P2
          have A0 := A1.out.1
          have A2 := A1.out.2.2.1
          have P0 := Q1.out.1
          have P2 := Q1.out.2.2.1
          go_wp2_with fail
          refine (H2.out _ _ B1.out Q1.out).mono ?_
          rintro e w2 ⟨rfl, hb⟩
          have B2 := hide (below_on B1.out hb)
          have V2 := hide (A1.out.later hb)
          have Q2 := hide (Q1.out.later hb)
          clear hb A0 A2 P0 P2
          have A0 := V2.out.1
          have A2 := V2.out.2.2.1
          have P0 := Q2.out.1
          have P2 := Q2.out.2.2.1
          go_wp2
          go_ret
          exact ⟨by rw [← HE.out]; rfl, B2.out⟩
        · have hcx : decide (c' < c) = false := by simp [qc]
          have V0 := hide (show Below w.heap.size w W from BA.out)
          by_cases q2 : a < a'
          · have HE := hide (K5.out q0 q1 (by rintro (h | ⟨h, _, _⟩) <;> omega) (by omega))
            have hgt : decide (a < a') = true := by simp [q2]
            clear q2
            have A0 := VA.out.1
            have A2 := VA.out.2.2.1
            have P0 := VB.out.1
            have P2 := VB.out.2.2.1
            go_enter Try.func11, Try.ntmps11
            go_wp2_with fail
            (try rw [hW])
            clear hW
            clear A0 A2 P0 P2
            have A0 := VA.out.1
            have A2 := VA.out.2.2.1
            have P0 := VB.out.1
            have P2 := VB.out.2.2.1
            refine (H1.out _ _ BA.out VA.out).mono ?_
            rintro e w1 ⟨rfl, hb⟩
            have B1 := hide (below_on BA.out hb)
            have A1 := hide (VA.out.later hb)
            have Q1 := hide (VB.out.later hb)
            clear hb A0 A2 P0 P2
            have A0 := A1.out.1
            have A2 := A1.out.2.2.1
            have P0 := Q1.out.1
            have P2 := Q1.out.2.2.1
            go_wp2_with fail
            refine (H2.out _ _ B1.out Q1.out).mono ?_
            rintro e w2 ⟨rfl, hb⟩
            have B2 := hide (below_on B1.out hb)
            have V2 := hide (A1.out.later hb)
            have Q2 := hide (Q1.out.later hb)
            clear hb A0 A2 P0 P2
            have A0 := V2.out.1
            have A2 := V2.out.2.2.1
            have P0 := Q2.out.1
            have P2 := Q2.out.2.2.1
            have A1 := V2.out.2.1
            have P1 := Q2.out.2.1
            go_wp2
            go_ret
            exact ⟨by rw [← HE.out]; first | rfl | simp [*], B2.out⟩
          · have q3 : a' = a := by omega
            have hgt : decide (a < a') = false := by simp [q2]
            by_cases q4 : b = 0
            · have HE := hide (K5.out q0 q1 (by rintro (h | ⟨_, h, _⟩); exact absurd h (by omega); exact h q4) (by omega))
              have hb0 : (b == 0) = true := by simp [q4]
              clear q2 q3 q4
              have A0 := VA.out.1
              have A2 := VA.out.2.2.1
              have P0 := VB.out.1
              have P2 := VB.out.2.2.1
              go_enter Try.func11, Try.ntmps11
              go_wp2_with fail
              (try rw [hW])
              clear hW
              clear A0 A2 P0 P2
              have A0 := VA.out.1
              have A2 := VA.out.2.2.1
              have P0 := VB.out.1
              have P2 := VB.out.2.2.1
              refine (H1.out _ _ BA.out VA.out).mono ?_
              rintro e w1 ⟨rfl, hb⟩
              have B1 := hide (below_on BA.out hb)
              have A1 := hide (VA.out.later hb)
              have Q1 := hide (VB.out.later hb)
              clear hb A0 A2 P0 P2
              have A0 := A1.out.1
              have A2 := A1.out.2.2.1
              have P0 := Q1.out.1
              have P2 := Q1.out.2.2.1
              go_wp2_with fail
              refine (H2.out _ _ B1.out Q1.out).mono ?_
              rintro e w2 ⟨rfl, hb⟩
              have B2 := hide (below_on B1.out hb)
              have V2 := hide (A1.out.later hb)
              have Q2 := hide (Q1.out.later hb)
              clear hb A0 A2 P0 P2
              have A0 := V2.out.1
              have A2 := V2.out.2.2.1
              have P0 := Q2.out.1
              have P2 := Q2.out.2.2.1
              have A1 := V2.out.2.1
              have P1 := Q2.out.2.1
              go_wp2
              go_ret
              exact ⟨by rw [← HE.out]; first | rfl | simp [*], B2.out⟩
            · have hb0 : (b == 0) = false := by simp [q4]
              by_cases q5 : b' = b
              · have HE := hide (K5.out q0 q1 (by rintro (h | ⟨_, _, h⟩); exact absurd h (by omega); exact h q5) (by omega))
                have hbb : (b' == b) = true := by simp [q5]
                clear q2 q3 q4 q5
                have A0 := VA.out.1
                have A2 := VA.out.2.2.1
                have P0 := VB.out.1
                have P2 := VB.out.2.2.1
                go_enter Try.func11, Try.ntmps11
                go_wp2_with fail
                (try rw [hW])
                clear hW
                clear A0 A2 P0 P2
                have A0 := VA.out.1
                have A2 := VA.out.2.2.1
                have P0 := VB.out.1
                have P2 := VB.out.2.2.1
                refine (H1.out _ _ BA.out VA.out).mono ?_
                rintro e w1 ⟨rfl, hb⟩
                have B1 := hide (below_on BA.out hb)
                have A1 := hide (VA.out.later hb)
                have Q1 := hide (VB.out.later hb)
                clear hb A0 A2 P0 P2
                have A0 := A1.out.1
                have A2 := A1.out.2.2.1
                have P0 := Q1.out.1
                have P2 := Q1.out.2.2.1
                go_wp2_with fail
                refine (H2.out _ _ B1.out Q1.out).mono ?_
                rintro e w2 ⟨rfl, hb⟩
                have B2 := hide (below_on B1.out hb)
                have V2 := hide (A1.out.later hb)
                have Q2 := hide (Q1.out.later hb)
                clear hb A0 A2 P0 P2
                have A0 := V2.out.1
                have A2 := V2.out.2.2.1
                have P0 := Q2.out.1
                have P2 := Q2.out.2.2.1
                have A1 := V2.out.2.1
                have P1 := Q2.out.2.1
                go_wp2
                go_ret
                exact ⟨by rw [← HE.out]; first | rfl | simp [*], B2.out⟩
              · have HE := hide (K3.out (Or.inr ⟨q3, q4, q5⟩))
                have hbb : (b' == b) = false := by simp [q5]
                clear q2 q3 q4 q5
                have A0 := VA.out.1
                have A2 := VA.out.2.2.1
                have P0 := VB.out.1
                have P2 := VB.out.2.2.1
                go_enter Try.func11, Try.ntmps11
                go_wp2_with fail
                (try rw [hW])
                clear hW
                clear A0 A2 P0 P2
                have A0 := VA.out.1
                have A2 := VA.out.2.2.1
                have P0 := VB.out.1
                have P2 := VB.out.2.2.1
                refine (H1.out _ _ BA.out VA.out).mono ?_
                rintro e w1 ⟨rfl, hb⟩
                have B1 := hide (below_on BA.out hb)
                have A1 := hide (VA.out.later hb)
                have Q1 := hide (VB.out.later hb)
                clear hb A0 A2 P0 P2
                have A0 := A1.out.1
                have A2 := A1.out.2.2.1
                have P0 := Q1.out.1
                have P2 := Q1.out.2.2.1
                go_wp2_with fail
                refine (H2.out _ _ B1.out Q1.out).mono ?_
                rintro e w2 ⟨rfl, hb⟩
                have B2 := hide (below_on B1.out hb)
                have V2 := hide (A1.out.later hb)
                have Q2 := hide (Q1.out.later hb)
                clear hb A0 A2 P0 P2
                have A0 := V2.out.1
                have A2 := V2.out.2.2.1
                have P0 := Q2.out.1
                have P2 := Q2.out.2.2.1
                have A1 := V2.out.2.1
                have P1 := Q2.out.2.1
                go_wp2
                go_ret
                exact ⟨by rw [← HE.out]; first | rfl | simp [*], B2.out⟩
    · have HE := hide (K2.out q1)
      have hgx : (g != 0) = true := by simp [q1]
      have A0 := VA.out.1
      have A2 := VA.out.2.2.1
      have P0 := VB.out.1
      have P2 := VB.out.2.2.1
      go_enter Try.func11, Try.ntmps11
      go_wp2_with fail
      (try rw [hW])
      clear hW
      clear A0 A2 P0 P2
      have A0 := VA.out.1
      have A2 := VA.out.2.2.1
      have P0 := VB.out.1
      have P2 := VB.out.2.2.1
      refine (H1.out _ _ BA.out VA.out).mono ?_
      rintro e w1 ⟨rfl, hb⟩
      have B1 := hide (below_on BA.out hb)
      have A1 := hide (VA.out.later hb)
      have Q1 := hide (VB.out.later hb)
      clear hb A0 A2 P0 P2
      have A0 := A1.out.1
      have A2 := A1.out.2.2.1
      have P0 := Q1.out.1
      have P2 := Q1.out.2.2.1
      go_wp2_with fail
      refine (H2.out _ _ B1.out Q1.out).mono ?_
      rintro e w2 ⟨rfl, hb⟩
      have B2 := hide (below_on B1.out hb)
      have V2 := hide (A1.out.later hb)
      have Q2 := hide (Q1.out.later hb)
      clear hb A0 A2 P0 P2
      have A0 := V2.out.1
      have A2 := V2.out.2.2.1
      have P0 := Q2.out.1
      have P2 := Q2.out.2.2.1
      go_wp2
      go_ret
      exact ⟨by rw [← HE.out]; rfl, B2.out⟩
  · have HE := hide (K1.out q0)
    have hfx : (f != 0) = true := by simp [q0]
    have A0 := VA.out.1
    have A2 := VA.out.2.2.1
    have P0 := VB.out.1
    have P2 := VB.out.2.2.1
    go_enter Try.func11, Try.ntmps11
    go_wp2_with fail
    (try rw [hW])
    clear hW
    clear A0 A2 P0 P2
    have A0 := VA.out.1
    have A2 := VA.out.2.2.1
    have P0 := VB.out.1
    have P2 := VB.out.2.2.1
    refine (H1.out _ _ BA.out VA.out).mono ?_
    rintro e w1 ⟨rfl, hb⟩
    have B1 := hide (below_on BA.out hb)
    have A1 := hide (VA.out.later hb)
    have Q1 := hide (VB.out.later hb)
    clear hb A0 A2 P0 P2
    have A0 := A1.out.1
    have A2 := A1.out.2.2.1
    have P0 := Q1.out.1
    have P2 := Q1.out.2.2.1
    go_wp2
    go_ret
    exact ⟨by rw [← HE.out]; rfl, B1.out⟩
end Go.Proofs.Ytebgonaiodblhaa
