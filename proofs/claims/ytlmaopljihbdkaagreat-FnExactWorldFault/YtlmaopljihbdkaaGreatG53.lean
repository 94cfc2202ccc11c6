/- Wf2 in one text: what each says stands at its head below. -/
import Derived.Test.YtlmaopljihbdkaaGreatG52
import Derived.Test.YtlmaopljihbdkaaGreatG44
import Derived.Test.YtlmaopljihbdkaaGreatG29
import Derived.Test.YtlmaopljihbdkaaGreatG30
namespace Go.Proofs.YtlmaopljihbdkaaGreat
open Go.RowKit Go.Maps
set_option maxHeartbeats 8000000 in
set_option maxRecDepth 4000 in
theorem l13FaultP {S1 S2 S3 S4 : Nat → Prop} {w : World} {bk : Nat} {u v y z : Value} {xss : List (List Int)} {ps : List (Int × List Int)} (r : Rf) (h8 : Var8 w bk u v (.int .i64 r.tm) (.int .i64 r.vt) (.int .i64 r.si) (.int .i64 r.st) y z) (hu : RdII S1 w u xss) (hv : RdP S2 w v ps) (hy : RdI S3 w y r.sn) (hz : RdJ S4 w z r.lg) (hs : Small xss ps) :
    Calls Tryz.prog 57 #[.pointer (some ⟨bk, 0, none⟩)] w fun e w' => e = .returned (.int .i64 (wfF xss ps r)) ∧ Below w.heap.size w w' := by
  obtain ⟨au, cu, rfl⟩ := hu.shapeW
  obtain ⟨av, cv, rfl⟩ := hv.shapeW
  obtain ⟨ay, cy, rfl⟩ := hy.shape
  obtain ⟨az, cz, rfl, _⟩ := hz.shape
  have HU := hide hu
  have HV := hide hv
  have HY := hide hy
  have HZ := hide hz
  have HSm := hide hs
  have H1 := hide (@wf_raft xss ps r)
  have H2 := hide (@wf_view xss ps r)
  have H3 := hide (@wf_cache xss ps r)
  have H4 := hide (@wf_load xss ps r)
  have H5 := hide (@wf_last xss ps r)
  obtain ⟨F, hF⟩ : ∃ F, wfF xss ps r = F := ⟨_, rfl⟩
  rw [hF] at H1 H2 H3 H4 H5 ⊢
  obtain ⟨lu, hlu⟩ : ∃ l, xss.length = l := ⟨_, rfl⟩
  obtain ⟨lv, hlv⟩ : ∃ l, ps.length = l := ⟨_, rfl⟩
  have HLv := hide hlv
  obtain ⟨ly, hly⟩ : ∃ l, r.sn.length = l := ⟨_, rfl⟩
  obtain ⟨lz, hlz⟩ : ∃ l, r.lg.length = l := ⟨_, rfl⟩
  have hvm : ps.length ≤ 9223372036854775807 := by have := hs.puts; omega
  have hbk := h8.lt
  have V1 := hide h8
  rw [hlu] at HU V1
  rw [hlv] at HV hvm V1
  rw [hly] at HY V1
  rw [hlz] at HZ V1
  clear hu hv hy hz hs hF hlu hlv hly hlz h8
  go_enter Tryz.func57, Tryz.ntmps57
  obtain ⟨W1, hW1⟩ : ∃ W1, w = W1 := ⟨_, rfl⟩
  subst hW1
  have B1 := hide (Below.refl w.heap.size w)
  obtain ⟨x0, x1, x2, x3, x4, x5, x6, x7⟩ := V1.out
  have HRf := hide (l10FaultO r (bk := bk) (ob := 2) ⟨x2, x3, x4, x5, x6, x7⟩ (HY.out.later B1.out) (HZ.out.later B1.out))
  clear x0 x1 x2 x3 x4 x5 x6 x7
  obtain ⟨Zr, hZr⟩ : ∃ Z, rfF r = Z := ⟨_, rfl⟩
  rw [hZr] at HRf H1 H2 H3 H4 H5
  clear hZr
  obtain ⟨c0, c1, c2, c3, c4, c5, c6, c7⟩ := V1.out
  go_wp2_with fail
  refine HRf.out.mono ?_
  rintro e w2 ⟨rfl, hb2⟩
  have V2 := hide (V1.out.later hb2)
  have B2 := hide (below_on B1.out hb2)
  clear c0 c1 c2 c3 c4 c5 c6 c7 hb2 V1 B1 HRf
  by_cases h1 : Zr = 0
  · subst h1
    have hVw := specViewOf (HU.out.later B2.out) (HV.out.later B2.out) HSm.out
    unfold EndsP at hVw
    have HVw := hide hVw
    obtain ⟨Zl, hZl⟩ : ∃ Z, lgF xss ps = Z := ⟨_, rfl⟩
    obtain ⟨vw, hvw⟩ : ∃ x, vwL xss ps = x := ⟨_, rfl⟩
    rw [hZl, hvw] at HVw
    rw [hZl] at H2 H3 H4 H5
    rw [hvw] at H4 H5
    clear hVw hZl hvw
    obtain ⟨c0, c1, c2, c3, c4, c5, c6, c7⟩ := V2.out
    go_wp2_with fail
    refine HVw.out.mono ?_
    rintro e w3 ⟨q3, rfl, hb3, ho3⟩
    have V3 := hide (V2.out.later hb3)
    have B3 := hide (below_on B2.out hb3)
    obtain ⟨a3, c3', rfl⟩ := ho3.rd.shapeW
    obtain ⟨n3, hn3⟩ : ∃ l, vw.length = l := ⟨_, rfl⟩
    have HRd3 := hide ho3.rd
    rw [hn3] at HRd3 ⊢
    clear c0 c1 c2 c3 c4 c5 c6 c7 hb3 V2 B2 HVw ho3 hn3
    go_upto_region 5 with fail
    obtain ⟨W4, hW4⟩ : ∃ W4, w3.alloc (.cells #[.int .i64 Zl, .slice a3 n3 c3'] 29) = W4 := ⟨_, rfl⟩
    have hb4 : Below w3.heap.size w3 W4 := by rw [← hW4]; exact below_alloc _ _
    have p0 : W4.cell? ⟨w3.heap.size, 0, none⟩ = some (.int .i64 Zl) := by rw [← hW4]; simp [go_sem]
    have p1 : W4.cell? ⟨w3.heap.size, 1, none⟩ = some (.slice a3 n3 c3') := by rw [← hW4]; simp [go_sem]
    have V4 := hide (V3.out.later hb4)
    have B4 := hide (below_on B3.out hb4)
    have HRd4 := hide (HRd3.out.later hb4)
    rw [hW4]
    clear hW4 hb4 V3 B3 HRd3
    obtain ⟨c0, c1, c2, c3, c4, c5, c6, c7⟩ := V4.out
    by_cases h2 : Zl = 0
    · subst h2
      by_cases h3 : lv = 0
      · subst h3
        have hnil : ps = [] := List.eq_nil_of_length_eq_zero HLv.out
        have hLd := specLoadRaft HRd4.out
        unfold EndsRf at hLd
        have HLd := hide hLd
        obtain ⟨C, hC⟩ : ∃ C, ldC vw = C := ⟨_, rfl⟩
        obtain ⟨R, hR⟩ : ∃ R, ldR vw = R := ⟨_, rfl⟩
        rw [hC, hR] at HLd
        rw [hC] at H4 H5
        rw [hR] at H5
        clear hLd hC hR
        go_wp2_with fail
        refine HLd.out.mono ?_
        rintro e w5 ⟨y5, z5, rfl, hb5, hiv5⟩
        have V5 := hide (V4.out.later hb5)
        have B5 := hide (below_on B4.out hb5)
        obtain ⟨a5, d5, b5, e5, rfl, rfl⟩ := hiv5.shape
        obtain ⟨l5, hl5⟩ : ∃ l, R.sn.length = l := ⟨_, rfl⟩
        obtain ⟨m5, hm5⟩ : ∃ l, R.lg.length = l := ⟨_, rfl⟩
        rw [hl5, hm5] at hiv5 ⊢
        have HIv5 := hide hiv5
        clear c0 c1 c2 c3 c4 c5 c6 c7 hb5 hiv5 V4 B4 HLd hl5 hm5 p0 p1
        go_upto_region 10 with fail
        obtain ⟨W6, hW6⟩ : ∃ W6, w5.alloc (.cells #[.int .i64 C, .int .i64 R.tm, .int .i64 R.vt, .int .i64 R.si, .int .i64 R.st, .slice a5 l5 d5, .slice b5 m5 e5] 43) = W6 := ⟨_, rfl⟩
        have hb6 : Below w5.heap.size w5 W6 := by rw [← hW6]; exact below_alloc _ _
        have V7 : Hid (Var7 W6 w5.heap.size (.int .i64 C) (.int .i64 R.tm) (.int .i64 R.vt) (.int .i64 R.si) (.int .i64 R.st) (.slice a5 l5 d5) (.slice b5 m5 e5)) := by rw [← hW6]; exact Var7_new _ _ _ _ _ _ _ _ _
        have V6 := hide (V5.out.later hb6)
        have B6 := hide (below_on B5.out hb6)
        have HIv6 := hide (HIv5.out.later hb6)
        rw [hW6]
        clear hW6 hb6 V5 B5 HIv5
        obtain ⟨c0, c1, c2, c3, c4, c5, c6, c7⟩ := V6.out
        obtain ⟨g0, g1, g2, g3, g4, g5, g6⟩ := V7.out
        by_cases h4 : C = 0
        · subst h4
          have hF := H5.out (by first | trivial | rfl) (by first | trivial | rfl) hnil (by first | trivial | rfl)
          have HSame := hide (l10SameO R r (br := w5.heap.size) (obr := 1) (bs := bk) (obs := 2) ⟨g1, g2, g3, g4, g5, g6⟩ ⟨c2, c3, c4, c5, c6, c7⟩ HIv6.out.rdI HIv6.out.rdJ (HY.out.later B6.out) (HZ.out.later B6.out))
          obtain ⟨sm, hsm⟩ : ∃ b, sameR R r = b := ⟨_, rfl⟩
          rw [hsm] at HSame hF
          clear hsm H4 H5
          go_wp2_with fail
          refine HSame.out.mono ?_
          rintro e w7 ⟨rfl, hb7⟩
          have B7 := hide (below_on B6.out hb7)
          clear hb7 c0 c1 c2 c3 c4 c5 c6 c7 g0 g1 g2 g3 g4 g5 g6
          cases sm with
          | true =>
            subst hF
            go_wp2
            go_ret
            exact ⟨rfl, B7.out⟩
          | false =>
            subst hF
            go_wp2
            go_ret
            exact ⟨rfl, B7.out⟩
        · have hF := H4.out (by first | trivial | rfl) (by first | trivial | rfl) hnil h4
          subst hF
          have h4b : (F != 0) = true := by simpa using h4
          go_wp2
          go_ret
          exact ⟨rfl, B6.out⟩
      · have hne : ps ≠ [] := fun e => h3 (by rw [← HLv.out, e]; rfl)
        have hF := H3.out (by first | trivial | rfl) (by first | trivial | rfl) hne
        subst hF
        have h3i : (0 : Int) < (lv : Int) := by omega
        have h3n : 0 < lv := by omega
        go_wp2
        go_ret
        exact ⟨rfl, B4.out⟩
    · have hF := H2.out (by first | trivial | rfl) h2
      subst hF
      have h2b : (F != 0) = true := by simpa using h2
      go_wp2
      go_ret
      exact ⟨rfl, B4.out⟩
  · have hF := H1.out h1
    subst hF
    have h1b : (F != 0) = true := by simpa using h1
    go_wp2
    go_ret
    exact ⟨rfl, B2.out⟩
set_option maxHeartbeats 4000000 in
theorem specWorldFault {S1 S2 S3 S4 : Nat → Prop} {w : World} {u v y z : Value} {xss : List (List Int)} {ps : List (Int × List Int)} (r : Rf) (hu : RdII S1 w u xss) (hv : RdP S2 w v ps) (hy : RdI S3 w y r.sn) (hz : RdJ S4 w z r.lg) (hs : Small xss ps) :
    Calls Tryz.prog 25 #[.agg #[u, v, .int .i64 r.tm, .int .i64 r.vt, .int .i64 r.si, .int .i64 r.st, y, z]] w fun e w' => e = .returned (.int .i64 (wfF xss ps r)) ∧ Below w.heap.size w w' := by
  obtain ⟨au, cu, rfl⟩ := hu.shapeW
  obtain ⟨av, cv, rfl⟩ := hv.shapeW
  obtain ⟨ay, cy, rfl⟩ := hy.shape
  obtain ⟨az, cz, rfl, _⟩ := hz.shape
  have hb1 := below_alloc w (.cells #[.slice au xss.length cu, .slice av ps.length cv, .int .i64 r.tm, .int .i64 r.vt, .int .i64 r.si, .int .i64 r.st, .slice ay r.sn.length cy, .slice az r.lg.length cz] 61)
  have HF := hide (l13FaultP r (Var8_new w (.slice au xss.length cu) (.slice av ps.length cv) (.int .i64 r.tm) (.int .i64 r.vt) (.int .i64 r.si) (.int .i64 r.st) (.slice ay r.sn.length cy) (.slice az r.lg.length cz) 61) (hu.later hb1) (hv.later hb1) (hy.later hb1) (hz.later hb1) hs)
  obtain ⟨F, hF⟩ : ∃ F, wfF xss ps r = F := ⟨_, rfl⟩
  rw [hF] at HF ⊢
  have HB := hide hb1
  clear hu hv hy hz hs hF hb1
  go_enter Tryz.func25, Tryz.ntmps25
  go_wp2_with fail
  refine HF.out.mono ?_
  rintro e w2 ⟨rfl, hb⟩
  have HB2 := hide (below_on HB.out hb)
  clear hb HF HB
  go_wp2
  go_ret
  exact ⟨rfl, HB2.out⟩
end Go.Proofs.YtlmaopljihbdkaaGreat
