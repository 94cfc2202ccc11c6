/- LawHards Ra6a Ra6 in one text: what each says stands at its head below. -/
import Derived.Test.YtncgpfapepminaaDoorG37
import Derived.Test.YtncgpfapepminaaDoorG39
import Derived.Test.YtncgpfapepminaaDoorG18
import Derived.Test.YtncgpfapepminaaDoorG40
import Derived.Test.YtncgpfapepminaaDoorG13
import Derived.Test.YtncgpfapepminaaDoorG08
import Derived.Test.YtncgpfapepminaaDoorG09
import Derived.Test.YtncgpfapepminaaDoorG20
import Derived.BigQuiet
/- Chapter 15: the law 'FnHards' walked. Made by program (genlawhd.py). -/
namespace Go.Proofs.YtncgpfapepminaaDoor
open Go.RowKit

theorem RdB.freshH {s : Nat} {w : World} {v : Value} {bs : List Nat} (h : RdB s w v bs) : RdB w.heap.size w v bs := h.laterH (Below.refl _ _)
theorem Tryd.fldRr0 (x a b c d y z : Value) (w : World) : (Instr.field 31 (.agg #[x, a, b, c, d, y, z]) 0).run Tryd.prog w = .ok x w := by
  simp [Instr.field, run_underlying Tryd.underlying31, asAgg, part, isAgg, run_underlying Tryd.underlying2]
/-- What a hard state that was stored leaves. -/
structure HdL (Q X : Rf) (p q : Int) : Prop where
  tm : X.tm = p
  vt : X.vt = q
  lg : X.lg = Q.lg
  rf : rfF X = 0
  kept : keptB Q X = true
  p0 : 0 ≤ p
  q0 : 0 ≤ q
  vote : q ≠ 0 → shC X p (q % 9 + 1) = 6
  term : p ≠ 0 → shC X (p - 1) q = 6
theorem HdL.of {Q : Rf} {p q : Int} (h : shC Q p q = 0) : HdL Q (shR Q p q) p q := by
  obtain ⟨h0, ⟨ht, hv⟩, h2, e⟩ := sh_inv h
  obtain ⟨k1, k2, k3⟩ := hd_law h
  have hr := sh_rf h
  rw [e] at k1 k2 k3 hr ⊢
  exact ⟨rfl, rfl, rfl, hr, k1, by omega, by omega, k2, k3⟩

set_option linter.unusedSimpArgs false in
set_option maxHeartbeats 40000000 in
set_option maxRecDepth 4000 in
theorem lawHards {s0 : Nat} {w : World} {v : Value} {bs : List Nat} (hv : RdB s0 w v bs) (hsm : bs.length ≤ 1048576) (hg : Gl w) :
    Calls Tryd.prog 3 #[v] w fun e w' => e = .returned (.bool true) ∧ Below w.heap.size w w' := by
  have HV : Hid (RdB w.heap.size w v bs) := RdB.freshH hv
  have HG := hide hg
  have fR0 := Tryd.fldRr0
  obtain ⟨ao, c, rfl, hle, h3⟩ := hv
  clear h3 hg
  go_enter Tryd.func3, Tryd.ntmps3
  go_wp2_with fail
  refine (lwBig ao bs.length c w (by omega)).mono ?_
  rintro e wx ⟨he, hwx⟩
  rw [decide_eq_false (by omega : ¬ (1048576 < bs.length))] at he
  rw [he, hwx]
  clear he hwx wx
  go_wp2_with fail
  refine (drawSetHard HV.out).mono ?_
  rintro e w1 ⟨Q, y, z, p, q, rfl, _, hb1, hiv, hp, hq⟩
  obtain ⟨ay, cy, az, cz, ey, ez⟩ := hiv.shape
  subst ey
  subst ez
  have bA := below_alloc w1 (.cells #[.int .i64 Q.tm, .int .i64 Q.vt, .int .i64 Q.si, .int .i64 Q.st, .slice ay Q.sn.length cy, .slice az Q.lg.length cz] 27)
  have B1 := hide (below_on hb1 bA)
  have I1 := hide (hiv.later bA)
  have V1 := hide (Var6_new w1 (.int .i64 Q.tm) (.int .i64 Q.vt) (.int .i64 Q.si) (.int .i64 Q.st) (.slice ay Q.sn.length cy) (.slice az Q.lg.length cz) 27)
  have G1 := hide ((HG.out.later hb1).later bA)
  clear HV HG hb1 hiv bA hsm hle
  go_upto_region 4 with fail
  obtain ⟨W, hW⟩ : ∃ x, w1.alloc (.cells #[.int .i64 Q.tm, .int .i64 Q.vt, .int .i64 Q.si, .int .i64 Q.st, .slice ay Q.sn.length cy, .slice az Q.lg.length cz] 27) = x := ⟨_, rfl⟩
  rw [hW] at B1 I1 V1 G1
  (try rw [hW])
  clear hW
  obtain ⟨RR, hRR⟩ : ∃ x, w1.heap.size = x := ⟨_, rfl⟩
  rw [hRR] at V1
  (try rw [hRR])
  have KI := hide (implSetHard Q p q G1.out I1.out.rdI I1.out.rdJ)
  have KS := hide (fun (w' : World) (hb : Below W.heap.size W w') => specSetHard Q p q (I1.out.later hb).rdI (I1.out.later hb).rdJ)
  have HL := hide (fun h : shC Q p q = 0 => HdL.of h)
  generalize shR Q p q = X at KI KS HL
  generalize shC Q p q = C at KI KS HL
  obtain ⟨v0, v1, v2, v3, v4, v5⟩ := V1.out
  go_wp2_with fail
  refine (KI.out).mono ?_
  rintro e w2 ⟨y2, z2, rfl, hb2, ho2⟩
  obtain ⟨a2, k2, g2, j2, rfl, rfl⟩ := ho2.shape
  have bA := below_alloc w2 (.cells #[.int .i64 C, .int .i64 X.tm, .int .i64 X.vt, .int .i64 X.si, .int .i64 X.st, .slice a2 X.sn.length k2, .slice g2 X.lg.length j2] 31)
  have B2 := hide (below_on hb2 bA)
  have I2 := hide (I1.out.later B2.out)
  have J2 := hide (ho2.later bA)
  have V2 := hide (V1.out.later B2.out)
  have G2 := hide (G1.out.later B2.out)
  have U2 := hide (Var7_new w2 (.int .i64 C) (.int .i64 X.tm) (.int .i64 X.vt) (.int .i64 X.si) (.int .i64 X.st) (.slice a2 X.sn.length k2) (.slice g2 X.lg.length j2) 31)
  clear KI hb2 ho2 bA v0 v1 v2 v3 v4 v5
  go_upto_region 5 with fail
  obtain ⟨W2, hW2⟩ : ∃ x, w2.alloc (.cells #[.int .i64 C, .int .i64 X.tm, .int .i64 X.vt, .int .i64 X.si, .int .i64 X.st, .slice a2 X.sn.length k2, .slice g2 X.lg.length j2] 31) = x := ⟨_, rfl⟩
  rw [hW2] at B2 I2 J2 V2 G2 U2
  (try rw [hW2])
  clear hW2
  obtain ⟨UU, hUU⟩ : ∃ x, w2.heap.size = x := ⟨_, rfl⟩
  rw [hUU] at U2
  (try rw [hUU])
  obtain ⟨v0, v1, v2, v3, v4, v5⟩ := V2.out
  obtain ⟨u0, u1, u2, u3, u4, u5, u6⟩ := U2.out
  by_cases hC : C = 0
  · subst hC
    have HD := hide (HL.out rfl)
    have hp0 := HD.out.p0
    have hq0 := HD.out.q0
    have etm := HD.out.tm
    have evt := HD.out.vt
    subst etm
    subst evt
    clear KS HL hRR hUU
    have KI2 := hide (implSetHard X X.tm (X.vt % 9 + 1) G2.out J2.out.rdI J2.out.rdJ)
    have hrem : IntKind.i64.wrap (X.vt.tmod 9) = X.vt % 9 := by rw [Int.tmod_eq_emod_of_nonneg hq0]; simp [IntKind.wrap, IntKind.bits, IntKind.signed]; omega
    have hadd : IntKind.i64.wrap (X.vt % 9 + 1) = X.vt % 9 + 1 := by simp [IntKind.wrap, IntKind.bits, IntKind.signed]; omega
    go_wp2_with fail
    have HC2 := hide (fun h : X.vt ≠ 0 => HD.out.vote h)
    generalize shR X X.tm (X.vt % 9 + 1) = X2 at KI2
    generalize shC X X.tm (X.vt % 9 + 1) = C2 at KI2 HC2
    refine (KI2.out).mono ?_
    rintro e w3 ⟨y3, z3, rfl, hb3, ho3⟩
    obtain ⟨a3, k3, g3, j3, rfl, rfl⟩ := ho3.shape
    have bA := below_alloc w3 (.cells #[.int .i64 C2, .int .i64 X2.tm, .int .i64 X2.vt, .int .i64 X2.si, .int .i64 X2.st, .slice a3 X2.sn.length k3, .slice g3 X2.lg.length j3] 31)
    have B3 := hide (below_on hb3 bA)
    have U3 := hide (Var7_new w3 (.int .i64 C2) (.int .i64 X2.tm) (.int .i64 X2.vt) (.int .i64 X2.si) (.int .i64 X2.st) (.slice a3 X2.sn.length k3) (.slice g3 X2.lg.length j3) 31)
    clear KI2 hb3 ho3 bA v0 v1 v2 v3 v4 v5 u0 u1 u2 u3 u4 u5 u6 hrem hadd
    go_upto_region 8 with fail
    obtain ⟨W3, hW3⟩ : ∃ x, w3.alloc (.cells #[.int .i64 C2, .int .i64 X2.tm, .int .i64 X2.vt, .int .i64 X2.si, .int .i64 X2.st, .slice a3 X2.sn.length k3, .slice g3 X2.lg.length j3] 31) = x := ⟨_, rfl⟩
    rw [hW3] at B3 U3
    (try rw [hW3])
    clear hW3
    obtain ⟨UV, hUV⟩ : ∃ x, w3.heap.size = x := ⟨_, rfl⟩
    rw [hUV] at U3
    (try rw [hUV])
    clear hUV
    have KF := hide (fun (w' : World) (hb : Below W2.heap.size W2 w') => implRaftFault X (J2.out.later hb).rdI (J2.out.later hb).rdJ)
    have KK := hide (fun (w' : World) (hb : Below W2.heap.size W2 w') => implKeptOf Q X (I2.out.later hb).rdI (I2.out.later hb).rdJ (J2.out.later hb).rdI (J2.out.later hb).rdJ)
    have KE : Hid (∀ w', Below W2.heap.size W2 w' → Calls Tryd.prog 12 #[.slice g2 X.lg.length j2, .slice az Q.lg.length cz] w' fun e w'' => e = .returned (.bool true) ∧ Below w'.heap.size w' w'') := fun w' hb => by
      have h := implSameEntries (J2.out.later hb).rdJ (I2.out.later hb).rdJ
      rw [decide_eq_true HD.out.lg] at h
      exact h
    have KI3 := hide (fun (w' : World) (hb : Below W2.heap.size W2 w') => implSetHard X (X.tm - 1) X.vt (G2.out.later hb) (J2.out.later hb).rdI (J2.out.later hb).rdJ)
    rw [HD.out.rf] at KF
    rw [HD.out.kept] at KK
    have HTm := hide (fun h : X.tm ≠ 0 => HD.out.term h)
    generalize shR X (X.tm - 1) X.vt = X3 at KI3
    generalize shC X (X.tm - 1) X.vt = C3 at KI3 HTm
    skip
    obtain ⟨v0, v1, v2, v3, v4, v5⟩ := V2.out.later B3.out
    obtain ⟨u0, u1, u2, u3, u4, u5, u6⟩ := U2.out.later B3.out
    obtain ⟨t0, t1, t2, t3, t4, t5, t6⟩ := U3.out
    go_wp2_with fail
    refine (KF.out _ B3.out).mono ?_
    rintro e w4 ⟨rfl, hb⟩
    have Bw4 := hide (below_on B3.out hb)
    have Tw4 := hide (U3.out.later hb)
    clear hb
    clear v0 v1 v2 v3 v4 v5 u0 u1 u2 u3 u4 u5 u6 t0 t1 t2 t3 t4 t5 t6
    obtain ⟨v0, v1, v2, v3, v4, v5⟩ := V2.out.later Bw4.out
    obtain ⟨u0, u1, u2, u3, u4, u5, u6⟩ := U2.out.later Bw4.out
    obtain ⟨t0, t1, t2, t3, t4, t5, t6⟩ := Tw4.out
    go_wp2_with fail
    refine (KK.out _ Bw4.out).mono ?_
    rintro e w5 ⟨rfl, hb⟩
    have Bw5 := hide (below_on Bw4.out hb)
    have Tw5 := hide (Tw4.out.later hb)
    clear hb
    clear v0 v1 v2 v3 v4 v5 u0 u1 u2 u3 u4 u5 u6 t0 t1 t2 t3 t4 t5 t6
    obtain ⟨v0, v1, v2, v3, v4, v5⟩ := V2.out.later Bw5.out
    obtain ⟨u0, u1, u2, u3, u4, u5, u6⟩ := U2.out.later Bw5.out
    obtain ⟨t0, t1, t2, t3, t4, t5, t6⟩ := Tw5.out
    go_wp2_with fail
    refine (KE.out _ Bw5.out).mono ?_
    rintro e w6 ⟨rfl, hb⟩
    have Bw6 := hide (below_on Bw5.out hb)
    have Tw6 := hide (Tw5.out.later hb)
    clear hb
    clear v0 v1 v2 v3 v4 v5 u0 u1 u2 u3 u4 u5 u6 t0 t1 t2 t3 t4 t5 t6
    obtain ⟨v0, v1, v2, v3, v4, v5⟩ := V2.out.later Bw6.out
    obtain ⟨u0, u1, u2, u3, u4, u5, u6⟩ := U2.out.later Bw6.out
    obtain ⟨t0, t1, t2, t3, t4, t5, t6⟩ := Tw6.out
    by_cases hp1 : X.tm = 0
    · skip
      by_cases hq1 : X.vt = 0
      · skip
        go_wp2
        go_ret
        exact ⟨rfl, below_on B1.out (below_on B2.out Bw6.out)⟩
      · obtain rfl := HC2.out hq1
        go_wp2
        go_ret
        exact ⟨rfl, below_on B1.out (below_on B2.out Bw6.out)⟩
    · obtain rfl := HTm.out hp1
      have hsub : IntKind.i64.wrap (X.tm - 1) = X.tm - 1 := by simp [IntKind.wrap, IntKind.bits, IntKind.signed]; omega
      by_cases hq1 : X.vt = 0
      · skip
        rw [hq1] at KI3
        go_wp2_with fail
        refine (KI3.out _ Bw6.out).mono ?_
        rintro e w7 ⟨y7, z7, rfl, hb7, _⟩
        have B7 := hide (below_on Bw6.out hb7)
        clear hb7
        go_wp2
        go_ret
        exact ⟨rfl, below_on B1.out (below_on B2.out B7.out)⟩
      · obtain rfl := HC2.out hq1
        go_wp2_with fail
        refine (KI3.out _ Bw6.out).mono ?_
        rintro e w7 ⟨y7, z7, rfl, hb7, _⟩
        have B7 := hide (below_on Bw6.out hb7)
        clear hb7
        go_wp2
        go_ret
        exact ⟨rfl, below_on B1.out (below_on B2.out B7.out)⟩
  · skip
    have hCb : (C != 0) = true := by simpa using hC
    clear HL
    go_upto_region 6 with fail
    refine wp_region_held_drew (S := fun w' => Below W2.heap.size W2 w') (by kernel_rfl) (below_drewN W2 1) (fun hHeld => ?_)
    refine forgetH (fun wx => Below W2.heap.size W2 wx) hHeld ?_
    clear hHeld
    rintro Y0 hHeld
    clear v0 v1 v2 v3 v4 v5 u0 u1 u2 u3 u4 u5 u6
    refine wpAnyH_take (i := 0) (v := ?ve0x0) rfl (by kernel_rfl) (by kernel_rfl) (by kernel_rfl) (fun _ _ _ h => h) (Or.inl ⟨by rfl, ?he0x0⟩) hHeld ?re0x0
    case he0x0 => intro w9 hSw; (try dsimp only at hSw); obtain ⟨v0, v1, v2, v3, v4, v5⟩ := V2.out.later hSw; obtain ⟨u0, u1, u2, u3, u4, u5, u6⟩ := U2.out.later hSw; first | (go_simp; done) | (go_simp; rw [fR0]; done) | (go_simp; rw [fR0]; rfl) | (go_simp; with_reducible rfl)
    try simp only [Act.put, List.setIfInBounds_toArray, List.set_cons_zero, List.set_cons_succ, List.getElem_toArray, List.getElem_cons_zero]
    refine wpAnyH_take (i := 1) (v := ?ve1x1) rfl (by kernel_rfl) (by kernel_rfl) (by kernel_rfl) (fun _ _ _ h => h) (Or.inl ⟨by rfl, ?he1x1⟩) hHeld ?re1x1
    case he1x1 => intro w9 hSw; (try dsimp only at hSw); obtain ⟨v0, v1, v2, v3, v4, v5⟩ := V2.out.later hSw; obtain ⟨u0, u1, u2, u3, u4, u5, u6⟩ := U2.out.later hSw; first | (go_simp; done) | (go_simp; rw [fR0]; done) | (go_simp; rw [fR0]; rfl) | (go_simp; with_reducible rfl)
    try simp only [Act.put, List.setIfInBounds_toArray, List.set_cons_zero, List.set_cons_succ, List.getElem_toArray, List.getElem_cons_zero, List.getElem_cons_succ]
    refine wpAnyH_take (i := 2) (v := ?ve2x2) rfl (by kernel_rfl) (by kernel_rfl) (by kernel_rfl) (fun _ _ _ h => h) (Or.inl ⟨by rfl, ?he2x2⟩) hHeld ?re2x2
    case he2x2 => intro w9 hSw; (try dsimp only at hSw); obtain ⟨v0, v1, v2, v3, v4, v5⟩ := V2.out.later hSw; obtain ⟨u0, u1, u2, u3, u4, u5, u6⟩ := U2.out.later hSw; first | (go_simp; done) | (go_simp; rw [fR0]; done) | (go_simp; rw [fR0]; rfl) | (go_simp; with_reducible rfl)
    try simp only [Act.put, List.setIfInBounds_toArray, List.set_cons_zero, List.set_cons_succ, List.getElem_toArray, List.getElem_cons_zero, List.getElem_cons_succ]
    refine wpAnyH_take (i := 5) (v := ?ve5x5) rfl (by kernel_rfl) (by kernel_rfl) (by kernel_rfl) (fun _ _ _ h => h) (Or.inl ⟨by rfl, ?he5x5⟩) hHeld ?re5x5
    case he5x5 => intro w9 hSw; (try dsimp only at hSw); obtain ⟨v0, v1, v2, v3, v4, v5⟩ := V2.out.later hSw; obtain ⟨u0, u1, u2, u3, u4, u5, u6⟩ := U2.out.later hSw; first | (go_simp; done) | (go_simp; rw [fR0]; done) | (go_simp; rw [fR0]; rfl) | (go_simp; with_reducible rfl)
    try simp only [Act.put, List.setIfInBounds_toArray, List.set_cons_zero, List.set_cons_succ, List.getElem_toArray, List.getElem_cons_zero, List.getElem_cons_succ]
    refine wpAnyH_take (i := 6) (v := ?ve6x6) rfl (by kernel_rfl) (by kernel_rfl) (by kernel_rfl) (fun _ _ _ h => h) (Or.inl ⟨by rfl, ?he6x6⟩) hHeld ?re6x6
    case he6x6 => intro w9 hSw; (try dsimp only at hSw); obtain ⟨v0, v1, v2, v3, v4, v5⟩ := V2.out.later hSw; obtain ⟨u0, u1, u2, u3, u4, u5, u6⟩ := U2.out.later hSw; first | (go_simp; done) | (go_simp; rw [fR0]; done) | (go_simp; rw [fR0]; rfl) | (go_simp; with_reducible rfl)
    try simp only [Act.put, List.setIfInBounds_toArray, List.set_cons_zero, List.set_cons_succ, List.getElem_toArray, List.getElem_cons_zero, List.getElem_cons_succ]
    have B2x := hide (below_on B2.out hHeld)
    refine wpAnyH_ready (rs := [3]) (by kernel_rfl) (by simp) (AllReadyH.cons rfl (fun K hK => ?_) AllReadyH.nil)
    go_simp
    go_at_call 9
    refine (KS.out _ B2x.out).mono ?_
    rintro e Y1 ⟨y9, z9, rfl, hb9, _⟩
    have HB9 := hide (below_on hHeld hb9)
    clear hb9 hHeld
    refine hK.out _ _ HB9.out (fun hHeld => ?_)
    clear hK K
    try simp only [Act.put, List.setIfInBounds_toArray, List.set_cons_zero, List.set_cons_succ, List.getElem_toArray, List.getElem_cons_zero, List.getElem_cons_succ]
    refine wpAnyH_take (i := 4) (v := ?ve4x4) rfl (by kernel_rfl) (by kernel_rfl) (by kernel_rfl) (fun _ _ _ h => h) (Or.inl ⟨by rfl, ?he4x4⟩) hHeld ?re4x4
    case he4x4 => intro w9 hSw; (try dsimp only at hSw); obtain ⟨v0, v1, v2, v3, v4, v5⟩ := V2.out.later hSw; obtain ⟨u0, u1, u2, u3, u4, u5, u6⟩ := U2.out.later hSw; first | (go_simp; done) | (go_simp; rw [fR0]; done) | (go_simp; rw [fR0]; rfl) | (go_simp; with_reducible rfl)
    try simp only [Act.put, List.setIfInBounds_toArray, List.set_cons_zero, List.set_cons_succ, List.getElem_toArray, List.getElem_cons_zero, List.getElem_cons_succ]
    refine wpAnyH_take (i := 7) (v := ?ve7x7) rfl (by kernel_rfl) (by kernel_rfl) (by kernel_rfl) (fun _ _ _ h => h) (Or.inl ⟨by rfl, ?he7x7⟩) hHeld ?re7x7
    case he7x7 => intro w9 hSw; (try dsimp only at hSw); obtain ⟨v0, v1, v2, v3, v4, v5⟩ := V2.out.later hSw; obtain ⟨u0, u1, u2, u3, u4, u5, u6⟩ := U2.out.later hSw; first | (go_simp; done) | (go_simp; rw [fR0]; done) | (go_simp; rw [fR0]; rfl) | (go_simp; with_reducible rfl)
    try simp only [Act.put, List.setIfInBounds_toArray, List.set_cons_zero, List.set_cons_succ, List.getElem_toArray, List.getElem_cons_zero, List.getElem_cons_succ]
    refine wpAnyH_take (i := 8) (v := ?ve8x8) rfl (by kernel_rfl) (by kernel_rfl) (by kernel_rfl) (fun _ _ _ h => h) (Or.inl ⟨by rfl, ?he8x8⟩) hHeld ?re8x8
    case he8x8 => intro w9 hSw; (try dsimp only at hSw); obtain ⟨v0, v1, v2, v3, v4, v5⟩ := V2.out.later hSw; obtain ⟨u0, u1, u2, u3, u4, u5, u6⟩ := U2.out.later hSw; first | (go_simp; done) | (go_simp; rw [fR0]; done) | (go_simp; rw [fR0]; rfl) | (go_simp; with_reducible rfl)
    try simp only [Act.put, List.setIfInBounds_toArray, List.set_cons_zero, List.set_cons_succ, List.getElem_toArray, List.getElem_cons_zero, List.getElem_cons_succ]
    refine wpAnyH_done (by kernel_rfl) ?_ _
    go_wp2
    go_ret
    exact ⟨by simp, below_on B1.out (below_on B2.out HB9.out)⟩
end Go.Proofs.YtncgpfapepminaaDoor
/- Chapter 10: two stores held against each other, both sides. Made by program (genra6.py). -/
namespace Go.Proofs.YtncgpfapepminaaDoor
open Go.RowKit

def eqN (a b : Int) : Bool := decide (a = b)
/-- Are two stores the same? -/
def sameR (r s : Rf) : Bool := decide (r.tm = s.tm ∧ r.vt = s.vt ∧ r.si = s.si ∧ r.st = s.st ∧ r.sn = s.sn ∧ r.lg = s.lg)
theorem sameR_iff {r s : Rf} : sameR r s = true ↔ r = s := by
  obtain ⟨a, b, c, d, xs, ps⟩ := r
  obtain ⟨a', b', c', d', xs', ps'⟩ := s
  simp [sameR]

end Go.Proofs.YtncgpfapepminaaDoor
/- Chapter 10: two stores held against each other, both sides. Made by program (genra6.py). -/
namespace Go.Proofs.YtncgpfapepminaaDoor
open Go.RowKit

set_option maxHeartbeats 4000000 in
set_option maxRecDepth 4000 in
theorem implSameRafts {S T S' T' : Nat → Prop} {w : World} {yr zr ys zs : Value} (r s : Rf) (hyr : RdI S w yr r.sn) (hzr : RdJ T w zr r.lg) (hys : RdI S' w ys s.sn) (hzs : RdJ T' w zs s.lg) :
    Calls Tryd.prog 17 #[.agg #[.int .i64 r.tm, .int .i64 r.vt, .int .i64 r.si, .int .i64 r.st, yr, zr], .agg #[.int .i64 s.tm, .int .i64 s.vt, .int .i64 s.si, .int .i64 s.st, ys, zs]] w fun e w' => e = .returned (.bool (sameR r s)) ∧ Below w.heap.size w w' := by
  obtain ⟨ayr, cyr, rfl⟩ := hyr.shape
  obtain ⟨azr, czr, rfl, _⟩ := hzr.shape
  obtain ⟨ays, cys, rfl⟩ := hys.shape
  obtain ⟨azs, czs, rfl, _⟩ := hzs.shape
  have H1 := hide (fun (w' : World) (hb : Below w.heap.size w w') => slicesEqualR (hyr.later hb) (hys.later hb))
  have H2 := hide (fun (w' : World) (hb : Below w.heap.size w w') => implSameEntries (hzr.later hb) (hzs.later hb))
  have HZ : Hid (sameR r s = decide (r.tm = s.tm ∧ r.vt = s.vt ∧ r.si = s.si ∧ r.st = s.st ∧ r.sn = s.sn ∧ r.lg = s.lg)) := rfl
  obtain ⟨Z, hZ⟩ : ∃ Z, sameR r s = Z := ⟨_, rfl⟩
  rw [hZ] at HZ ⊢
  clear hZ
  generalize r.sn.length = lr at *
  generalize s.sn.length = ls at *
  generalize r.lg.length = mr at *
  generalize s.lg.length = ms at *
  obtain ⟨B5, hB5⟩ : ∃ B, decide (r.sn = s.sn) = B := ⟨_, rfl⟩
  obtain ⟨B6, hB6⟩ : ∃ B, decide (r.lg = s.lg) = B := ⟨_, rfl⟩
  rw [hB5] at H1
  rw [hB6] at H2
  have K5 := hide hB5
  have K6 := hide hB6
  clear hyr hzr hys hzs hB5 hB6
  generalize r.tm = a at *
  generalize s.tm = a' at *
  generalize r.vt = b at *
  generalize s.vt = b' at *
  generalize r.si = c at *
  generalize s.si = c' at *
  generalize r.st = d at *
  generalize s.st = d' at *
  have BA := hide (below_on (below_alloc w (.cells #[.int .i64 a, .int .i64 b, .int .i64 c, .int .i64 d, .slice ayr lr cyr, .slice azr mr czr] 27)) (below_alloc _ (.cells #[.int .i64 a', .int .i64 b', .int .i64 c', .int .i64 d', .slice ays ls cys, .slice azs ms czs] 27)))
  have VR := hide ((Var6_new w (.int .i64 a) (.int .i64 b) (.int .i64 c) (.int .i64 d) (.slice ayr lr cyr) (.slice azr mr czr) 27).later (below_alloc _ (.cells #[.int .i64 a', .int .i64 b', .int .i64 c', .int .i64 d', .slice ays ls cys, .slice azs ms czs] 27)))
  by_cases qa : a = a'
  · subst qa
    by_cases qb : b = b'
    · subst qb
      by_cases qc : c = c'
      · subst qc
        by_cases qd : d = d'
        · subst qd
          go_enter Tryd.func17, Tryd.ntmps17
          go_wp2_with fail
          refine (H1.out _ BA.out).mono ?_
          rintro e w1 ⟨rfl, q, rfl⟩
          cases B5
          · have HE : Hid (false = Z) := by rw [Hid, HZ.out]; exact (decide_eq_false (fun h => of_decide_eq_false K5.out h.2.2.2.2.1)).symm
            go_wp2
            go_ret
            exact ⟨by rw [← HE.out]; rfl, below_on BA.out (below_drewN _ _)⟩
          · go_wp2_with fail
            refine (H2.out _ (below_on BA.out (below_drewN _ _))).mono ?_
            rintro e w2 ⟨rfl, hb⟩
            have HE : Hid (B6 = Z) := by
              rw [Hid, HZ.out, ← K6.out]
              exact decide_eq_decide.2 ⟨fun h => ⟨by first | trivial | rfl, by first | trivial | rfl, by first | trivial | rfl, by first | trivial | rfl, of_decide_eq_true K5.out, h⟩, fun h => h.2.2.2.2.2⟩
            have BB := hide (below_on (below_on BA.out (below_drewN _ _)) hb)
            clear hb
            go_wp2
            go_ret
            exact ⟨by rw [← HE.out]; rfl, BB.out⟩
        · have qdb : (d == d') = false := by simpa using qd
          have qdc : decide (d = d') = false := by simpa using qd
          have HE : Hid (false = Z) := by rw [Hid, HZ.out]; exact (decide_eq_false (fun h => qd h.2.2.2.1)).symm
          clear qd
          go_enter Tryd.func17, Tryd.ntmps17
          go_wp2
          go_ret
          exact ⟨by rw [← HE.out]; rfl, BA.out⟩
      · have qcb : (c == c') = false := by simpa using qc
        have qcc : decide (c = c') = false := by simpa using qc
        have HE : Hid (false = Z) := by rw [Hid, HZ.out]; exact (decide_eq_false (fun h => qc h.2.2.1)).symm
        clear qc
        go_enter Tryd.func17, Tryd.ntmps17
        go_wp2
        go_ret
        exact ⟨by rw [← HE.out]; rfl, BA.out⟩
    · have qbb : (b == b') = false := by simpa using qb
      have qbc : decide (b = b') = false := by simpa using qb
      have HE : Hid (false = Z) := by rw [Hid, HZ.out]; exact (decide_eq_false (fun h => qb h.2.1)).symm
      clear qb
      go_enter Tryd.func17, Tryd.ntmps17
      go_wp2
      go_ret
      exact ⟨by rw [← HE.out]; rfl, BA.out⟩
  · have qab : (a == a') = false := by simpa using qa
    have qac : decide (a = a') = false := by simpa using qa
    have HE : Hid (false = Z) := by rw [Hid, HZ.out]; exact (decide_eq_false (fun h => qa h.1)).symm
    clear qa
    go_enter Tryd.func17, Tryd.ntmps17
    go_wp2
    go_ret
    exact ⟨by rw [← HE.out]; rfl, BA.out⟩

end Go.Proofs.YtncgpfapepminaaDoor
