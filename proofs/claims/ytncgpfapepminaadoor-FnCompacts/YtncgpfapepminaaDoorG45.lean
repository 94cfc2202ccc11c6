/- LawCompacts in one text: what each says stands at its head below. -/
import Derived.Test.YtncgpfapepminaaDoorG41
import Derived.Test.YtncgpfapepminaaDoorG44
import Derived.Test.YtncgpfapepminaaDoorG23
import Derived.Test.YtncgpfapepminaaDoorG25
import Derived.Test.YtncgpfapepminaaDoorG22
import Derived.Test.YtncgpfapepminaaDoorG24
/- Chapter 15: the law 'FnCompacts' walked. Made by program (genlawcp.py). -/
namespace Go.Proofs.YtncgpfapepminaaDoor
open Go.RowKit

theorem Tryd.fldEn0 (x z : Value) (w : World) : (Instr.field 48 (.agg #[x, z]) 0).run Tryd.prog w = .ok x w := by
  simp [Instr.field, run_underlying Tryd.underlying48, asAgg, part, isAgg, run_underlying Tryd.underlying2]
theorem Tryd.fldEn1 (x z : Value) (w : World) : (Instr.field 48 (.agg #[x, z]) 1).run Tryd.prog w = .ok z w := by
  simp [Instr.field, run_underlying Tryd.underlying48, asAgg, part, isAgg]
/-- What a compaction leaves, and what the store was. -/
structure CpL (Q X : Rf) (p : Int) (xs : List Int) : Prop where
  law : CpLaw Q X p xs
  da : daF xs = 0
  s0 : 0 ≤ Q.si
  s1 : Q.si ≤ 9999
  ln : Q.lg.length ≤ 14
theorem CpL.of {Q : Rf} {p : Int} {xs : List Int} (h : cpC Q p xs = 0) : CpL Q (cpR Q p xs) p xs := by
  obtain ⟨h0, h1, _⟩ := cp_inv h
  obtain ⟨_, _, ⟨a, b⟩, _, hl, _⟩ := rf_nums h0
  exact ⟨cp_law h, h1, a, b, hl⟩

set_option linter.unusedSimpArgs false in
set_option maxHeartbeats 40000000 in
set_option maxRecDepth 4000 in
theorem lawCompacts {s0 : Nat} {w : World} {v : Value} {bs : List Nat} (hv : RdB s0 w v bs) (hsm : bs.length ≤ 1048576) (hg : Gl w) :
    Calls Tryd.prog 5 #[v] w fun e w' => e = .returned (.bool true) ∧ Below w.heap.size w w' := by
  have HV : Hid (RdB w.heap.size w v bs) := RdB.freshH hv
  have HG := hide hg
  have fR0 := Tryd.fldRr0
  have fE0 := Tryd.fldEn0
  have fE1 := Tryd.fldEn1
  obtain ⟨ao, c, rfl, hle, h3⟩ := hv
  clear h3 hg
  go_enter Tryd.func5, Tryd.ntmps5
  go_wp2_with fail
  refine (lwBig ao bs.length c w (by omega)).mono ?_
  rintro e wx ⟨he, hwx⟩
  rw [decide_eq_false (by omega : ¬ (1048576 < bs.length))] at he
  rw [he, hwx]
  clear he hwx wx
  go_wp2_with fail
  refine (drawCompactRaft HV.out (by omega)).mono ?_
  rintro e w1 ⟨Q, y, z, u, p, xs, rfl, _, hb1, hiv, hp, hu, hxl⟩
  obtain ⟨ay, cy, az, cz, ey, ez⟩ := hiv.shape
  subst ey
  subst ez
  obtain ⟨au, cu, eu⟩ := hu.shape
  subst eu
  have bA := below_alloc w1 (.cells #[.int .i64 Q.tm, .int .i64 Q.vt, .int .i64 Q.si, .int .i64 Q.st, .slice ay Q.sn.length cy, .slice az Q.lg.length cz] 27)
  have B1 := hide (below_on hb1 bA)
  have I1 := hide (hiv.later bA)
  have D1 := hide (hu.later bA)
  have V1 := hide (Var6_new w1 (.int .i64 Q.tm) (.int .i64 Q.vt) (.int .i64 Q.si) (.int .i64 Q.st) (.slice ay Q.sn.length cy) (.slice az Q.lg.length cz) 27)
  have G1 := hide ((HG.out.later hb1).later bA)
  clear HV HG hb1 hiv hu bA hsm hle
  go_upto_region 4 with fail
  obtain ⟨W, hW⟩ : ∃ x, w1.alloc (.cells #[.int .i64 Q.tm, .int .i64 Q.vt, .int .i64 Q.si, .int .i64 Q.st, .slice ay Q.sn.length cy, .slice az Q.lg.length cz] 27) = x := ⟨_, rfl⟩
  rw [hW] at B1 I1 D1 V1 G1
  (try rw [hW])
  clear hW
  obtain ⟨RR, hRR⟩ : ∃ x, w1.heap.size = x := ⟨_, rfl⟩
  rw [hRR] at V1
  (try rw [hRR])
  clear hRR
  have KI := hide (implCompactRaft Q p G1.out I1.out.rdI I1.out.rdJ I1.out.capE D1.out)
  have KS := hide (fun (w' : World) (hb : Below W.heap.size W w') => specCompactRaft Q p (I1.out.later hb).rdI (I1.out.later hb).rdJ (I1.out.later hb).capE (D1.out.later hb))
  have HL := hide (fun h : cpC Q p xs = 0 => CpL.of h)
  generalize cpR Q p xs = X at KI KS HL
  generalize cpC Q p xs = C at KI KS HL
  obtain ⟨v0, v1, v2, v3, v4, v5⟩ := V1.out
  go_wp2_with fail
  refine (KI.out).mono ?_
  rintro e w2 ⟨y2, z2, rfl, hb2, ho2⟩
  obtain ⟨a2, k2, g2, j2, rfl, rfl⟩ := ho2.shape
  have bA := below_alloc w2 (.cells #[.int .i64 C, .int .i64 X.tm, .int .i64 X.vt, .int .i64 X.si, .int .i64 X.st, .slice a2 X.sn.length k2, .slice g2 X.lg.length j2] 31)
  have B2 := hide (below_on hb2 bA)
  have I2 := hide (I1.out.later B2.out)
  have D2 := hide (D1.out.later B2.out)
  have J2 := hide (ho2.later bA)
  have V2 := hide (V1.out.later B2.out)
  have G2 := hide (G1.out.later B2.out)
  have U2 := hide (Var7_new w2 (.int .i64 C) (.int .i64 X.tm) (.int .i64 X.vt) (.int .i64 X.si) (.int .i64 X.st) (.slice a2 X.sn.length k2) (.slice g2 X.lg.length j2) 31)
  clear KI hb2 ho2 bA v0 v1 v2 v3 v4 v5
  go_upto_region 5 with fail
  obtain ⟨W2, hW2⟩ : ∃ x, w2.alloc (.cells #[.int .i64 C, .int .i64 X.tm, .int .i64 X.vt, .int .i64 X.si, .int .i64 X.st, .slice a2 X.sn.length k2, .slice g2 X.lg.length j2] 31) = x := ⟨_, rfl⟩
  rw [hW2] at B2 I2 D2 J2 V2 G2 U2
  (try rw [hW2])
  clear hW2
  obtain ⟨UU, hUU⟩ : ∃ x, w2.heap.size = x := ⟨_, rfl⟩
  rw [hUU] at U2
  (try rw [hUU])
  clear hUU
  obtain ⟨v0, v1, v2, v3, v4, v5⟩ := V2.out
  obtain ⟨m0, m1, m2, m3, m4, m5, m6⟩ := U2.out
  by_cases hC : C = 0
  · subst hC
    have HD := hide (HL.out rfl)
    have esi := HD.out.law.si
    have esn := HD.out.law.sn
    subst esi
    subst esn
    clear KS HL I1 D1 V1 G1
    have KT := hide (fun (w' : World) (hb : Below W2.heap.size W2 w') (j : Int) => implTermAt Q j (G2.out.later hb) (I2.out.later hb).rdI (I2.out.later hb).rdJ)
    have KX := hide (fun (w' : World) (hb : Below W2.heap.size W2 w') (j : Int) => implTermAt X j (G2.out.later hb) (J2.out.later hb).rdI (J2.out.later hb).rdJ)
    have KE := hide (fun (w' : World) (hb : Below W2.heap.size W2 w') (j n : Int) => implEntriesFrom Q j n (G2.out.later hb) (I2.out.later hb).rdI (I2.out.later hb).rdJ (I2.out.later hb).capE)
    have KF := hide (fun (w' : World) (hb : Below W2.heap.size W2 w') (j n : Int) => implEntriesFrom X j n (G2.out.later hb) (J2.out.later hb).rdI (J2.out.later hb).rdJ (J2.out.later hb).capE)
    have KR := hide (fun (w' : World) (hb : Below W2.heap.size W2 w') => implRaftFault X (J2.out.later hb).rdI (J2.out.later hb).rdJ)
    have KK := hide (fun (w' : World) (hb : Below W2.heap.size W2 w') => implKeptOf Q X (I2.out.later hb).rdI (I2.out.later hb).rdJ (J2.out.later hb).rdI (J2.out.later hb).rdJ)
    have KN := hide (fun (w' : World) (hb : Below W2.heap.size W2 w') => lwNums (J2.out.later hb).rdI (D2.out.later hb))
    have KC := hide (fun (w' : World) (hb : Below W2.heap.size W2 w') => implCompactRaft X X.si (G2.out.later hb) (J2.out.later hb).rdI (J2.out.later hb).rdJ (J2.out.later hb).capE (D2.out.later hb))
    rw [HD.out.law.rf] at KR
    rw [HD.out.law.kept] at KK
    rw [HD.out.law.again _ HD.out.da] at KC
    rw [decide_eq_true rfl] at KN
    generalize cpR X X.si X.sn = X3 at KC
    have hs0 := HD.out.s0
    have hs1 := HD.out.s1
    have hn14 : Q.lg.length ≤ 14 := HD.out.ln
    go_wp2_with fail
    go_loopw [7] (fun i wr => ∃ k : Nat, k ≤ Q.lg.length + 1 ∧ i = .int .i64 (k : Int) ∧ Hid (Below W2.heap.size W2 wr)) (fun i _ => Q.lg.length + 1 - (RowKit.intOf i).toNat)
    case atStart => exact ⟨0, Nat.zero_le _, rfl, Below.refl _ _⟩
    case round =>
      obtain ⟨k, hk, rfl, HB⟩ := hrel
      clear v0 v1 v2 v3 v4 v5 m0 m1 m2 m3 m4 m5 m6
      obtain ⟨v0, v1, v2, v3, v4, v5⟩ := V2.out.later HB.out
      obtain ⟨m0, m1, m2, m3, m4, m5, m6⟩ := U2.out.later HB.out
      by_cases hlt : k ≤ Q.lg.length
      · skip
        have hw1 : IntKind.i64.wrap (Q.si + (k : Int)) = Q.si + (k : Int) := by simp [IntKind.wrap, IntKind.bits, IntKind.signed]; omega
        obtain ⟨J, hJ⟩ : ∃ J, Q.si + (k : Int) = J := ⟨_, rfl⟩
        have hw2 : IntKind.i64.wrap (Q.si + (k : Int)) = J := hw1.trans hJ
        clear hw1
        have HJ := hide hJ
        have hkk : decide ((k : Int) ≤ (Q.lg.length : Int)) = true := by simpa using hlt
        clear hJ
        have KTj := hide (fun (w' : World) (hb : Below W2.heap.size W2 w') => KT.out w' hb J)
        have KXj := hide (fun (w' : World) (hb : Below W2.heap.size W2 w') => KX.out w' hb J)
        by_cases hJ : J < X.si
        · skip
          rw [HD.out.law.below J hJ] at KXj
          generalize taC Q J = a1 at KTj
          generalize taV Q J = b1 at KTj
          generalize taV X J = b2 at KXj
          have e1 : decide (J < X.si) = true := by simpa using hJ
          have e2 : decide (X.si < J) = false := by simpa using (by omega : J ≤ X.si)
          have e3 : decide (X.si ≤ J) = false := by simpa using hJ
          go_wp2_with fail
          refine (KTj.out _ HB.out).mono ?_
          rintro e w3 ⟨rfl, hb⟩
          have bA := below_alloc w3 (.cells #[.int .i64 a1, .int .i64 b1] 40)
          have B3 := hide (below_on (below_on HB.out hb) bA)
          have A3 := hide (Var2_new w3 (.int .i64 a1) (.int .i64 b1) 40)
          clear hb bA
          clear v0 v1 v2 v3 v4 v5 m0 m1 m2 m3 m4 m5 m6
          go_upto_region 12 with fail
          obtain ⟨W3, hW3⟩ : ∃ x, w3.alloc (.cells #[.int .i64 a1, .int .i64 b1] 40) = x := ⟨_, rfl⟩
          rw [hW3] at B3 A3
          (try rw [hW3])
          clear hW3
          obtain ⟨AA, hAA⟩ : ∃ x, w3.heap.size = x := ⟨_, rfl⟩
          rw [hAA] at A3
          (try rw [hAA])
          clear hAA
          obtain ⟨v0, v1, v2, v3, v4, v5⟩ := V2.out.later B3.out
          obtain ⟨m0, m1, m2, m3, m4, m5, m6⟩ := U2.out.later B3.out
          go_wp2_with fail
          refine (KXj.out _ B3.out).mono ?_
          rintro e w4 ⟨rfl, hb⟩
          have bA := below_alloc w4 (.cells #[.int .i64 6, .int .i64 b2] 40)
          have B4 := hide (below_on (below_on B3.out hb) bA)
          have A4 := hide (A3.out.later (below_on hb bA))
          have C4 := hide (Var2_new w4 (.int .i64 6) (.int .i64 b2) 40)
          clear hb bA
          clear v0 v1 v2 v3 v4 v5 m0 m1 m2 m3 m4 m5 m6
          go_upto_region 13 with fail
          obtain ⟨W4, hW4⟩ : ∃ x, w4.alloc (.cells #[.int .i64 6, .int .i64 b2] 40) = x := ⟨_, rfl⟩
          rw [hW4] at B4 A4 C4
          (try rw [hW4])
          clear hW4
          obtain ⟨CC, hCC⟩ : ∃ x, w4.heap.size = x := ⟨_, rfl⟩
          rw [hCC] at C4
          (try rw [hCC])
          clear hCC
          obtain ⟨x0, x1⟩ := A4.out
          obtain ⟨y0, y1⟩ := C4.out
          go_upto_region 15 with fail
          clear x0 x1 y0 y1 A3 A4 C4 KTj KXj
          refine wp_region_held_drew (S := fun w' => Below W2.heap.size W2 w') (by kernel_rfl) (below_on B4.out (below_drewN W4 1)) (fun hHeld => ?_)
          refine forgetH (fun wx => Below W2.heap.size W2 wx) hHeld ?_
          clear hHeld B3 B4 HB
          rintro Y0 hHeld
          refine wpAnyH_take (i := 0) (v := ?vlt0x0) rfl (by kernel_rfl) (by kernel_rfl) (by kernel_rfl) (fun _ _ _ h => h) (Or.inl ⟨by rfl, ?hlt0x0⟩) hHeld ?rlt0x0
          case hlt0x0 => intro w9 hSw; (try dsimp only at hSw); first | (go_simp; done) | (go_simp; rw [fE1]; done) | (go_simp; rw [fE1]; rfl) | (go_simp; with_reducible rfl)
          try simp only [Act.put, List.setIfInBounds_toArray, List.set_cons_zero, List.set_cons_succ, List.getElem_toArray, List.getElem_cons_zero]
          refine wpAnyH_take (i := 1) (v := ?vlt1x1) rfl (by kernel_rfl) (by kernel_rfl) (by kernel_rfl) (fun _ _ _ h => h) (Or.inl ⟨by rfl, ?hlt1x1⟩) hHeld ?rlt1x1
          case hlt1x1 => intro w9 hSw; (try dsimp only at hSw); first | (go_simp; done) | (go_simp; rw [fE1]; done) | (go_simp; rw [fE1]; rfl) | (go_simp; with_reducible rfl)
          try simp only [Act.put, List.setIfInBounds_toArray, List.set_cons_zero, List.set_cons_succ, List.getElem_toArray, List.getElem_cons_zero, List.getElem_cons_succ]
          refine wpAnyH_take (i := 2) (v := ?vlt2x2) rfl (by kernel_rfl) (by kernel_rfl) (by kernel_rfl) (fun _ _ _ h => h) (Or.inl ⟨by rfl, ?hlt2x2⟩) hHeld ?rlt2x2
          case hlt2x2 => intro w9 hSw; (try dsimp only at hSw); first | (go_simp; done) | (go_simp; rw [fE1]; done) | (go_simp; rw [fE1]; rfl) | (go_simp; with_reducible rfl)
          try simp only [Act.put, List.setIfInBounds_toArray, List.set_cons_zero, List.set_cons_succ, List.getElem_toArray, List.getElem_cons_zero, List.getElem_cons_succ]
          refine wpAnyH_take (i := 3) (v := ?vlt3x3) rfl (by kernel_rfl) (by kernel_rfl) (by kernel_rfl) (fun _ _ _ h => h) (Or.inl ⟨by rfl, ?hlt3x3⟩) hHeld ?rlt3x3
          case hlt3x3 => intro w9 hSw; (try dsimp only at hSw); first | (go_simp; done) | (go_simp; rw [fE1]; done) | (go_simp; rw [fE1]; rfl) | (go_simp; with_reducible rfl)
          try simp only [Act.put, List.setIfInBounds_toArray, List.set_cons_zero, List.set_cons_succ, List.getElem_toArray, List.getElem_cons_zero, List.getElem_cons_succ]
          refine wpAnyH_take (i := 4) (v := undef) rfl (by kernel_rfl) (by kernel_rfl) (by kernel_rfl) (fun _ _ _ h => h) (Or.inr ⟨by rfl, rfl⟩) hHeld ?_
          try simp only [Act.put, List.setIfInBounds_toArray, List.set_cons_zero, List.set_cons_succ, List.getElem_toArray, List.getElem_cons_zero, List.getElem_cons_succ]
          refine wpAnyH_take (i := 5) (v := undef) rfl (by kernel_rfl) (by kernel_rfl) (by kernel_rfl) (fun _ _ _ h => h) (Or.inr ⟨by rfl, rfl⟩) hHeld ?_
          try simp only [Act.put, List.setIfInBounds_toArray, List.set_cons_zero, List.set_cons_succ, List.getElem_toArray, List.getElem_cons_zero, List.getElem_cons_succ]
          refine wpAnyH_take (i := 6) (v := undef) rfl (by kernel_rfl) (by kernel_rfl) (by kernel_rfl) (fun _ _ _ h => h) (Or.inr ⟨by rfl, rfl⟩) hHeld ?_
          try simp only [Act.put, List.setIfInBounds_toArray, List.set_cons_zero, List.set_cons_succ, List.getElem_toArray, List.getElem_cons_zero, List.getElem_cons_succ]
          refine wpAnyH_take (i := 7) (v := undef) rfl (by kernel_rfl) (by kernel_rfl) (by kernel_rfl) (fun _ _ _ h => h) (Or.inr ⟨by rfl, rfl⟩) hHeld ?_
          try simp only [Act.put, List.setIfInBounds_toArray, List.set_cons_zero, List.set_cons_succ, List.getElem_toArray, List.getElem_cons_zero, List.getElem_cons_succ]
          refine wpAnyH_take (i := 8) (v := undef) rfl (by kernel_rfl) (by kernel_rfl) (by kernel_rfl) (fun _ _ _ h => h) (Or.inr ⟨by rfl, rfl⟩) hHeld ?_
          try simp only [Act.put, List.setIfInBounds_toArray, List.set_cons_zero, List.set_cons_succ, List.getElem_toArray, List.getElem_cons_zero, List.getElem_cons_succ]
          refine wpAnyH_take (i := 9) (v := undef) rfl (by kernel_rfl) (by kernel_rfl) (by kernel_rfl) (fun _ _ _ h => h) (Or.inr ⟨by rfl, rfl⟩) hHeld ?_
          try simp only [Act.put, List.setIfInBounds_toArray, List.set_cons_zero, List.set_cons_succ, List.getElem_toArray, List.getElem_cons_zero, List.getElem_cons_succ]
          refine wpAnyH_take (i := 10) (v := undef) rfl (by kernel_rfl) (by kernel_rfl) (by kernel_rfl) (fun _ _ _ h => h) (Or.inr ⟨by rfl, rfl⟩) hHeld ?_
          try simp only [Act.put, List.setIfInBounds_toArray, List.set_cons_zero, List.set_cons_succ, List.getElem_toArray, List.getElem_cons_zero, List.getElem_cons_succ]
          refine wpAnyH_take (i := 11) (v := undef) rfl (by kernel_rfl) (by kernel_rfl) (by kernel_rfl) (fun _ _ _ h => h) (Or.inr ⟨by rfl, rfl⟩) hHeld ?_
          try simp only [Act.put, List.setIfInBounds_toArray, List.set_cons_zero, List.set_cons_succ, List.getElem_toArray, List.getElem_cons_zero, List.getElem_cons_succ]
          refine wpAnyH_take (i := 12) (v := undef) rfl (by kernel_rfl) (by kernel_rfl) (by kernel_rfl) (fun _ _ _ h => h) (Or.inr ⟨by rfl, rfl⟩) hHeld ?_
          try simp only [Act.put, List.setIfInBounds_toArray, List.set_cons_zero, List.set_cons_succ, List.getElem_toArray, List.getElem_cons_zero, List.getElem_cons_succ]
          refine wpAnyH_take (i := 13) (v := undef) rfl (by kernel_rfl) (by kernel_rfl) (by kernel_rfl) (fun _ _ _ h => h) (Or.inr ⟨by rfl, rfl⟩) hHeld ?_
          try simp only [Act.put, List.setIfInBounds_toArray, List.set_cons_zero, List.set_cons_succ, List.getElem_toArray, List.getElem_cons_zero, List.getElem_cons_succ]
          refine wpAnyH_take (i := 14) (v := undef) rfl (by kernel_rfl) (by kernel_rfl) (by kernel_rfl) (fun _ _ _ h => h) (Or.inr ⟨by rfl, rfl⟩) hHeld ?_
          try simp only [Act.put, List.setIfInBounds_toArray, List.set_cons_zero, List.set_cons_succ, List.getElem_toArray, List.getElem_cons_zero, List.getElem_cons_succ]
          refine wpAnyH_take (i := 15) (v := ?vlt15x15) rfl (by kernel_rfl) (by kernel_rfl) (by kernel_rfl) (fun _ _ _ h => h) (Or.inl ⟨by rfl, ?hlt15x15⟩) hHeld ?rlt15x15
          case hlt15x15 => intro w9 hSw; (try dsimp only at hSw); first | (go_simp; done) | (go_simp; rw [fE1]; done) | (go_simp; rw [fE1]; rfl) | (go_simp; with_reducible rfl)
          try simp only [Act.put, List.setIfInBounds_toArray, List.set_cons_zero, List.set_cons_succ, List.getElem_toArray, List.getElem_cons_zero, List.getElem_cons_succ]
          have HBz := hide hHeld
          clear hHeld
          refine wpAnyH_done (by kernel_rfl) ?_ _
          go_wp2
          go_roundw
          case rel => exact ⟨k + 1, by omega, by go_num, HBz.out⟩
          case measure => simp [RowKit.intOf]; omega
        · by_cases hJe : J = X.si
          · skip
            subst hJe
            rw [← (HD.out.law.term X.si (by omega)).1, ← (HD.out.law.term X.si (by omega)).2] at KXj
            generalize taC Q X.si = a1 at KTj KXj
            generalize taV Q X.si = b1 at KTj KXj
            have e1 : decide (X.si < X.si) = false := decide_eq_false (by omega)
            have e3 : decide (X.si ≤ X.si) = true := decide_eq_true (by omega)
            have e2 : decide (X.si < X.si) = false := by simp
            go_wp2_with fail
            refine (KTj.out _ HB.out).mono ?_
            rintro e w3 ⟨rfl, hb⟩
            have bA := below_alloc w3 (.cells #[.int .i64 a1, .int .i64 b1] 40)
            have B3 := hide (below_on (below_on HB.out hb) bA)
            have A3 := hide (Var2_new w3 (.int .i64 a1) (.int .i64 b1) 40)
            clear hb bA
            clear v0 v1 v2 v3 v4 v5 m0 m1 m2 m3 m4 m5 m6
            go_upto_region 12 with fail
            obtain ⟨W3, hW3⟩ : ∃ x, w3.alloc (.cells #[.int .i64 a1, .int .i64 b1] 40) = x := ⟨_, rfl⟩
            rw [hW3] at B3 A3
            (try rw [hW3])
            clear hW3
            obtain ⟨AA, hAA⟩ : ∃ x, w3.heap.size = x := ⟨_, rfl⟩
            rw [hAA] at A3
            (try rw [hAA])
            clear hAA
            obtain ⟨v0, v1, v2, v3, v4, v5⟩ := V2.out.later B3.out
            obtain ⟨m0, m1, m2, m3, m4, m5, m6⟩ := U2.out.later B3.out
            go_wp2_with fail
            refine (KXj.out _ B3.out).mono ?_
            rintro e w4 ⟨rfl, hb⟩
            have bA := below_alloc w4 (.cells #[.int .i64 a1, .int .i64 b1] 40)
            have B4 := hide (below_on (below_on B3.out hb) bA)
            have A4 := hide (A3.out.later (below_on hb bA))
            have C4 := hide (Var2_new w4 (.int .i64 a1) (.int .i64 b1) 40)
            clear hb bA
            clear v0 v1 v2 v3 v4 v5 m0 m1 m2 m3 m4 m5 m6
            go_upto_region 13 with fail
            obtain ⟨W4, hW4⟩ : ∃ x, w4.alloc (.cells #[.int .i64 a1, .int .i64 b1] 40) = x := ⟨_, rfl⟩
            rw [hW4] at B4 A4 C4
            (try rw [hW4])
            clear hW4
            obtain ⟨CC, hCC⟩ : ∃ x, w4.heap.size = x := ⟨_, rfl⟩
            rw [hCC] at C4
            (try rw [hCC])
            clear hCC
            obtain ⟨x0, x1⟩ := A4.out
            obtain ⟨y0, y1⟩ := C4.out
            go_upto_region 15 with fail
            clear x0 x1 y0 y1 A3 A4 C4 KTj KXj
            refine wp_region_held_drew (S := fun w' => Below W2.heap.size W2 w') (by kernel_rfl) (below_on B4.out (below_drewN W4 1)) (fun hHeld => ?_)
            refine forgetH (fun wx => Below W2.heap.size W2 wx) hHeld ?_
            clear hHeld B3 B4 HB
            rintro Y0 hHeld
            refine wpAnyH_take (i := 0) (v := ?veq0x0) rfl (by kernel_rfl) (by kernel_rfl) (by kernel_rfl) (fun _ _ _ h => h) (Or.inl ⟨by rfl, ?heq0x0⟩) hHeld ?req0x0
            case heq0x0 => intro w9 hSw; (try dsimp only at hSw); first | (go_simp; done) | (go_simp; rw [fE1]; done) | (go_simp; rw [fE1]; rfl) | (go_simp; with_reducible rfl)
            try simp only [Act.put, List.setIfInBounds_toArray, List.set_cons_zero, List.set_cons_succ, List.getElem_toArray, List.getElem_cons_zero]
            refine wpAnyH_take (i := 1) (v := ?veq1x1) rfl (by kernel_rfl) (by kernel_rfl) (by kernel_rfl) (fun _ _ _ h => h) (Or.inl ⟨by rfl, ?heq1x1⟩) hHeld ?req1x1
            case heq1x1 => intro w9 hSw; (try dsimp only at hSw); first | (go_simp; done) | (go_simp; rw [fE1]; done) | (go_simp; rw [fE1]; rfl) | (go_simp; with_reducible rfl)
            try simp only [Act.put, List.setIfInBounds_toArray, List.set_cons_zero, List.set_cons_succ, List.getElem_toArray, List.getElem_cons_zero, List.getElem_cons_succ]
            refine wpAnyH_take (i := 2) (v := ?veq2x2) rfl (by kernel_rfl) (by kernel_rfl) (by kernel_rfl) (fun _ _ _ h => h) (Or.inl ⟨by rfl, ?heq2x2⟩) hHeld ?req2x2
            case heq2x2 => intro w9 hSw; (try dsimp only at hSw); first | (go_simp; done) | (go_simp; rw [fE1]; done) | (go_simp; rw [fE1]; rfl) | (go_simp; with_reducible rfl)
            try simp only [Act.put, List.setIfInBounds_toArray, List.set_cons_zero, List.set_cons_succ, List.getElem_toArray, List.getElem_cons_zero, List.getElem_cons_succ]
            refine wpAnyH_take (i := 3) (v := ?veq3x3) rfl (by kernel_rfl) (by kernel_rfl) (by kernel_rfl) (fun _ _ _ h => h) (Or.inl ⟨by rfl, ?heq3x3⟩) hHeld ?req3x3
            case heq3x3 => intro w9 hSw; (try dsimp only at hSw); first | (go_simp; done) | (go_simp; rw [fE1]; done) | (go_simp; rw [fE1]; rfl) | (go_simp; with_reducible rfl)
            try simp only [Act.put, List.setIfInBounds_toArray, List.set_cons_zero, List.set_cons_succ, List.getElem_toArray, List.getElem_cons_zero, List.getElem_cons_succ]
            refine wpAnyH_take (i := 4) (v := undef) rfl (by kernel_rfl) (by kernel_rfl) (by kernel_rfl) (fun _ _ _ h => h) (Or.inr ⟨by rfl, rfl⟩) hHeld ?_
            try simp only [Act.put, List.setIfInBounds_toArray, List.set_cons_zero, List.set_cons_succ, List.getElem_toArray, List.getElem_cons_zero, List.getElem_cons_succ]
            refine wpAnyH_take (i := 5) (v := undef) rfl (by kernel_rfl) (by kernel_rfl) (by kernel_rfl) (fun _ _ _ h => h) (Or.inr ⟨by rfl, rfl⟩) hHeld ?_
            try simp only [Act.put, List.setIfInBounds_toArray, List.set_cons_zero, List.set_cons_succ, List.getElem_toArray, List.getElem_cons_zero, List.getElem_cons_succ]
            refine wpAnyH_take (i := 6) (v := undef) rfl (by kernel_rfl) (by kernel_rfl) (by kernel_rfl) (fun _ _ _ h => h) (Or.inr ⟨by rfl, rfl⟩) hHeld ?_
            try simp only [Act.put, List.setIfInBounds_toArray, List.set_cons_zero, List.set_cons_succ, List.getElem_toArray, List.getElem_cons_zero, List.getElem_cons_succ]
            refine wpAnyH_take (i := 7) (v := undef) rfl (by kernel_rfl) (by kernel_rfl) (by kernel_rfl) (fun _ _ _ h => h) (Or.inr ⟨by rfl, rfl⟩) hHeld ?_
            try simp only [Act.put, List.setIfInBounds_toArray, List.set_cons_zero, List.set_cons_succ, List.getElem_toArray, List.getElem_cons_zero, List.getElem_cons_succ]
            refine wpAnyH_take (i := 8) (v := undef) rfl (by kernel_rfl) (by kernel_rfl) (by kernel_rfl) (fun _ _ _ h => h) (Or.inr ⟨by rfl, rfl⟩) hHeld ?_
            try simp only [Act.put, List.setIfInBounds_toArray, List.set_cons_zero, List.set_cons_succ, List.getElem_toArray, List.getElem_cons_zero, List.getElem_cons_succ]
            refine wpAnyH_take (i := 9) (v := undef) rfl (by kernel_rfl) (by kernel_rfl) (by kernel_rfl) (fun _ _ _ h => h) (Or.inr ⟨by rfl, rfl⟩) hHeld ?_
            try simp only [Act.put, List.setIfInBounds_toArray, List.set_cons_zero, List.set_cons_succ, List.getElem_toArray, List.getElem_cons_zero, List.getElem_cons_succ]
            refine wpAnyH_take (i := 10) (v := undef) rfl (by kernel_rfl) (by kernel_rfl) (by kernel_rfl) (fun _ _ _ h => h) (Or.inr ⟨by rfl, rfl⟩) hHeld ?_
            try simp only [Act.put, List.setIfInBounds_toArray, List.set_cons_zero, List.set_cons_succ, List.getElem_toArray, List.getElem_cons_zero, List.getElem_cons_succ]
            refine wpAnyH_take (i := 11) (v := undef) rfl (by kernel_rfl) (by kernel_rfl) (by kernel_rfl) (fun _ _ _ h => h) (Or.inr ⟨by rfl, rfl⟩) hHeld ?_
            try simp only [Act.put, List.setIfInBounds_toArray, List.set_cons_zero, List.set_cons_succ, List.getElem_toArray, List.getElem_cons_zero, List.getElem_cons_succ]
            refine wpAnyH_take (i := 12) (v := undef) rfl (by kernel_rfl) (by kernel_rfl) (by kernel_rfl) (fun _ _ _ h => h) (Or.inr ⟨by rfl, rfl⟩) hHeld ?_
            try simp only [Act.put, List.setIfInBounds_toArray, List.set_cons_zero, List.set_cons_succ, List.getElem_toArray, List.getElem_cons_zero, List.getElem_cons_succ]
            refine wpAnyH_take (i := 13) (v := undef) rfl (by kernel_rfl) (by kernel_rfl) (by kernel_rfl) (fun _ _ _ h => h) (Or.inr ⟨by rfl, rfl⟩) hHeld ?_
            try simp only [Act.put, List.setIfInBounds_toArray, List.set_cons_zero, List.set_cons_succ, List.getElem_toArray, List.getElem_cons_zero, List.getElem_cons_succ]
            refine wpAnyH_take (i := 14) (v := undef) rfl (by kernel_rfl) (by kernel_rfl) (by kernel_rfl) (fun _ _ _ h => h) (Or.inr ⟨by rfl, rfl⟩) hHeld ?_
            try simp only [Act.put, List.setIfInBounds_toArray, List.set_cons_zero, List.set_cons_succ, List.getElem_toArray, List.getElem_cons_zero, List.getElem_cons_succ]
            refine wpAnyH_take (i := 15) (v := ?veq15x15) rfl (by kernel_rfl) (by kernel_rfl) (by kernel_rfl) (fun _ _ _ h => h) (Or.inl ⟨by rfl, ?heq15x15⟩) hHeld ?req15x15
            case heq15x15 => intro w9 hSw; (try dsimp only at hSw); first | (go_simp; done) | (go_simp; rw [fE1]; done) | (go_simp; rw [fE1]; rfl) | (go_simp; with_reducible rfl)
            try simp only [Act.put, List.setIfInBounds_toArray, List.set_cons_zero, List.set_cons_succ, List.getElem_toArray, List.getElem_cons_zero, List.getElem_cons_succ]
            have HBz := hide hHeld
            clear hHeld
            refine wpAnyH_done (by kernel_rfl) ?_ _
            go_wp2
            go_roundw
            case rel => exact ⟨k + 1, by omega, by go_num, HBz.out⟩
            case measure => simp [RowKit.intOf]; omega
          · replace hJ : X.si < J := by omega
            rw [← (HD.out.law.term J (by omega)).1, ← (HD.out.law.term J (by omega)).2] at KXj
            generalize taC Q J = a1 at KTj KXj
            generalize taV Q J = b1 at KTj KXj
            have e1 : decide (J < X.si) = false := decide_eq_false (by omega)
            have e3 : decide (X.si ≤ J) = true := decide_eq_true (by omega)
            have e2 : decide (X.si < J) = true := by simpa using hJ
            go_wp2_with fail
            refine (KTj.out _ HB.out).mono ?_
            rintro e w3 ⟨rfl, hb⟩
            have bA := below_alloc w3 (.cells #[.int .i64 a1, .int .i64 b1] 40)
            have B3 := hide (below_on (below_on HB.out hb) bA)
            have A3 := hide (Var2_new w3 (.int .i64 a1) (.int .i64 b1) 40)
            clear hb bA
            clear v0 v1 v2 v3 v4 v5 m0 m1 m2 m3 m4 m5 m6
            go_upto_region 12 with fail
            obtain ⟨W3, hW3⟩ : ∃ x, w3.alloc (.cells #[.int .i64 a1, .int .i64 b1] 40) = x := ⟨_, rfl⟩
            rw [hW3] at B3 A3
            (try rw [hW3])
            clear hW3
            obtain ⟨AA, hAA⟩ : ∃ x, w3.heap.size = x := ⟨_, rfl⟩
            rw [hAA] at A3
            (try rw [hAA])
            clear hAA
            obtain ⟨v0, v1, v2, v3, v4, v5⟩ := V2.out.later B3.out
            obtain ⟨m0, m1, m2, m3, m4, m5, m6⟩ := U2.out.later B3.out
            go_wp2_with fail
            refine (KXj.out _ B3.out).mono ?_
            rintro e w4 ⟨rfl, hb⟩
            have bA := below_alloc w4 (.cells #[.int .i64 a1, .int .i64 b1] 40)
            have B4 := hide (below_on (below_on B3.out hb) bA)
            have A4 := hide (A3.out.later (below_on hb bA))
            have C4 := hide (Var2_new w4 (.int .i64 a1) (.int .i64 b1) 40)
            clear hb bA
            clear v0 v1 v2 v3 v4 v5 m0 m1 m2 m3 m4 m5 m6
            go_upto_region 13 with fail
            obtain ⟨W4, hW4⟩ : ∃ x, w4.alloc (.cells #[.int .i64 a1, .int .i64 b1] 40) = x := ⟨_, rfl⟩
            rw [hW4] at B4 A4 C4
            (try rw [hW4])
            clear hW4
            obtain ⟨CC, hCC⟩ : ∃ x, w4.heap.size = x := ⟨_, rfl⟩
            rw [hCC] at C4
            (try rw [hCC])
            clear hCC
            obtain ⟨x0, x1⟩ := A4.out
            obtain ⟨y0, y1⟩ := C4.out
            go_upto_region 15 with fail
            clear x0 x1 y0 y1 A3 A4 C4 KTj KXj
            refine wp_region_held_drew (S := fun w' => Below W2.heap.size W2 w') (by kernel_rfl) (below_on B4.out (below_drewN W4 1)) (fun hHeld => ?_)
            refine forgetH (fun wx => Below W2.heap.size W2 wx) hHeld ?_
            clear hHeld B3 B4 HB
            rintro Y0 hHeld
            refine wpAnyH_take (i := 0) (v := ?vgt0x0) rfl (by kernel_rfl) (by kernel_rfl) (by kernel_rfl) (fun _ _ _ h => h) (Or.inl ⟨by rfl, ?hgt0x0⟩) hHeld ?rgt0x0
            case hgt0x0 => intro w9 hSw; (try dsimp only at hSw); first | (go_simp; done) | (go_simp; rw [fE1]; done) | (go_simp; rw [fE1]; rfl) | (go_simp; with_reducible rfl)
            try simp only [Act.put, List.setIfInBounds_toArray, List.set_cons_zero, List.set_cons_succ, List.getElem_toArray, List.getElem_cons_zero]
            refine wpAnyH_take (i := 1) (v := ?vgt1x1) rfl (by kernel_rfl) (by kernel_rfl) (by kernel_rfl) (fun _ _ _ h => h) (Or.inl ⟨by rfl, ?hgt1x1⟩) hHeld ?rgt1x1
            case hgt1x1 => intro w9 hSw; (try dsimp only at hSw); first | (go_simp; done) | (go_simp; rw [fE1]; done) | (go_simp; rw [fE1]; rfl) | (go_simp; with_reducible rfl)
            try simp only [Act.put, List.setIfInBounds_toArray, List.set_cons_zero, List.set_cons_succ, List.getElem_toArray, List.getElem_cons_zero, List.getElem_cons_succ]
            refine wpAnyH_take (i := 2) (v := ?vgt2x2) rfl (by kernel_rfl) (by kernel_rfl) (by kernel_rfl) (fun _ _ _ h => h) (Or.inl ⟨by rfl, ?hgt2x2⟩) hHeld ?rgt2x2
            case hgt2x2 => intro w9 hSw; (try dsimp only at hSw); first | (go_simp; done) | (go_simp; rw [fE1]; done) | (go_simp; rw [fE1]; rfl) | (go_simp; with_reducible rfl)
            try simp only [Act.put, List.setIfInBounds_toArray, List.set_cons_zero, List.set_cons_succ, List.getElem_toArray, List.getElem_cons_zero, List.getElem_cons_succ]
            refine wpAnyH_take (i := 3) (v := ?vgt3x3) rfl (by kernel_rfl) (by kernel_rfl) (by kernel_rfl) (fun _ _ _ h => h) (Or.inl ⟨by rfl, ?hgt3x3⟩) hHeld ?rgt3x3
            case hgt3x3 => intro w9 hSw; (try dsimp only at hSw); first | (go_simp; done) | (go_simp; rw [fE1]; done) | (go_simp; rw [fE1]; rfl) | (go_simp; with_reducible rfl)
            try simp only [Act.put, List.setIfInBounds_toArray, List.set_cons_zero, List.set_cons_succ, List.getElem_toArray, List.getElem_cons_zero, List.getElem_cons_succ]
            refine wpAnyH_take (i := 4) (v := ?vgt4x4) rfl (by kernel_rfl) (by kernel_rfl) (by kernel_rfl) (fun _ _ _ h => h) (Or.inl ⟨by rfl, ?hgt4x4⟩) hHeld ?rgt4x4
            case hgt4x4 => intro w9 hSw; (try dsimp only at hSw); obtain ⟨v0, v1, v2, v3, v4, v5⟩ := V2.out.later hSw; obtain ⟨m0, m1, m2, m3, m4, m5, m6⟩ := U2.out.later hSw; first | (go_simp; done) | (go_simp; rw [fE1]; done) | (go_simp; rw [fE1]; rfl) | (go_simp; with_reducible rfl)
            try simp only [Act.put, List.setIfInBounds_toArray, List.set_cons_zero, List.set_cons_succ, List.getElem_toArray, List.getElem_cons_zero, List.getElem_cons_succ]
            refine wpAnyH_take (i := 5) (v := ?vgt5x5) rfl (by kernel_rfl) (by kernel_rfl) (by kernel_rfl) (fun _ _ _ h => h) (Or.inl ⟨by rfl, ?hgt5x5⟩) hHeld ?rgt5x5
            case hgt5x5 => intro w9 hSw; (try dsimp only at hSw); first | (go_simp; done) | (go_simp; rw [fE1]; done) | (go_simp; rw [fE1]; rfl) | (go_simp; with_reducible rfl)
            try simp only [Act.put, List.setIfInBounds_toArray, List.set_cons_zero, List.set_cons_succ, List.getElem_toArray, List.getElem_cons_zero, List.getElem_cons_succ]
            refine wpAnyH_take (i := 8) (v := ?vgt8x8) rfl (by kernel_rfl) (by kernel_rfl) (by kernel_rfl) (fun _ _ _ h => h) (Or.inl ⟨by rfl, ?hgt8x8⟩) hHeld ?rgt8x8
            case hgt8x8 => intro w9 hSw; (try dsimp only at hSw); first | (go_simp; done) | (go_simp; rw [fE1]; done) | (go_simp; rw [fE1]; rfl) | (go_simp; with_reducible rfl)
            try simp only [Act.put, List.setIfInBounds_toArray, List.set_cons_zero, List.set_cons_succ, List.getElem_toArray, List.getElem_cons_zero, List.getElem_cons_succ]
            refine wpAnyH_take (i := 9) (v := ?vgt9x9) rfl (by kernel_rfl) (by kernel_rfl) (by kernel_rfl) (fun _ _ _ h => h) (Or.inl ⟨by rfl, ?hgt9x9⟩) hHeld ?rgt9x9
            case hgt9x9 => intro w9 hSw; (try dsimp only at hSw); obtain ⟨v0, v1, v2, v3, v4, v5⟩ := V2.out.later hSw; obtain ⟨m0, m1, m2, m3, m4, m5, m6⟩ := U2.out.later hSw; first | (go_simp; done) | (go_simp; rw [fE1]; done) | (go_simp; rw [fE1]; rfl) | (go_simp; with_reducible rfl)
            try simp only [Act.put, List.setIfInBounds_toArray, List.set_cons_zero, List.set_cons_succ, List.getElem_toArray, List.getElem_cons_zero, List.getElem_cons_succ]
            refine wpAnyH_take (i := 10) (v := ?vgt10x10) rfl (by kernel_rfl) (by kernel_rfl) (by kernel_rfl) (fun _ _ _ h => h) (Or.inl ⟨by rfl, ?hgt10x10⟩) hHeld ?rgt10x10
            case hgt10x10 => intro w9 hSw; (try dsimp only at hSw); first | (go_simp; done) | (go_simp; rw [fE1]; done) | (go_simp; rw [fE1]; rfl) | (go_simp; with_reducible rfl)
            try simp only [Act.put, List.setIfInBounds_toArray, List.set_cons_zero, List.set_cons_succ, List.getElem_toArray, List.getElem_cons_zero, List.getElem_cons_succ]
            have KEj := hide (fun (w' : World) (hb : Below W2.heap.size W2 w') => KE.out w' hb J 3)
            have KFj := hide (fun (w' : World) (hb : Below W2.heap.size W2 w') => KF.out w' hb J 3)
            rw [← (HD.out.law.ents J 3 hJ).1, ← (HD.out.law.ents J 3 hJ).2] at KFj
            generalize efC Q J 3 = c3 at KEj KFj
            generalize efR Q J 3 = E3 at KEj KFj
            refine wpAnyH_ready (rs := [6]) (by kernel_rfl) (by simp) (AllReadyH.cons rfl (fun K hK => ?_) AllReadyH.nil)
            go_simp
            go_at_call 21
            refine (KEj.out _ hHeld).mono ?_
            rintro e Y1 ⟨z5, rfl, hb5, ho5⟩
            have HB5 := hide (below_on hHeld hb5)
            have HO5 := hide ho5
            skip
            clear hb5 ho5 hHeld
            refine hK.out _ _ HB5.out (fun hHeld => ?_)
            clear hK K
            try simp only [Act.put, List.setIfInBounds_toArray, List.set_cons_zero, List.set_cons_succ, List.getElem_toArray, List.getElem_cons_zero, List.getElem_cons_succ]
            refine wpAnyH_take (i := 7) (v := ?vgt7x7) rfl (by kernel_rfl) (by kernel_rfl) (by kernel_rfl) (fun _ _ _ h => h) (Or.inl ⟨by rfl, ?hgt7x7⟩) hHeld ?rgt7x7
            case hgt7x7 => intro w9 hSw; (try dsimp only at hSw); first | (go_simp; done) | (go_simp; rw [fE1]; done) | (go_simp; rw [fE1]; rfl) | (go_simp; with_reducible rfl)
            try simp only [Act.put, List.setIfInBounds_toArray, List.set_cons_zero, List.set_cons_succ, List.getElem_toArray, List.getElem_cons_zero, List.getElem_cons_succ]
            refine wpAnyH_ready (rs := [11]) (by kernel_rfl) (by simp) (AllReadyH.cons rfl (fun K hK => ?_) AllReadyH.nil)
            go_simp
            go_at_call 21
            refine (KFj.out _ HB5.out).mono ?_
            rintro e Y2 ⟨z6, rfl, hb6, ho6⟩
            have HB6 := hide (below_on HB5.out hb6)
            have HO6 := hide ho6
            have HO5b := hide (HO5.out.rd.later hb6)
            clear hb6 ho6 hHeld
            refine hK.out _ _ HB6.out (fun hHeld => ?_)
            clear hK K
            try simp only [Act.put, List.setIfInBounds_toArray, List.set_cons_zero, List.set_cons_succ, List.getElem_toArray, List.getElem_cons_zero, List.getElem_cons_succ]
            refine wpAnyH_take (i := 12) (v := ?vgt12x12) rfl (by kernel_rfl) (by kernel_rfl) (by kernel_rfl) (fun _ _ _ h => h) (Or.inl ⟨by rfl, ?hgt12x12⟩) hHeld ?rgt12x12
            case hgt12x12 => intro w9 hSw; (try dsimp only at hSw); first | (go_simp; done) | (go_simp; rw [fE1]; done) | (go_simp; rw [fE1]; rfl) | (go_simp; with_reducible rfl)
            try simp only [Act.put, List.setIfInBounds_toArray, List.set_cons_zero, List.set_cons_succ, List.getElem_toArray, List.getElem_cons_zero, List.getElem_cons_succ]
            have KS6 : Hid (Calls Tryd.prog 12 #[z5, z6] Y2 fun e w'' => e = .returned (.bool true) ∧ Below Y2.heap.size Y2 w'') := by
              have h := implSameEntries HO5b.out HO6.out.rd
              rw [decide_eq_true rfl] at h
              exact h
            refine wpAnyH_ready (rs := [13]) (by kernel_rfl) (by simp) (AllReadyH.cons rfl (fun K hK => ?_) AllReadyH.nil)
            go_simp
            go_at_call 12
            refine (KS6.out).mono ?_
            rintro e Y3 ⟨rfl, hb7⟩
            have HB7 := hide (below_on HB6.out hb7)
            clear hb7 hHeld
            refine hK.out _ _ HB7.out (fun hHeld => ?_)
            clear hK K
            try simp only [Act.put, List.setIfInBounds_toArray, List.set_cons_zero, List.set_cons_succ, List.getElem_toArray, List.getElem_cons_zero, List.getElem_cons_succ]
            refine wpAnyH_take (i := 14) (v := ?vgt14x14) rfl (by kernel_rfl) (by kernel_rfl) (by kernel_rfl) (fun _ _ _ h => h) (Or.inl ⟨by rfl, ?hgt14x14⟩) hHeld ?rgt14x14
            case hgt14x14 => intro w9 hSw; (try dsimp only at hSw); first | (go_simp; done) | (go_simp; rw [fE1]; done) | (go_simp; rw [fE1]; rfl) | (go_simp; with_reducible rfl)
            try simp only [Act.put, List.setIfInBounds_toArray, List.set_cons_zero, List.set_cons_succ, List.getElem_toArray, List.getElem_cons_zero, List.getElem_cons_succ]
            refine wpAnyH_take (i := 15) (v := ?vgt15x15) rfl (by kernel_rfl) (by kernel_rfl) (by kernel_rfl) (fun _ _ _ h => h) (Or.inl ⟨by rfl, ?hgt15x15⟩) hHeld ?rgt15x15
            case hgt15x15 => intro w9 hSw; (try dsimp only at hSw); first | (go_simp; done) | (go_simp; rw [fE1]; done) | (go_simp; rw [fE1]; rfl) | (go_simp; with_reducible rfl)
            try simp only [Act.put, List.setIfInBounds_toArray, List.set_cons_zero, List.set_cons_succ, List.getElem_toArray, List.getElem_cons_zero, List.getElem_cons_succ]
            have HBz := hide hHeld
            clear hHeld
            refine wpAnyH_done (by kernel_rfl) ?_ _
            go_wp2
            go_roundw
            case rel => exact ⟨k + 1, by omega, by go_num, HBz.out⟩
            case measure => simp [RowKit.intOf]; omega
      · have hkn : k = Q.lg.length + 1 := by omega
        have hkk : decide ((k : Int) ≤ (Q.lg.length : Int)) = false := by simpa using (by omega : Q.lg.length < k)
        go_upto_region 17 with fail
        go_wp2_with fail
        refine (KR.out _ HB.out).mono ?_
        rintro e w3 ⟨rfl, hb⟩
        have Bw3 := hide (below_on HB.out hb)
        clear hb
        clear v0 v1 v2 v3 v4 v5 m0 m1 m2 m3 m4 m5 m6
        obtain ⟨v0, v1, v2, v3, v4, v5⟩ := V2.out.later Bw3.out
        obtain ⟨m0, m1, m2, m3, m4, m5, m6⟩ := U2.out.later Bw3.out
        go_wp2_with fail
        refine (KN.out _ Bw3.out).mono ?_
        rintro e w4 ⟨rfl, q4, rfl⟩
        have Bw4 := hide (below_on Bw3.out (below_drewN w3 q4))
        clear v0 v1 v2 v3 v4 v5 m0 m1 m2 m3 m4 m5 m6
        obtain ⟨v0, v1, v2, v3, v4, v5⟩ := V2.out.later Bw4.out
        obtain ⟨m0, m1, m2, m3, m4, m5, m6⟩ := U2.out.later Bw4.out
        go_wp2_with fail
        refine (KK.out _ Bw4.out).mono ?_
        rintro e w5 ⟨rfl, hb⟩
        have Bw5 := hide (below_on Bw4.out hb)
        clear hb
        clear v0 v1 v2 v3 v4 v5 m0 m1 m2 m3 m4 m5 m6
        obtain ⟨v0, v1, v2, v3, v4, v5⟩ := V2.out.later Bw5.out
        obtain ⟨m0, m1, m2, m3, m4, m5, m6⟩ := U2.out.later Bw5.out
        go_wp2_with fail
        refine (KC.out _ Bw5.out).mono ?_
        rintro e w6 ⟨y6, z6, rfl, hb, _⟩
        have Bw6 := hide (below_on Bw5.out hb)
        clear hb
        clear v0 v1 v2 v3 v4 v5 m0 m1 m2 m3 m4 m5 m6
        obtain ⟨v0, v1, v2, v3, v4, v5⟩ := V2.out.later Bw6.out
        obtain ⟨m0, m1, m2, m3, m4, m5, m6⟩ := U2.out.later Bw6.out
        have KE1 := hide (fun (w' : World) (hb : Below W2.heap.size W2 w') => KF.out w' hb X.si 1)
        rw [HD.out.law.none 1 (by decide) (by decide)] at KE1
        go_wp2_with fail
        refine (KE1.out _ Bw6.out).mono ?_
        rintro e w7 ⟨z7, rfl, hb, _⟩
        have Bw7 := hide (below_on Bw6.out hb)
        clear hb
        clear v0 v1 v2 v3 v4 v5 m0 m1 m2 m3 m4 m5 m6
        obtain ⟨v0, v1, v2, v3, v4, v5⟩ := V2.out.later Bw7.out
        obtain ⟨m0, m1, m2, m3, m4, m5, m6⟩ := U2.out.later Bw7.out
        go_wp2
        go_ret
        exact ⟨rfl, below_on B1.out (below_on B2.out Bw7.out)⟩
  · skip
    have hCb : (C != 0) = true := by simpa using hC
    clear HL
    go_upto_region 6 with fail
    refine wp_region_held_drew (S := fun w' => Below W2.heap.size W2 w') (by kernel_rfl) (below_drewN W2 1) (fun hHeld => ?_)
    refine forgetH (fun wx => Below W2.heap.size W2 wx) hHeld ?_
    clear hHeld
    rintro Y0 hHeld
    clear v0 v1 v2 v3 v4 v5 m0 m1 m2 m3 m4 m5 m6
    refine wpAnyH_take (i := 0) (v := ?ve0x0) rfl (by kernel_rfl) (by kernel_rfl) (by kernel_rfl) (fun _ _ _ h => h) (Or.inl ⟨by rfl, ?he0x0⟩) hHeld ?re0x0
    case he0x0 => intro w9 hSw; (try dsimp only at hSw); obtain ⟨v0, v1, v2, v3, v4, v5⟩ := V2.out.later hSw; obtain ⟨m0, m1, m2, m3, m4, m5, m6⟩ := U2.out.later hSw; first | (go_simp; done) | (go_simp; rw [fR0]; done) | (go_simp; rw [fR0]; rfl) | (go_simp; with_reducible rfl)
    try simp only [Act.put, List.setIfInBounds_toArray, List.set_cons_zero, List.set_cons_succ, List.getElem_toArray, List.getElem_cons_zero]
    refine wpAnyH_take (i := 1) (v := ?ve1x1) rfl (by kernel_rfl) (by kernel_rfl) (by kernel_rfl) (fun _ _ _ h => h) (Or.inl ⟨by rfl, ?he1x1⟩) hHeld ?re1x1
    case he1x1 => intro w9 hSw; (try dsimp only at hSw); obtain ⟨v0, v1, v2, v3, v4, v5⟩ := V2.out.later hSw; obtain ⟨m0, m1, m2, m3, m4, m5, m6⟩ := U2.out.later hSw; first | (go_simp; done) | (go_simp; rw [fR0]; done) | (go_simp; rw [fR0]; rfl) | (go_simp; with_reducible rfl)
    try simp only [Act.put, List.setIfInBounds_toArray, List.set_cons_zero, List.set_cons_succ, List.getElem_toArray, List.getElem_cons_zero, List.getElem_cons_succ]
    refine wpAnyH_take (i := 2) (v := ?ve2x2) rfl (by kernel_rfl) (by kernel_rfl) (by kernel_rfl) (fun _ _ _ h => h) (Or.inl ⟨by rfl, ?he2x2⟩) hHeld ?re2x2
    case he2x2 => intro w9 hSw; (try dsimp only at hSw); obtain ⟨v0, v1, v2, v3, v4, v5⟩ := V2.out.later hSw; obtain ⟨m0, m1, m2, m3, m4, m5, m6⟩ := U2.out.later hSw; first | (go_simp; done) | (go_simp; rw [fR0]; done) | (go_simp; rw [fR0]; rfl) | (go_simp; with_reducible rfl)
    try simp only [Act.put, List.setIfInBounds_toArray, List.set_cons_zero, List.set_cons_succ, List.getElem_toArray, List.getElem_cons_zero, List.getElem_cons_succ]
    refine wpAnyH_take (i := 5) (v := ?ve5x5) rfl (by kernel_rfl) (by kernel_rfl) (by kernel_rfl) (fun _ _ _ h => h) (Or.inl ⟨by rfl, ?he5x5⟩) hHeld ?re5x5
    case he5x5 => intro w9 hSw; (try dsimp only at hSw); obtain ⟨v0, v1, v2, v3, v4, v5⟩ := V2.out.later hSw; obtain ⟨m0, m1, m2, m3, m4, m5, m6⟩ := U2.out.later hSw; first | (go_simp; done) | (go_simp; rw [fR0]; done) | (go_simp; rw [fR0]; rfl) | (go_simp; with_reducible rfl)
    try simp only [Act.put, List.setIfInBounds_toArray, List.set_cons_zero, List.set_cons_succ, List.getElem_toArray, List.getElem_cons_zero, List.getElem_cons_succ]
    refine wpAnyH_take (i := 6) (v := ?ve6x6) rfl (by kernel_rfl) (by kernel_rfl) (by kernel_rfl) (fun _ _ _ h => h) (Or.inl ⟨by rfl, ?he6x6⟩) hHeld ?re6x6
    case he6x6 => intro w9 hSw; (try dsimp only at hSw); obtain ⟨v0, v1, v2, v3, v4, v5⟩ := V2.out.later hSw; obtain ⟨m0, m1, m2, m3, m4, m5, m6⟩ := U2.out.later hSw; first | (go_simp; done) | (go_simp; rw [fR0]; done) | (go_simp; rw [fR0]; rfl) | (go_simp; with_reducible rfl)
    try simp only [Act.put, List.setIfInBounds_toArray, List.set_cons_zero, List.set_cons_succ, List.getElem_toArray, List.getElem_cons_zero, List.getElem_cons_succ]
    have B2x := hide (below_on B2.out hHeld)
    refine wpAnyH_ready (rs := [3]) (by kernel_rfl) (by simp) (AllReadyH.cons rfl (fun K hK => ?_) AllReadyH.nil)
    go_simp
    go_at_call 20
    refine (KS.out _ B2x.out).mono ?_
    rintro e Y1 ⟨y9, z9, rfl, hb9, _⟩
    have HB9 := hide (below_on hHeld hb9)
    clear hb9 hHeld
    refine hK.out _ _ HB9.out (fun hHeld => ?_)
    clear hK K
    try simp only [Act.put, List.setIfInBounds_toArray, List.set_cons_zero, List.set_cons_succ, List.getElem_toArray, List.getElem_cons_zero, List.getElem_cons_succ]
    refine wpAnyH_take (i := 4) (v := ?ve4x4) rfl (by kernel_rfl) (by kernel_rfl) (by kernel_rfl) (fun _ _ _ h => h) (Or.inl ⟨by rfl, ?he4x4⟩) hHeld ?re4x4
    case he4x4 => intro w9 hSw; (try dsimp only at hSw); obtain ⟨v0, v1, v2, v3, v4, v5⟩ := V2.out.later hSw; obtain ⟨m0, m1, m2, m3, m4, m5, m6⟩ := U2.out.later hSw; first | (go_simp; done) | (go_simp; rw [fR0]; done) | (go_simp; rw [fR0]; rfl) | (go_simp; with_reducible rfl)
    try simp only [Act.put, List.setIfInBounds_toArray, List.set_cons_zero, List.set_cons_succ, List.getElem_toArray, List.getElem_cons_zero, List.getElem_cons_succ]
    refine wpAnyH_take (i := 7) (v := ?ve7x7) rfl (by kernel_rfl) (by kernel_rfl) (by kernel_rfl) (fun _ _ _ h => h) (Or.inl ⟨by rfl, ?he7x7⟩) hHeld ?re7x7
    case he7x7 => intro w9 hSw; (try dsimp only at hSw); obtain ⟨v0, v1, v2, v3, v4, v5⟩ := V2.out.later hSw; obtain ⟨m0, m1, m2, m3, m4, m5, m6⟩ := U2.out.later hSw; first | (go_simp; done) | (go_simp; rw [fR0]; done) | (go_simp; rw [fR0]; rfl) | (go_simp; with_reducible rfl)
    try simp only [Act.put, List.setIfInBounds_toArray, List.set_cons_zero, List.set_cons_succ, List.getElem_toArray, List.getElem_cons_zero, List.getElem_cons_succ]
    refine wpAnyH_take (i := 8) (v := ?ve8x8) rfl (by kernel_rfl) (by kernel_rfl) (by kernel_rfl) (fun _ _ _ h => h) (Or.inl ⟨by rfl, ?he8x8⟩) hHeld ?re8x8
    case he8x8 => intro w9 hSw; (try dsimp only at hSw); obtain ⟨v0, v1, v2, v3, v4, v5⟩ := V2.out.later hSw; obtain ⟨m0, m1, m2, m3, m4, m5, m6⟩ := U2.out.later hSw; first | (go_simp; done) | (go_simp; rw [fR0]; done) | (go_simp; rw [fR0]; rfl) | (go_simp; with_reducible rfl)
    try simp only [Act.put, List.setIfInBounds_toArray, List.set_cons_zero, List.set_cons_succ, List.getElem_toArray, List.getElem_cons_zero, List.getElem_cons_succ]
    refine wpAnyH_done (by kernel_rfl) ?_ _
    go_wp2
    go_ret
    exact ⟨by simp, below_on B1.out (below_on B2.out HB9.out)⟩
end Go.Proofs.YtncgpfapepminaaDoor
