/- LawInstall in one text: what each says stands at its head below. -/
import Derived.Test.YtncgpfapepminaaGreatDoorG39
import Derived.Test.YtncgpfapepminaaGreatDoorG41
import Derived.Test.YtncgpfapepminaaGreatDoorG25
import Derived.Test.YtncgpfapepminaaGreatDoorG26
import Derived.Test.YtncgpfapepminaaGreatDoorG22
/- Chapter 15: the law 'FnInstall' walked. Made by program (genlawin.py). -/
namespace Go.Proofs.YtncgpfapepminaaGreatDoor
open Go.RowKit

theorem Tryz.fldRr1 (x a b c d y z : Value) (w : World) : (Instr.field 31 (.agg #[x, a, b, c, d, y, z]) 1).run Tryz.prog w = .ok (.agg #[a, b, c, d, y, z]) w := by
  simp [Instr.field, run_underlying Tryz.underlying31, run_underlying Tryz.underlying27, asAgg, part, isAgg]
theorem sameR_same (r : Rf) : sameR r r = true := by simp [sameR]
/-- What a snapshot that was given leaves, and what the store was. -/
structure InL (Q X : Rf) (p t : Int) (xs : List Int) : Prop where
  law : InLaw Q X p t xs
  s0 : 0 ≤ Q.si
  s1 : Q.si ≤ 9999
  ln : Q.lg.length ≤ 14
theorem InL.of {Q : Rf} {p t : Int} {xs : List Int} (h : inC Q p t xs = 0) : InL Q (inR Q p t xs) p t xs := by
  obtain ⟨h0, _⟩ := in_inv h
  obtain ⟨_, _, ⟨a, b⟩, _, hl, _⟩ := rf_nums h0
  exact ⟨in_law h, a, b, hl⟩

set_option linter.unusedSimpArgs false in
set_option maxHeartbeats 40000000 in
set_option maxRecDepth 4000 in
theorem lawInstall {s0 : Nat} {w : World} {v : Value} {bs : List Nat} (hv : RdB s0 w v bs) (hsm : bs.length ≤ 1048576) (hg : Gl w) :
    Calls Tryz.prog 3 #[v] w fun e w' => e = .returned (.bool true) ∧ Below w.heap.size w w' := by
  have HV : Hid (RdB w.heap.size w v bs) := RdB.freshH hv
  have HG := hide hg
  have fR0 := Tryz.fldRr0
  have fR1 := Tryz.fldRr1
  obtain ⟨ao, c, rfl, hle, h3⟩ := hv
  clear h3 hg
  go_enter Tryz.func3, Tryz.ntmps3
  go_wp2_with fail
  refine (lwBig ao bs.length c w (by omega)).mono ?_
  rintro e wx ⟨he, hwx⟩
  rw [decide_eq_false (by omega : ¬ (1048576 < bs.length))] at he
  rw [he, hwx]
  clear he hwx wx
  go_wp2_with fail
  refine (drawInstallRaft HV.out (by omega)).mono ?_
  rintro e w1 ⟨Q, y, z, u, p, t, xs, rfl, hb1, hiv, hu⟩
  obtain ⟨ay, cy, az, cz, ey, ez⟩ := hiv.shape
  subst ey
  subst ez
  obtain ⟨au, cu, eu⟩ := hu.shape
  subst eu
  have bA := below_alloc w1 (.cells #[.int .i64 Q.tm, .int .i64 Q.vt, .int .i64 Q.si, .int .i64 Q.st, .slice ay Q.sn.length cy, .slice az Q.lg.length cz] 27)
  have B1 := hide (below_on hb1 bA)
  have I1 := hide (hiv.later bA)
  have D1 := hide (hu.later bA)
  have V1 := hide (Var6_new w1 (.int .i64 Q.tm) (.int .i64 Q.vt) (.int .i64 Q.si) (.int .i64 Q.st) (.slice ay Q.sn.length cy) (.slice az Q.lg.length cz) 27)
  have G1 := hide ((HG.out.later hb1).later bA)
  clear HV HG hb1 hiv hu bA hsm hle
  go_upto_region 4 with fail
  obtain ⟨W, hW⟩ : ∃ x, w1.alloc (.cells #[.int .i64 Q.tm, .int .i64 Q.vt, .int .i64 Q.si, .int .i64 Q.st, .slice ay Q.sn.length cy, .slice az Q.lg.length cz] 27) = x := ⟨_, rfl⟩
  rw [hW] at B1 I1 D1 V1 G1
  (try rw [hW])
  clear hW
  obtain ⟨RR, hRR⟩ : ∃ x, w1.heap.size = x := ⟨_, rfl⟩
  rw [hRR] at V1
  (try rw [hRR])
  clear hRR
  have KI := hide (implInstallRaft Q p t G1.out I1.out.rdI I1.out.rdJ I1.out.capE D1.out)
  have KS := hide (fun (w' : World) (hb : Below W.heap.size W w') => specInstallRaft Q p t (I1.out.later hb).rdI (I1.out.later hb).rdJ (I1.out.later hb).capE (D1.out.later hb))
  have HL := hide (fun h : inC Q p t xs = 0 => InL.of h)
  generalize inR Q p t xs = X at KI KS HL
  generalize inC Q p t xs = C at KI KS HL
  obtain ⟨v0, v1, v2, v3, v4, v5⟩ := V1.out
  go_wp2_with fail
  refine (KI.out).mono ?_
  rintro e w2 ⟨y2, z2, rfl, hb2, ho2⟩
  obtain ⟨a2, k2, g2, j2, rfl, rfl⟩ := ho2.shape
  have bA := below_alloc w2 (.cells #[.int .i64 C, .int .i64 X.tm, .int .i64 X.vt, .int .i64 X.si, .int .i64 X.st, .slice a2 X.sn.length k2, .slice g2 X.lg.length j2] 31)
  have B2 := hide (below_on hb2 bA)
  have I2 := hide (I1.out.later B2.out)
  have D2 := hide (D1.out.later B2.out)
  have J2 := hide (ho2.later bA)
  have V2 := hide (V1.out.later B2.out)
  have G2 := hide (G1.out.later B2.out)
  have U2 := hide (Var7_new w2 (.int .i64 C) (.int .i64 X.tm) (.int .i64 X.vt) (.int .i64 X.si) (.int .i64 X.st) (.slice a2 X.sn.length k2) (.slice g2 X.lg.length j2) 31)
  clear KI hb2 ho2 bA v0 v1 v2 v3 v4 v5
  go_upto_region 5 with fail
  obtain ⟨W2, hW2⟩ : ∃ x, w2.alloc (.cells #[.int .i64 C, .int .i64 X.tm, .int .i64 X.vt, .int .i64 X.si, .int .i64 X.st, .slice a2 X.sn.length k2, .slice g2 X.lg.length j2] 31) = x := ⟨_, rfl⟩
  rw [hW2] at B2 I2 D2 J2 V2 G2 U2
  (try rw [hW2])
  clear hW2
  obtain ⟨UU, hUU⟩ : ∃ x, w2.heap.size = x := ⟨_, rfl⟩
  rw [hUU] at U2
  (try rw [hUU])
  clear hUU
  obtain ⟨v0, v1, v2, v3, v4, v5⟩ := V2.out
  obtain ⟨m0, m1, m2, m3, m4, m5, m6⟩ := U2.out
  by_cases hC : C = 0
  · subst hC
    have HD := hide (HL.out rfl)
    clear KS HL I1 D1 V1 G1
    have KR := hide (fun (w' : World) (hb : Below W2.heap.size W2 w') => implRaftFault X (J2.out.later hb).rdI (J2.out.later hb).rdJ)
    have KK := hide (fun (w' : World) (hb : Below W2.heap.size W2 w') => implKeptOf Q X (I2.out.later hb).rdI (I2.out.later hb).rdJ (J2.out.later hb).rdI (J2.out.later hb).rdJ)
    have KN := hide (fun (w' : World) (hb : Below W2.heap.size W2 w') => lwNums (J2.out.later hb).rdI (D2.out.later hb))
    have KJ := hide (fun (w' : World) (hb : Below W2.heap.size W2 w') => implInstallRaft X p t (G2.out.later hb) (J2.out.later hb).rdI (J2.out.later hb).rdJ (J2.out.later hb).capE (D2.out.later hb))
    have KC := hide (fun (w' : World) (hb : Below W2.heap.size W2 w') => implCompactRaft Q p (G2.out.later hb) (I2.out.later hb).rdI (I2.out.later hb).rdJ (I2.out.later hb).capE (D2.out.later hb))
    have KT := hide (implTermAt Q p G2.out I2.out.rdI I2.out.rdJ)
    rw [HD.out.law.rf] at KR
    rw [HD.out.law.kept] at KK
    rw [HD.out.law.again] at KJ
    rw [decide_eq_true HD.out.law.sn] at KN
    generalize inR X p t xs = X3 at KJ
    have hs0 := HD.out.s0
    have hs1 := HD.out.s1
    have hn14 : Q.lg.length ≤ 14 := HD.out.ln
    have HKeep := hide HD.out.law.keep
    have HGone := hide HD.out.law.gone
    generalize taC Q p = a1 at KT HKeep HGone
    generalize taV Q p = b1 at KT HKeep HGone
    go_wp2_with fail
    refine (KT.out).mono ?_
    rintro e w3 ⟨rfl, hb⟩
    have bA := below_alloc w3 (.cells #[.int .i64 a1, .int .i64 b1] 34)
    have B3 := hide (below_on hb bA)
    have A3 := hide (Var2_new w3 (.int .i64 a1) (.int .i64 b1) 34)
    clear hb bA KT
    clear v0 v1 v2 v3 v4 v5 m0 m1 m2 m3 m4 m5 m6
    go_upto_region 8 with fail
    obtain ⟨W3, hW3⟩ : ∃ x, w3.alloc (.cells #[.int .i64 a1, .int .i64 b1] 34) = x := ⟨_, rfl⟩
    rw [hW3] at B3 A3
    (try rw [hW3])
    clear hW3
    obtain ⟨AA, hAA⟩ : ∃ x, w3.heap.size = x := ⟨_, rfl⟩
    rw [hAA] at A3
    (try rw [hAA])
    clear hAA
    obtain ⟨v0, v1, v2, v3, v4, v5⟩ := V2.out.later B3.out
    obtain ⟨m0, m1, m2, m3, m4, m5, m6⟩ := U2.out.later B3.out
    obtain ⟨x0, x1⟩ := A3.out
    obtain ⟨K, hK⟩ : ∃ K, decide (a1 = 0 ∧ b1 = t) = K := ⟨_, rfl⟩
    have HKd := hide hK
    clear hK
    go_cut [9] from 39 to 47 (fun x wx => x = .bool K ∧ wx = W3)
    case first =>
      by_cases ha : a1 = 0
      · skip
        have hab : (a1 == 0) = true := by simpa using ha
        by_cases ht : b1 = t
        · skip
          have htb : (b1 == t) = true := by simpa using ht
          obtain rfl : true = K := by rw [← HKd.out]; simp [ha, ht]
          clear ha ht
          go_wp2
          go_meet
          case rel => exact ⟨rfl, rfl⟩
        · skip
          have htb : (b1 == t) = false := by simpa using ht
          obtain rfl : false = K := by rw [← HKd.out]; simp [ht]
          clear ha ht
          go_wp2
          go_meet
          case rel => exact ⟨rfl, rfl⟩
      · skip
        have hab : (a1 == 0) = false := by simpa using ha
        obtain rfl : false = K := by rw [← HKd.out]; simp [ha]
        clear ha
        go_wp2
        go_meet
        case rel => exact ⟨rfl, rfl⟩
    case rest =>
      obtain ⟨rfl, rfl⟩ := hcut
      clear x0 x1 A3
      go_upto_region 9 with fail
      go_cut [67] from 48 to 67 (fun b wx => b = .bool false ∧ wx = wc)
      case first =>
        have hw1 : IntKind.i64.wrap (Q.si + (Q.lg.length : Int)) = Q.si + (Q.lg.length : Int) := by simp [IntKind.wrap, IntKind.bits, IntKind.signed]; omega
        obtain ⟨S, hS⟩ : ∃ S, Q.si + (Q.lg.length : Int) = S := ⟨_, rfl⟩
        have hw2 : IntKind.i64.wrap (Q.si + (Q.lg.length : Int)) = S := hw1.trans hS
        have HS := hide hS
        clear hw1 hS
        obtain ⟨m, hm⟩ : ∃ m, X.lg.length = m := ⟨_, rfl⟩
        have HM := hide hm
        rw [hm] at m6
        clear hm
        cases K with
        | true =>
          have h2 : a1 = 0 ∧ b1 = t := of_decide_eq_true HKd.out
          by_cases hm0 : m = 0
          · skip
            have hl : S = p := by
              rcases (HKeep.out h2).1 with hl | hl
              · exact absurd (List.eq_nil_of_length_eq_zero (HM.out.trans hm0)) hl
              · exact HS.out.symm.trans hl
            subst hm0
            subst hl
            clear h2
            go_wp2
            go_meet
            case rel => exact ⟨by simp, rfl⟩
          · skip
            have hlb : decide (0 < m) = true := by simpa using Nat.pos_of_ne_zero hm0
            clear hm0 h2
            go_wp2
            go_meet
            case rel => exact ⟨by simp, rfl⟩
        | false =>
          have h2 : ¬ (a1 = 0 ∧ b1 = t) := of_decide_eq_false HKd.out
          have hm0 : m = 0 := by rw [← HM.out, HGone.out h2]; rfl
          subst hm0
          clear h2
          by_cases hsp : S = p
          · skip
            subst hsp
            go_wp2
            go_meet
            case rel => exact ⟨by simp, rfl⟩
          · skip
            have hsb : (S == p) = false := by simpa using hsp
            clear hsp
            go_wp2
            go_meet
            case rel => exact ⟨by simp, rfl⟩
      case rest =>
        obtain ⟨rfl, hwc⟩ := hcut
        subst hwc
        clear v0 v1 v2 v3 v4 v5 m0 m1 m2 m3 m4 m5 m6
        have HKeep2 : Hid (K = true → cpC Q p xs = 0 ∧ cpR Q p xs = X) := fun h => by
          have h2 : a1 = 0 ∧ b1 = t := of_decide_eq_true (HKd.out.trans h)
          exact (HKeep.out h2).2
        clear HKeep HGone HKd
        have esi := HD.out.law.si
        have est := HD.out.law.st
        subst esi
        subst est
        clear HD
        go_upto_region 11 with fail
        cases K with
        | true =>
          refine wp_region_held_drew (S := fun w' => Below W2.heap.size W2 w') (by kernel_rfl) (below_on B3.out (below_drewN _ 1)) (fun hHeld => ?_)
          refine forgetH (fun wx => Below W2.heap.size W2 wx) hHeld ?_
          clear hHeld B3
          rintro Y0 hHeld
          have HY0 := hide hHeld
          refine wpAnyH_take (i := 0) (v := ?vp1x0) rfl (by kernel_rfl) (by kernel_rfl) (by kernel_rfl) (fun _ _ _ h => h) (Or.inl ⟨by rfl, ?hp1x0⟩) hHeld ?rp1x0
          case hp1x0 => intro w9 hSw; (try dsimp only at hSw); first | (go_simp; done) | (go_simp; rw [fR0]; done) | (go_simp; rw [fR0]; rfl) | (go_simp; rw [fR1]; done) | (go_simp; rw [fR1]; rfl) | (go_simp; with_reducible rfl)
          try simp only [Act.put, List.setIfInBounds_toArray, List.set_cons_zero, List.set_cons_succ, List.getElem_toArray, List.getElem_cons_zero]
          refine wpAnyH_take (i := 1) (v := ?vp2x1) rfl (by kernel_rfl) (by kernel_rfl) (by kernel_rfl) (fun _ _ _ h => h) (Or.inl ⟨by rfl, ?hp2x1⟩) hHeld ?rp2x1
          case hp2x1 => intro w9 hSw; (try dsimp only at hSw); obtain ⟨v0, v1, v2, v3, v4, v5⟩ := V2.out.later hSw; obtain ⟨m0, m1, m2, m3, m4, m5, m6⟩ := U2.out.later hSw; first | (go_simp; done) | (go_simp; rw [fR0]; done) | (go_simp; rw [fR0]; rfl) | (go_simp; rw [fR1]; done) | (go_simp; rw [fR1]; rfl) | (go_simp; with_reducible rfl)
          try simp only [Act.put, List.setIfInBounds_toArray, List.set_cons_zero, List.set_cons_succ, List.getElem_toArray, List.getElem_cons_zero, List.getElem_cons_succ]
          refine wpAnyH_ready (rs := [2]) (by kernel_rfl) (by simp) (AllReadyH.cons rfl (fun K9 hK => ?_) AllReadyH.nil)
          go_simp
          go_at_call 9
          refine (KR.out _ HY0.out).mono ?_
          rintro e Y1 ⟨rfl, hb9⟩
          have HY1 := hide (below_on HY0.out hb9)
          clear hb9 hHeld
          refine hK.out _ _ HY1.out (fun hHeld => ?_)
          clear hK K9
          try simp only [Act.put, List.setIfInBounds_toArray, List.set_cons_zero, List.set_cons_succ, List.getElem_toArray, List.getElem_cons_zero, List.getElem_cons_succ]
          refine wpAnyH_take (i := 3) (v := ?vp3x3) rfl (by kernel_rfl) (by kernel_rfl) (by kernel_rfl) (fun _ _ _ h => h) (Or.inl ⟨by rfl, ?hp3x3⟩) hHeld ?rp3x3
          case hp3x3 => intro w9 hSw; (try dsimp only at hSw); first | (go_simp; done) | (go_simp; rw [fR0]; done) | (go_simp; rw [fR0]; rfl) | (go_simp; rw [fR1]; done) | (go_simp; rw [fR1]; rfl) | (go_simp; with_reducible rfl)
          try simp only [Act.put, List.setIfInBounds_toArray, List.set_cons_zero, List.set_cons_succ, List.getElem_toArray, List.getElem_cons_zero, List.getElem_cons_succ]
          refine wpAnyH_take (i := 4) (v := ?vp4x4) rfl (by kernel_rfl) (by kernel_rfl) (by kernel_rfl) (fun _ _ _ h => h) (Or.inl ⟨by rfl, ?hp4x4⟩) hHeld ?rp4x4
          case hp4x4 => intro w9 hSw; (try dsimp only at hSw); first | (go_simp; done) | (go_simp; rw [fR0]; done) | (go_simp; rw [fR0]; rfl) | (go_simp; rw [fR1]; done) | (go_simp; rw [fR1]; rfl) | (go_simp; with_reducible rfl)
          try simp only [Act.put, List.setIfInBounds_toArray, List.set_cons_zero, List.set_cons_succ, List.getElem_toArray, List.getElem_cons_zero, List.getElem_cons_succ]
          refine wpAnyH_take (i := 5) (v := ?vp5x5) rfl (by kernel_rfl) (by kernel_rfl) (by kernel_rfl) (fun _ _ _ h => h) (Or.inl ⟨by rfl, ?hp5x5⟩) hHeld ?rp5x5
          case hp5x5 => intro w9 hSw; (try dsimp only at hSw); first | (go_simp; done) | (go_simp; rw [fR0]; done) | (go_simp; rw [fR0]; rfl) | (go_simp; rw [fR1]; done) | (go_simp; rw [fR1]; rfl) | (go_simp; with_reducible rfl)
          try simp only [Act.put, List.setIfInBounds_toArray, List.set_cons_zero, List.set_cons_succ, List.getElem_toArray, List.getElem_cons_zero, List.getElem_cons_succ]
          refine wpAnyH_take (i := 6) (v := ?vp6x6) rfl (by kernel_rfl) (by kernel_rfl) (by kernel_rfl) (fun _ _ _ h => h) (Or.inl ⟨by rfl, ?hp6x6⟩) hHeld ?rp6x6
          case hp6x6 => intro w9 hSw; (try dsimp only at hSw); first | (go_simp; done) | (go_simp; rw [fR0]; done) | (go_simp; rw [fR0]; rfl) | (go_simp; rw [fR1]; done) | (go_simp; rw [fR1]; rfl) | (go_simp; with_reducible rfl)
          try simp only [Act.put, List.setIfInBounds_toArray, List.set_cons_zero, List.set_cons_succ, List.getElem_toArray, List.getElem_cons_zero, List.getElem_cons_succ]
          refine wpAnyH_take (i := 7) (v := ?vp7x7) rfl (by kernel_rfl) (by kernel_rfl) (by kernel_rfl) (fun _ _ _ h => h) (Or.inl ⟨by rfl, ?hp7x7⟩) hHeld ?rp7x7
          case hp7x7 => intro w9 hSw; (try dsimp only at hSw); obtain ⟨v0, v1, v2, v3, v4, v5⟩ := V2.out.later hSw; obtain ⟨m0, m1, m2, m3, m4, m5, m6⟩ := U2.out.later hSw; first | (go_simp; done) | (go_simp; rw [fR0]; done) | (go_simp; rw [fR0]; rfl) | (go_simp; rw [fR1]; done) | (go_simp; rw [fR1]; rfl) | (go_simp; with_reducible rfl)
          try simp only [Act.put, List.setIfInBounds_toArray, List.set_cons_zero, List.set_cons_succ, List.getElem_toArray, List.getElem_cons_zero, List.getElem_cons_succ]
          refine wpAnyH_take (i := 8) (v := ?vp8x8) rfl (by kernel_rfl) (by kernel_rfl) (by kernel_rfl) (fun _ _ _ h => h) (Or.inl ⟨by rfl, ?hp8x8⟩) hHeld ?rp8x8
          case hp8x8 => intro w9 hSw; (try dsimp only at hSw); first | (go_simp; done) | (go_simp; rw [fR0]; done) | (go_simp; rw [fR0]; rfl) | (go_simp; rw [fR1]; done) | (go_simp; rw [fR1]; rfl) | (go_simp; with_reducible rfl)
          try simp only [Act.put, List.setIfInBounds_toArray, List.set_cons_zero, List.set_cons_succ, List.getElem_toArray, List.getElem_cons_zero, List.getElem_cons_succ]
          refine wpAnyH_take (i := 9) (v := ?vp9x9) rfl (by kernel_rfl) (by kernel_rfl) (by kernel_rfl) (fun _ _ _ h => h) (Or.inl ⟨by rfl, ?hp9x9⟩) hHeld ?rp9x9
          case hp9x9 => intro w9 hSw; (try dsimp only at hSw); first | (go_simp; done) | (go_simp; rw [fR0]; done) | (go_simp; rw [fR0]; rfl) | (go_simp; rw [fR1]; done) | (go_simp; rw [fR1]; rfl) | (go_simp; with_reducible rfl)
          try simp only [Act.put, List.setIfInBounds_toArray, List.set_cons_zero, List.set_cons_succ, List.getElem_toArray, List.getElem_cons_zero, List.getElem_cons_succ]
          refine wpAnyH_take (i := 10) (v := ?vp10x10) rfl (by kernel_rfl) (by kernel_rfl) (by kernel_rfl) (fun _ _ _ h => h) (Or.inl ⟨by rfl, ?hp10x10⟩) hHeld ?rp10x10
          case hp10x10 => intro w9 hSw; (try dsimp only at hSw); first | (go_simp; done) | (go_simp; rw [fR0]; done) | (go_simp; rw [fR0]; rfl) | (go_simp; rw [fR1]; done) | (go_simp; rw [fR1]; rfl) | (go_simp; with_reducible rfl)
          try simp only [Act.put, List.setIfInBounds_toArray, List.set_cons_zero, List.set_cons_succ, List.getElem_toArray, List.getElem_cons_zero, List.getElem_cons_succ]
          refine wpAnyH_take (i := 11) (v := ?vp11x11) rfl (by kernel_rfl) (by kernel_rfl) (by kernel_rfl) (fun _ _ _ h => h) (Or.inl ⟨by rfl, ?hp11x11⟩) hHeld ?rp11x11
          case hp11x11 => intro w9 hSw; (try dsimp only at hSw); first | (go_simp; done) | (go_simp; rw [fR0]; done) | (go_simp; rw [fR0]; rfl) | (go_simp; rw [fR1]; done) | (go_simp; rw [fR1]; rfl) | (go_simp; with_reducible rfl)
          try simp only [Act.put, List.setIfInBounds_toArray, List.set_cons_zero, List.set_cons_succ, List.getElem_toArray, List.getElem_cons_zero, List.getElem_cons_succ]
          refine wpAnyH_take (i := 12) (v := ?vp12x12) rfl (by kernel_rfl) (by kernel_rfl) (by kernel_rfl) (fun _ _ _ h => h) (Or.inl ⟨by rfl, ?hp12x12⟩) hHeld ?rp12x12
          case hp12x12 => intro w9 hSw; (try dsimp only at hSw); first | (go_simp; done) | (go_simp; rw [fR0]; done) | (go_simp; rw [fR0]; rfl) | (go_simp; rw [fR1]; done) | (go_simp; rw [fR1]; rfl) | (go_simp; with_reducible rfl)
          try simp only [Act.put, List.setIfInBounds_toArray, List.set_cons_zero, List.set_cons_succ, List.getElem_toArray, List.getElem_cons_zero, List.getElem_cons_succ]
          refine wpAnyH_take (i := 13) (v := ?vp13x13) rfl (by kernel_rfl) (by kernel_rfl) (by kernel_rfl) (fun _ _ _ h => h) (Or.inl ⟨by rfl, ?hp13x13⟩) hHeld ?rp13x13
          case hp13x13 => intro w9 hSw; (try dsimp only at hSw); first | (go_simp; done) | (go_simp; rw [fR0]; done) | (go_simp; rw [fR0]; rfl) | (go_simp; rw [fR1]; done) | (go_simp; rw [fR1]; rfl) | (go_simp; with_reducible rfl)
          try simp only [Act.put, List.setIfInBounds_toArray, List.set_cons_zero, List.set_cons_succ, List.getElem_toArray, List.getElem_cons_zero, List.getElem_cons_succ]
          refine wpAnyH_take (i := 14) (v := ?vp14x14) rfl (by kernel_rfl) (by kernel_rfl) (by kernel_rfl) (fun _ _ _ h => h) (Or.inl ⟨by rfl, ?hp14x14⟩) hHeld ?rp14x14
          case hp14x14 => intro w9 hSw; (try dsimp only at hSw); obtain ⟨v0, v1, v2, v3, v4, v5⟩ := V2.out.later hSw; obtain ⟨m0, m1, m2, m3, m4, m5, m6⟩ := U2.out.later hSw; first | (go_simp; done) | (go_simp; rw [fR0]; done) | (go_simp; rw [fR0]; rfl) | (go_simp; rw [fR1]; done) | (go_simp; rw [fR1]; rfl) | (go_simp; with_reducible rfl)
          try simp only [Act.put, List.setIfInBounds_toArray, List.set_cons_zero, List.set_cons_succ, List.getElem_toArray, List.getElem_cons_zero, List.getElem_cons_succ]
          refine wpAnyH_take (i := 15) (v := ?vp15x15) rfl (by kernel_rfl) (by kernel_rfl) (by kernel_rfl) (fun _ _ _ h => h) (Or.inl ⟨by rfl, ?hp15x15⟩) hHeld ?rp15x15
          case hp15x15 => intro w9 hSw; (try dsimp only at hSw); first | (go_simp; done) | (go_simp; rw [fR0]; done) | (go_simp; rw [fR0]; rfl) | (go_simp; rw [fR1]; done) | (go_simp; rw [fR1]; rfl) | (go_simp; with_reducible rfl)
          try simp only [Act.put, List.setIfInBounds_toArray, List.set_cons_zero, List.set_cons_succ, List.getElem_toArray, List.getElem_cons_zero, List.getElem_cons_succ]
          refine wpAnyH_take (i := 16) (v := ?vp16x16) rfl (by kernel_rfl) (by kernel_rfl) (by kernel_rfl) (fun _ _ _ h => h) (Or.inl ⟨by rfl, ?hp16x16⟩) hHeld ?rp16x16
          case hp16x16 => intro w9 hSw; (try dsimp only at hSw); first | (go_simp; done) | (go_simp; rw [fR0]; done) | (go_simp; rw [fR0]; rfl) | (go_simp; rw [fR1]; done) | (go_simp; rw [fR1]; rfl) | (go_simp; with_reducible rfl)
          try simp only [Act.put, List.setIfInBounds_toArray, List.set_cons_zero, List.set_cons_succ, List.getElem_toArray, List.getElem_cons_zero, List.getElem_cons_succ]
          refine wpAnyH_take (i := 17) (v := ?vp17x17) rfl (by kernel_rfl) (by kernel_rfl) (by kernel_rfl) (fun _ _ _ h => h) (Or.inl ⟨by rfl, ?hp17x17⟩) hHeld ?rp17x17
          case hp17x17 => intro w9 hSw; (try dsimp only at hSw); first | (go_simp; done) | (go_simp; rw [fR0]; done) | (go_simp; rw [fR0]; rfl) | (go_simp; rw [fR1]; done) | (go_simp; rw [fR1]; rfl) | (go_simp; with_reducible rfl)
          try simp only [Act.put, List.setIfInBounds_toArray, List.set_cons_zero, List.set_cons_succ, List.getElem_toArray, List.getElem_cons_zero, List.getElem_cons_succ]
          refine wpAnyH_take (i := 18) (v := ?vp18x18) rfl (by kernel_rfl) (by kernel_rfl) (by kernel_rfl) (fun _ _ _ h => h) (Or.inl ⟨by rfl, ?hp18x18⟩) hHeld ?rp18x18
          case hp18x18 => intro w9 hSw; (try dsimp only at hSw); first | (go_simp; done) | (go_simp; rw [fR0]; done) | (go_simp; rw [fR0]; rfl) | (go_simp; rw [fR1]; done) | (go_simp; rw [fR1]; rfl) | (go_simp; with_reducible rfl)
          try simp only [Act.put, List.setIfInBounds_toArray, List.set_cons_zero, List.set_cons_succ, List.getElem_toArray, List.getElem_cons_zero, List.getElem_cons_succ]
          refine wpAnyH_take (i := 19) (v := ?vp19x19) rfl (by kernel_rfl) (by kernel_rfl) (by kernel_rfl) (fun _ _ _ h => h) (Or.inl ⟨by rfl, ?hp19x19⟩) hHeld ?rp19x19
          case hp19x19 => intro w9 hSw; (try dsimp only at hSw); first | (go_simp; done) | (go_simp; rw [fR0]; done) | (go_simp; rw [fR0]; rfl) | (go_simp; rw [fR1]; done) | (go_simp; rw [fR1]; rfl) | (go_simp; with_reducible rfl)
          try simp only [Act.put, List.setIfInBounds_toArray, List.set_cons_zero, List.set_cons_succ, List.getElem_toArray, List.getElem_cons_zero, List.getElem_cons_succ]
          refine wpAnyH_take (i := 20) (v := ?vp20x20) rfl (by kernel_rfl) (by kernel_rfl) (by kernel_rfl) (fun _ _ _ h => h) (Or.inl ⟨by rfl, ?hp20x20⟩) hHeld ?rp20x20
          case hp20x20 => intro w9 hSw; (try dsimp only at hSw); first | (go_simp; done) | (go_simp; rw [fR0]; done) | (go_simp; rw [fR0]; rfl) | (go_simp; rw [fR1]; done) | (go_simp; rw [fR1]; rfl) | (go_simp; with_reducible rfl)
          try simp only [Act.put, List.setIfInBounds_toArray, List.set_cons_zero, List.set_cons_succ, List.getElem_toArray, List.getElem_cons_zero, List.getElem_cons_succ]
          refine wpAnyH_take (i := 21) (v := ?vp21x21) rfl (by kernel_rfl) (by kernel_rfl) (by kernel_rfl) (fun _ _ _ h => h) (Or.inl ⟨by rfl, ?hp21x21⟩) hHeld ?rp21x21
          case hp21x21 => intro w9 hSw; (try dsimp only at hSw); obtain ⟨v0, v1, v2, v3, v4, v5⟩ := V2.out.later hSw; obtain ⟨m0, m1, m2, m3, m4, m5, m6⟩ := U2.out.later hSw; first | (go_simp; done) | (go_simp; rw [fR0]; done) | (go_simp; rw [fR0]; rfl) | (go_simp; rw [fR1]; done) | (go_simp; rw [fR1]; rfl) | (go_simp; with_reducible rfl)
          try simp only [Act.put, List.setIfInBounds_toArray, List.set_cons_zero, List.set_cons_succ, List.getElem_toArray, List.getElem_cons_zero, List.getElem_cons_succ]
          refine wpAnyH_take (i := 22) (v := ?vp22x22) rfl (by kernel_rfl) (by kernel_rfl) (by kernel_rfl) (fun _ _ _ h => h) (Or.inl ⟨by rfl, ?hp22x22⟩) hHeld ?rp22x22
          case hp22x22 => intro w9 hSw; (try dsimp only at hSw); first | (go_simp; done) | (go_simp; rw [fR0]; done) | (go_simp; rw [fR0]; rfl) | (go_simp; rw [fR1]; done) | (go_simp; rw [fR1]; rfl) | (go_simp; with_reducible rfl)
          try simp only [Act.put, List.setIfInBounds_toArray, List.set_cons_zero, List.set_cons_succ, List.getElem_toArray, List.getElem_cons_zero, List.getElem_cons_succ]
          refine wpAnyH_ready (rs := [23]) (by kernel_rfl) (by simp) (AllReadyH.cons rfl (fun K9 hK => ?_) AllReadyH.nil)
          go_simp
          go_at_call 10
          refine (KN.out _ HY1.out).mono ?_
          rintro e Y2 ⟨rfl, q9, rfl⟩
          have HY2 := hide (below_on HY1.out (below_drewN Y1 q9))
          clear hHeld
          refine hK.out _ _ HY2.out (fun hHeld => ?_)
          clear hK K9
          try simp only [Act.put, List.setIfInBounds_toArray, List.set_cons_zero, List.set_cons_succ, List.getElem_toArray, List.getElem_cons_zero, List.getElem_cons_succ]
          refine wpAnyH_take (i := 24) (v := ?vp23x24) rfl (by kernel_rfl) (by kernel_rfl) (by kernel_rfl) (fun _ _ _ h => h) (Or.inl ⟨by rfl, ?hp23x24⟩) hHeld ?rp23x24
          case hp23x24 => intro w9 hSw; (try dsimp only at hSw); first | (go_simp; done) | (go_simp; rw [fR0]; done) | (go_simp; rw [fR0]; rfl) | (go_simp; rw [fR1]; done) | (go_simp; rw [fR1]; rfl) | (go_simp; with_reducible rfl)
          try simp only [Act.put, List.setIfInBounds_toArray, List.set_cons_zero, List.set_cons_succ, List.getElem_toArray, List.getElem_cons_zero, List.getElem_cons_succ]
          refine wpAnyH_take (i := 25) (v := ?vp24x25) rfl (by kernel_rfl) (by kernel_rfl) (by kernel_rfl) (fun _ _ _ h => h) (Or.inl ⟨by rfl, ?hp24x25⟩) hHeld ?rp24x25
          case hp24x25 => intro w9 hSw; (try dsimp only at hSw); first | (go_simp; done) | (go_simp; rw [fR0]; done) | (go_simp; rw [fR0]; rfl) | (go_simp; rw [fR1]; done) | (go_simp; rw [fR1]; rfl) | (go_simp; with_reducible rfl)
          try simp only [Act.put, List.setIfInBounds_toArray, List.set_cons_zero, List.set_cons_succ, List.getElem_toArray, List.getElem_cons_zero, List.getElem_cons_succ]
          refine wpAnyH_take (i := 26) (v := ?vp25x26) rfl (by kernel_rfl) (by kernel_rfl) (by kernel_rfl) (fun _ _ _ h => h) (Or.inl ⟨by rfl, ?hp25x26⟩) hHeld ?rp25x26
          case hp25x26 => intro w9 hSw; (try dsimp only at hSw); first | (go_simp; done) | (go_simp; rw [fR0]; done) | (go_simp; rw [fR0]; rfl) | (go_simp; rw [fR1]; done) | (go_simp; rw [fR1]; rfl) | (go_simp; with_reducible rfl)
          try simp only [Act.put, List.setIfInBounds_toArray, List.set_cons_zero, List.set_cons_succ, List.getElem_toArray, List.getElem_cons_zero, List.getElem_cons_succ]
          refine wpAnyH_take (i := 27) (v := ?vp26x27) rfl (by kernel_rfl) (by kernel_rfl) (by kernel_rfl) (fun _ _ _ h => h) (Or.inl ⟨by rfl, ?hp26x27⟩) hHeld ?rp26x27
          case hp26x27 => intro w9 hSw; (try dsimp only at hSw); obtain ⟨v0, v1, v2, v3, v4, v5⟩ := V2.out.later hSw; obtain ⟨m0, m1, m2, m3, m4, m5, m6⟩ := U2.out.later hSw; first | (go_simp; done) | (go_simp; rw [fR0]; done) | (go_simp; rw [fR0]; rfl) | (go_simp; rw [fR1]; done) | (go_simp; rw [fR1]; rfl) | (go_simp; with_reducible rfl)
          try simp only [Act.put, List.setIfInBounds_toArray, List.set_cons_zero, List.set_cons_succ, List.getElem_toArray, List.getElem_cons_zero, List.getElem_cons_succ]
          refine wpAnyH_take (i := 28) (v := ?vp27x28) rfl (by kernel_rfl) (by kernel_rfl) (by kernel_rfl) (fun _ _ _ h => h) (Or.inl ⟨by rfl, ?hp27x28⟩) hHeld ?rp27x28
          case hp27x28 => intro w9 hSw; (try dsimp only at hSw); first | (go_simp; done) | (go_simp; rw [fR0]; done) | (go_simp; rw [fR0]; rfl) | (go_simp; rw [fR1]; done) | (go_simp; rw [fR1]; rfl) | (go_simp; with_reducible rfl)
          try simp only [Act.put, List.setIfInBounds_toArray, List.set_cons_zero, List.set_cons_succ, List.getElem_toArray, List.getElem_cons_zero, List.getElem_cons_succ]
          refine wpAnyH_take (i := 29) (v := ?vp28x29) rfl (by kernel_rfl) (by kernel_rfl) (by kernel_rfl) (fun _ _ _ h => h) (Or.inl ⟨by rfl, ?hp28x29⟩) hHeld ?rp28x29
          case hp28x29 => intro w9 hSw; (try dsimp only at hSw); first | (go_simp; done) | (go_simp; rw [fR0]; done) | (go_simp; rw [fR0]; rfl) | (go_simp; rw [fR1]; done) | (go_simp; rw [fR1]; rfl) | (go_simp; with_reducible rfl)
          try simp only [Act.put, List.setIfInBounds_toArray, List.set_cons_zero, List.set_cons_succ, List.getElem_toArray, List.getElem_cons_zero, List.getElem_cons_succ]
          refine wpAnyH_take (i := 30) (v := ?vp29x30) rfl (by kernel_rfl) (by kernel_rfl) (by kernel_rfl) (fun _ _ _ h => h) (Or.inl ⟨by rfl, ?hp29x30⟩) hHeld ?rp29x30
          case hp29x30 => intro w9 hSw; (try dsimp only at hSw); first | (go_simp; done) | (go_simp; rw [fR0]; done) | (go_simp; rw [fR0]; rfl) | (go_simp; rw [fR1]; done) | (go_simp; rw [fR1]; rfl) | (go_simp; with_reducible rfl)
          try simp only [Act.put, List.setIfInBounds_toArray, List.set_cons_zero, List.set_cons_succ, List.getElem_toArray, List.getElem_cons_zero, List.getElem_cons_succ]
          refine wpAnyH_ready (rs := [31]) (by kernel_rfl) (by simp) (AllReadyH.cons rfl (fun K9 hK => ?_) AllReadyH.nil)
          go_simp
          go_at_call 6
          refine (KJ.out _ HY2.out).mono ?_
          rintro e Y3 ⟨y9, z9, rfl, hb9, _⟩
          have HY3 := hide (below_on HY2.out hb9)
          clear hb9 hHeld
          refine hK.out _ _ HY3.out (fun hHeld => ?_)
          clear hK K9
          try simp only [Act.put, List.setIfInBounds_toArray, List.set_cons_zero, List.set_cons_succ, List.getElem_toArray, List.getElem_cons_zero, List.getElem_cons_succ]
          refine wpAnyH_take (i := 32) (v := ?vp30x32) rfl (by kernel_rfl) (by kernel_rfl) (by kernel_rfl) (fun _ _ _ h => h) (Or.inl ⟨by rfl, ?hp30x32⟩) hHeld ?rp30x32
          case hp30x32 => intro w9 hSw; (try dsimp only at hSw); first | (go_simp; done) | (go_simp; rw [fR0]; done) | (go_simp; rw [fR0]; rfl) | (go_simp; rw [fR1]; done) | (go_simp; rw [fR1]; rfl) | (go_simp; with_reducible rfl)
          try simp only [Act.put, List.setIfInBounds_toArray, List.set_cons_zero, List.set_cons_succ, List.getElem_toArray, List.getElem_cons_zero, List.getElem_cons_succ]
          refine wpAnyH_take (i := 33) (v := ?vp31x33) rfl (by kernel_rfl) (by kernel_rfl) (by kernel_rfl) (fun _ _ _ h => h) (Or.inl ⟨by rfl, ?hp31x33⟩) hHeld ?rp31x33
          case hp31x33 => intro w9 hSw; (try dsimp only at hSw); first | (go_simp; done) | (go_simp; rw [fR0]; done) | (go_simp; rw [fR0]; rfl) | (go_simp; rw [fR1]; done) | (go_simp; rw [fR1]; rfl) | (go_simp; with_reducible rfl)
          try simp only [Act.put, List.setIfInBounds_toArray, List.set_cons_zero, List.set_cons_succ, List.getElem_toArray, List.getElem_cons_zero, List.getElem_cons_succ]
          refine wpAnyH_take (i := 34) (v := ?vp32x34) rfl (by kernel_rfl) (by kernel_rfl) (by kernel_rfl) (fun _ _ _ h => h) (Or.inl ⟨by rfl, ?hp32x34⟩) hHeld ?rp32x34
          case hp32x34 => intro w9 hSw; (try dsimp only at hSw); first | (go_simp; done) | (go_simp; rw [fR0]; done) | (go_simp; rw [fR0]; rfl) | (go_simp; rw [fR1]; done) | (go_simp; rw [fR1]; rfl) | (go_simp; with_reducible rfl)
          try simp only [Act.put, List.setIfInBounds_toArray, List.set_cons_zero, List.set_cons_succ, List.getElem_toArray, List.getElem_cons_zero, List.getElem_cons_succ]
          refine wpAnyH_take (i := 35) (v := ?vp33x35) rfl (by kernel_rfl) (by kernel_rfl) (by kernel_rfl) (fun _ _ _ h => h) (Or.inl ⟨by rfl, ?hp33x35⟩) hHeld ?rp33x35
          case hp33x35 => intro w9 hSw; (try dsimp only at hSw); first | (go_simp; done) | (go_simp; rw [fR0]; done) | (go_simp; rw [fR0]; rfl) | (go_simp; rw [fR1]; done) | (go_simp; rw [fR1]; rfl) | (go_simp; with_reducible rfl)
          try simp only [Act.put, List.setIfInBounds_toArray, List.set_cons_zero, List.set_cons_succ, List.getElem_toArray, List.getElem_cons_zero, List.getElem_cons_succ]
          refine wpAnyH_take (i := 36) (v := ?vp34x36) rfl (by kernel_rfl) (by kernel_rfl) (by kernel_rfl) (fun _ _ _ h => h) (Or.inl ⟨by rfl, ?hp34x36⟩) hHeld ?rp34x36
          case hp34x36 => intro w9 hSw; (try dsimp only at hSw); first | (go_simp; done) | (go_simp; rw [fR0]; done) | (go_simp; rw [fR0]; rfl) | (go_simp; rw [fR1]; done) | (go_simp; rw [fR1]; rfl) | (go_simp; with_reducible rfl)
          try simp only [Act.put, List.setIfInBounds_toArray, List.set_cons_zero, List.set_cons_succ, List.getElem_toArray, List.getElem_cons_zero, List.getElem_cons_succ]
          refine wpAnyH_take (i := 37) (v := ?vp35x37) rfl (by kernel_rfl) (by kernel_rfl) (by kernel_rfl) (fun _ _ _ h => h) (Or.inl ⟨by rfl, ?hp35x37⟩) hHeld ?rp35x37
          case hp35x37 => intro w9 hSw; (try dsimp only at hSw); first | (go_simp; done) | (go_simp; rw [fR0]; done) | (go_simp; rw [fR0]; rfl) | (go_simp; rw [fR1]; done) | (go_simp; rw [fR1]; rfl) | (go_simp; with_reducible rfl)
          try simp only [Act.put, List.setIfInBounds_toArray, List.set_cons_zero, List.set_cons_succ, List.getElem_toArray, List.getElem_cons_zero, List.getElem_cons_succ]
          refine wpAnyH_take (i := 38) (v := ?vp36x38) rfl (by kernel_rfl) (by kernel_rfl) (by kernel_rfl) (fun _ _ _ h => h) (Or.inl ⟨by rfl, ?hp36x38⟩) hHeld ?rp36x38
          case hp36x38 => intro w9 hSw; (try dsimp only at hSw); first | (go_simp; done) | (go_simp; rw [fR0]; done) | (go_simp; rw [fR0]; rfl) | (go_simp; rw [fR1]; done) | (go_simp; rw [fR1]; rfl) | (go_simp; with_reducible rfl)
          try simp only [Act.put, List.setIfInBounds_toArray, List.set_cons_zero, List.set_cons_succ, List.getElem_toArray, List.getElem_cons_zero, List.getElem_cons_succ]
          refine wpAnyH_take (i := 39) (v := ?vp37x39) rfl (by kernel_rfl) (by kernel_rfl) (by kernel_rfl) (fun _ _ _ h => h) (Or.inl ⟨by rfl, ?hp37x39⟩) hHeld ?rp37x39
          case hp37x39 => intro w9 hSw; (try dsimp only at hSw); first | (go_simp; done) | (go_simp; rw [fR0]; done) | (go_simp; rw [fR0]; rfl) | (go_simp; rw [fR1]; done) | (go_simp; rw [fR1]; rfl) | (go_simp; with_reducible rfl)
          try simp only [Act.put, List.setIfInBounds_toArray, List.set_cons_zero, List.set_cons_succ, List.getElem_toArray, List.getElem_cons_zero, List.getElem_cons_succ]
          refine wpAnyH_take (i := 40) (v := ?vp38x40) rfl (by kernel_rfl) (by kernel_rfl) (by kernel_rfl) (fun _ _ _ h => h) (Or.inl ⟨by rfl, ?hp38x40⟩) hHeld ?rp38x40
          case hp38x40 => intro w9 hSw; (try dsimp only at hSw); obtain ⟨v0, v1, v2, v3, v4, v5⟩ := V2.out.later hSw; obtain ⟨m0, m1, m2, m3, m4, m5, m6⟩ := U2.out.later hSw; first | (go_simp; done) | (go_simp; rw [fR0]; done) | (go_simp; rw [fR0]; rfl) | (go_simp; rw [fR1]; done) | (go_simp; rw [fR1]; rfl) | (go_simp; with_reducible rfl)
          try simp only [Act.put, List.setIfInBounds_toArray, List.set_cons_zero, List.set_cons_succ, List.getElem_toArray, List.getElem_cons_zero, List.getElem_cons_succ]
          refine wpAnyH_take (i := 41) (v := ?vp39x41) rfl (by kernel_rfl) (by kernel_rfl) (by kernel_rfl) (fun _ _ _ h => h) (Or.inl ⟨by rfl, ?hp39x41⟩) hHeld ?rp39x41
          case hp39x41 => intro w9 hSw; (try dsimp only at hSw); obtain ⟨v0, v1, v2, v3, v4, v5⟩ := V2.out.later hSw; obtain ⟨m0, m1, m2, m3, m4, m5, m6⟩ := U2.out.later hSw; first | (go_simp; done) | (go_simp; rw [fR0]; done) | (go_simp; rw [fR0]; rfl) | (go_simp; rw [fR1]; done) | (go_simp; rw [fR1]; rfl) | (go_simp; with_reducible rfl)
          try simp only [Act.put, List.setIfInBounds_toArray, List.set_cons_zero, List.set_cons_succ, List.getElem_toArray, List.getElem_cons_zero, List.getElem_cons_succ]
          refine wpAnyH_take (i := 42) (v := ?vp40x42) rfl (by kernel_rfl) (by kernel_rfl) (by kernel_rfl) (fun _ _ _ h => h) (Or.inl ⟨by rfl, ?hp40x42⟩) hHeld ?rp40x42
          case hp40x42 => intro w9 hSw; (try dsimp only at hSw); first | (go_simp; done) | (go_simp; rw [fR0]; done) | (go_simp; rw [fR0]; rfl) | (go_simp; rw [fR1]; done) | (go_simp; rw [fR1]; rfl) | (go_simp; with_reducible rfl)
          try simp only [Act.put, List.setIfInBounds_toArray, List.set_cons_zero, List.set_cons_succ, List.getElem_toArray, List.getElem_cons_zero, List.getElem_cons_succ]
          refine wpAnyH_take (i := 43) (v := ?vp41x43) rfl (by kernel_rfl) (by kernel_rfl) (by kernel_rfl) (fun _ _ _ h => h) (Or.inl ⟨by rfl, ?hp41x43⟩) hHeld ?rp41x43
          case hp41x43 => intro w9 hSw; (try dsimp only at hSw); first | (go_simp; done) | (go_simp; rw [fR0]; done) | (go_simp; rw [fR0]; rfl) | (go_simp; rw [fR1]; done) | (go_simp; rw [fR1]; rfl) | (go_simp; with_reducible rfl)
          try simp only [Act.put, List.setIfInBounds_toArray, List.set_cons_zero, List.set_cons_succ, List.getElem_toArray, List.getElem_cons_zero, List.getElem_cons_succ]
          obtain ⟨hc0, hcX⟩ := HKeep2.out rfl
          rw [hc0, hcX] at KC
          refine wpAnyH_ready (rs := [44]) (by kernel_rfl) (by simp) (AllReadyH.cons rfl (fun K9 hK => ?_) AllReadyH.nil)
          go_simp
          go_at_call 12
          refine (KC.out _ HY3.out).mono ?_
          rintro e Y4 ⟨y8, z8, rfl, hb9, ho9⟩
          have HY4 := hide (below_on HY3.out hb9)
          have HO4 := hide ho9
          have KS4 := hide (implSameRafts X X (J2.out.later HY4.out).rdI (J2.out.later HY4.out).rdJ HO4.out.rdI HO4.out.rdJ)
          clear hb9 ho9 hHeld
          refine hK.out _ _ HY4.out (fun hHeld => ?_)
          clear hK K9
          try simp only [Act.put, List.setIfInBounds_toArray, List.set_cons_zero, List.set_cons_succ, List.getElem_toArray, List.getElem_cons_zero, List.getElem_cons_succ]
          refine wpAnyH_take (i := 45) (v := ?vp42x45) rfl (by kernel_rfl) (by kernel_rfl) (by kernel_rfl) (fun _ _ _ h => h) (Or.inl ⟨by rfl, ?hp42x45⟩) hHeld ?rp42x45
          case hp42x45 => intro w9 hSw; (try dsimp only at hSw); first | (go_simp; done) | (go_simp; rw [fR0]; done) | (go_simp; rw [fR0]; rfl) | (go_simp; rw [fR1]; done) | (go_simp; rw [fR1]; rfl) | (go_simp; with_reducible rfl)
          try simp only [Act.put, List.setIfInBounds_toArray, List.set_cons_zero, List.set_cons_succ, List.getElem_toArray, List.getElem_cons_zero, List.getElem_cons_succ]
          rw [sameR_same X] at KS4
          refine wpAnyH_ready (rs := [46]) (by kernel_rfl) (by simp) (AllReadyH.cons rfl (fun K9 hK => ?_) AllReadyH.nil)
          go_simp
          go_at_call 11
          refine (KS4.out).mono ?_
          rintro e Y5 ⟨rfl, hb9⟩
          have HY5 := hide (below_on HY4.out hb9)
          clear hb9 hHeld
          refine hK.out _ _ HY5.out (fun hHeld => ?_)
          clear hK K9
          try simp only [Act.put, List.setIfInBounds_toArray, List.set_cons_zero, List.set_cons_succ, List.getElem_toArray, List.getElem_cons_zero, List.getElem_cons_succ]
          refine wpAnyH_take (i := 47) (v := ?vp43x47) rfl (by kernel_rfl) (by kernel_rfl) (by kernel_rfl) (fun _ _ _ h => h) (Or.inl ⟨by rfl, ?hp43x47⟩) hHeld ?rp43x47
          case hp43x47 => intro w9 hSw; (try dsimp only at hSw); first | (go_simp; done) | (go_simp; rw [fR0]; done) | (go_simp; rw [fR0]; rfl) | (go_simp; rw [fR1]; done) | (go_simp; rw [fR1]; rfl) | (go_simp; with_reducible rfl)
          try simp only [Act.put, List.setIfInBounds_toArray, List.set_cons_zero, List.set_cons_succ, List.getElem_toArray, List.getElem_cons_zero, List.getElem_cons_succ]
          refine wpAnyH_take (i := 48) (v := ?vp44x48) rfl (by kernel_rfl) (by kernel_rfl) (by kernel_rfl) (fun _ _ _ h => h) (Or.inl ⟨by rfl, ?hp44x48⟩) hHeld ?rp44x48
          case hp44x48 => intro w9 hSw; (try dsimp only at hSw); first | (go_simp; done) | (go_simp; rw [fR0]; done) | (go_simp; rw [fR0]; rfl) | (go_simp; rw [fR1]; done) | (go_simp; rw [fR1]; rfl) | (go_simp; with_reducible rfl)
          try simp only [Act.put, List.setIfInBounds_toArray, List.set_cons_zero, List.set_cons_succ, List.getElem_toArray, List.getElem_cons_zero, List.getElem_cons_succ]
          refine wpAnyH_take (i := 49) (v := ?vp45x49) rfl (by kernel_rfl) (by kernel_rfl) (by kernel_rfl) (fun _ _ _ h => h) (Or.inl ⟨by rfl, ?hp45x49⟩) hHeld ?rp45x49
          case hp45x49 => intro w9 hSw; (try dsimp only at hSw); first | (go_simp; done) | (go_simp; rw [fR0]; done) | (go_simp; rw [fR0]; rfl) | (go_simp; rw [fR1]; done) | (go_simp; rw [fR1]; rfl) | (go_simp; with_reducible rfl)
          try simp only [Act.put, List.setIfInBounds_toArray, List.set_cons_zero, List.set_cons_succ, List.getElem_toArray, List.getElem_cons_zero, List.getElem_cons_succ]
          refine wpAnyH_take (i := 50) (v := ?vp46x50) rfl (by kernel_rfl) (by kernel_rfl) (by kernel_rfl) (fun _ _ _ h => h) (Or.inl ⟨by rfl, ?hp46x50⟩) hHeld ?rp46x50
          case hp46x50 => intro w9 hSw; (try dsimp only at hSw); obtain ⟨v0, v1, v2, v3, v4, v5⟩ := V2.out.later hSw; obtain ⟨m0, m1, m2, m3, m4, m5, m6⟩ := U2.out.later hSw; first | (go_simp; done) | (go_simp; rw [fR0]; done) | (go_simp; rw [fR0]; rfl) | (go_simp; rw [fR1]; done) | (go_simp; rw [fR1]; rfl) | (go_simp; with_reducible rfl)
          try simp only [Act.put, List.setIfInBounds_toArray, List.set_cons_zero, List.set_cons_succ, List.getElem_toArray, List.getElem_cons_zero, List.getElem_cons_succ]
          refine wpAnyH_take (i := 51) (v := ?vp47x51) rfl (by kernel_rfl) (by kernel_rfl) (by kernel_rfl) (fun _ _ _ h => h) (Or.inl ⟨by rfl, ?hp47x51⟩) hHeld ?rp47x51
          case hp47x51 => intro w9 hSw; (try dsimp only at hSw); first | (go_simp; done) | (go_simp; rw [fR0]; done) | (go_simp; rw [fR0]; rfl) | (go_simp; rw [fR1]; done) | (go_simp; rw [fR1]; rfl) | (go_simp; with_reducible rfl)
          try simp only [Act.put, List.setIfInBounds_toArray, List.set_cons_zero, List.set_cons_succ, List.getElem_toArray, List.getElem_cons_zero, List.getElem_cons_succ]
          refine wpAnyH_take (i := 52) (v := ?vp48x52) rfl (by kernel_rfl) (by kernel_rfl) (by kernel_rfl) (fun _ _ _ h => h) (Or.inl ⟨by rfl, ?hp48x52⟩) hHeld ?rp48x52
          case hp48x52 => intro w9 hSw; (try dsimp only at hSw); obtain ⟨v0, v1, v2, v3, v4, v5⟩ := V2.out.later hSw; obtain ⟨m0, m1, m2, m3, m4, m5, m6⟩ := U2.out.later hSw; first | (go_simp; done) | (go_simp; rw [fR0]; done) | (go_simp; rw [fR0]; rfl) | (go_simp; rw [fR1]; done) | (go_simp; rw [fR1]; rfl) | (go_simp; with_reducible rfl)
          try simp only [Act.put, List.setIfInBounds_toArray, List.set_cons_zero, List.set_cons_succ, List.getElem_toArray, List.getElem_cons_zero, List.getElem_cons_succ]
          refine wpAnyH_ready (rs := [53]) (by kernel_rfl) (by simp) (AllReadyH.cons rfl (fun K9 hK => ?_) AllReadyH.nil)
          go_simp
          go_at_call 13
          refine (KK.out _ HY5.out).mono ?_
          rintro e Y6 ⟨rfl, hb9⟩
          have HY6 := hide (below_on HY5.out hb9)
          clear hb9 hHeld
          refine hK.out _ _ HY6.out (fun hHeld => ?_)
          clear hK K9
          try simp only [Act.put, List.setIfInBounds_toArray, List.set_cons_zero, List.set_cons_succ, List.getElem_toArray, List.getElem_cons_zero, List.getElem_cons_succ]
          refine wpAnyH_take (i := 54) (v := ?vp49x54) rfl (by kernel_rfl) (by kernel_rfl) (by kernel_rfl) (fun _ _ _ h => h) (Or.inl ⟨by rfl, ?hp49x54⟩) hHeld ?rp49x54
          case hp49x54 => intro w9 hSw; (try dsimp only at hSw); first | (go_simp; done) | (go_simp; rw [fR0]; done) | (go_simp; rw [fR0]; rfl) | (go_simp; rw [fR1]; done) | (go_simp; rw [fR1]; rfl) | (go_simp; with_reducible rfl)
          try simp only [Act.put, List.setIfInBounds_toArray, List.set_cons_zero, List.set_cons_succ, List.getElem_toArray, List.getElem_cons_zero, List.getElem_cons_succ]
          refine wpAnyH_take (i := 55) (v := ?vp50x55) rfl (by kernel_rfl) (by kernel_rfl) (by kernel_rfl) (fun _ _ _ h => h) (Or.inl ⟨by rfl, ?hp50x55⟩) hHeld ?rp50x55
          case hp50x55 => intro w9 hSw; (try dsimp only at hSw); first | (go_simp; done) | (go_simp; rw [fR0]; done) | (go_simp; rw [fR0]; rfl) | (go_simp; rw [fR1]; done) | (go_simp; rw [fR1]; rfl) | (go_simp; with_reducible rfl)
          try simp only [Act.put, List.setIfInBounds_toArray, List.set_cons_zero, List.set_cons_succ, List.getElem_toArray, List.getElem_cons_zero, List.getElem_cons_succ]
          refine wpAnyH_done (by kernel_rfl) ?_ _
          go_wp2
          go_ret
          exact ⟨by simp, below_on B1.out (below_on B2.out HY6.out)⟩
        | false =>
          refine wp_region_held_drew (S := fun w' => Below W2.heap.size W2 w') (by kernel_rfl) (below_on B3.out (below_drewN _ 1)) (fun hHeld => ?_)
          refine forgetH (fun wx => Below W2.heap.size W2 wx) hHeld ?_
          clear hHeld B3
          rintro Y0 hHeld
          have HY0 := hide hHeld
          refine wpAnyH_take (i := 0) (v := ?vq1x0) rfl (by kernel_rfl) (by kernel_rfl) (by kernel_rfl) (fun _ _ _ h => h) (Or.inl ⟨by rfl, ?hq1x0⟩) hHeld ?rq1x0
          case hq1x0 => intro w9 hSw; (try dsimp only at hSw); first | (go_simp; done) | (go_simp; rw [fR0]; done) | (go_simp; rw [fR0]; rfl) | (go_simp; rw [fR1]; done) | (go_simp; rw [fR1]; rfl) | (go_simp; with_reducible rfl)
          try simp only [Act.put, List.setIfInBounds_toArray, List.set_cons_zero, List.set_cons_succ, List.getElem_toArray, List.getElem_cons_zero]
          refine wpAnyH_take (i := 1) (v := ?vq2x1) rfl (by kernel_rfl) (by kernel_rfl) (by kernel_rfl) (fun _ _ _ h => h) (Or.inl ⟨by rfl, ?hq2x1⟩) hHeld ?rq2x1
          case hq2x1 => intro w9 hSw; (try dsimp only at hSw); obtain ⟨v0, v1, v2, v3, v4, v5⟩ := V2.out.later hSw; obtain ⟨m0, m1, m2, m3, m4, m5, m6⟩ := U2.out.later hSw; first | (go_simp; done) | (go_simp; rw [fR0]; done) | (go_simp; rw [fR0]; rfl) | (go_simp; rw [fR1]; done) | (go_simp; rw [fR1]; rfl) | (go_simp; with_reducible rfl)
          try simp only [Act.put, List.setIfInBounds_toArray, List.set_cons_zero, List.set_cons_succ, List.getElem_toArray, List.getElem_cons_zero, List.getElem_cons_succ]
          refine wpAnyH_ready (rs := [2]) (by kernel_rfl) (by simp) (AllReadyH.cons rfl (fun K9 hK => ?_) AllReadyH.nil)
          go_simp
          go_at_call 9
          refine (KR.out _ HY0.out).mono ?_
          rintro e Y1 ⟨rfl, hb9⟩
          have HY1 := hide (below_on HY0.out hb9)
          clear hb9 hHeld
          refine hK.out _ _ HY1.out (fun hHeld => ?_)
          clear hK K9
          try simp only [Act.put, List.setIfInBounds_toArray, List.set_cons_zero, List.set_cons_succ, List.getElem_toArray, List.getElem_cons_zero, List.getElem_cons_succ]
          refine wpAnyH_take (i := 3) (v := ?vq3x3) rfl (by kernel_rfl) (by kernel_rfl) (by kernel_rfl) (fun _ _ _ h => h) (Or.inl ⟨by rfl, ?hq3x3⟩) hHeld ?rq3x3
          case hq3x3 => intro w9 hSw; (try dsimp only at hSw); first | (go_simp; done) | (go_simp; rw [fR0]; done) | (go_simp; rw [fR0]; rfl) | (go_simp; rw [fR1]; done) | (go_simp; rw [fR1]; rfl) | (go_simp; with_reducible rfl)
          try simp only [Act.put, List.setIfInBounds_toArray, List.set_cons_zero, List.set_cons_succ, List.getElem_toArray, List.getElem_cons_zero, List.getElem_cons_succ]
          refine wpAnyH_take (i := 4) (v := ?vq4x4) rfl (by kernel_rfl) (by kernel_rfl) (by kernel_rfl) (fun _ _ _ h => h) (Or.inl ⟨by rfl, ?hq4x4⟩) hHeld ?rq4x4
          case hq4x4 => intro w9 hSw; (try dsimp only at hSw); first | (go_simp; done) | (go_simp; rw [fR0]; done) | (go_simp; rw [fR0]; rfl) | (go_simp; rw [fR1]; done) | (go_simp; rw [fR1]; rfl) | (go_simp; with_reducible rfl)
          try simp only [Act.put, List.setIfInBounds_toArray, List.set_cons_zero, List.set_cons_succ, List.getElem_toArray, List.getElem_cons_zero, List.getElem_cons_succ]
          refine wpAnyH_take (i := 5) (v := ?vq5x5) rfl (by kernel_rfl) (by kernel_rfl) (by kernel_rfl) (fun _ _ _ h => h) (Or.inl ⟨by rfl, ?hq5x5⟩) hHeld ?rq5x5
          case hq5x5 => intro w9 hSw; (try dsimp only at hSw); first | (go_simp; done) | (go_simp; rw [fR0]; done) | (go_simp; rw [fR0]; rfl) | (go_simp; rw [fR1]; done) | (go_simp; rw [fR1]; rfl) | (go_simp; with_reducible rfl)
          try simp only [Act.put, List.setIfInBounds_toArray, List.set_cons_zero, List.set_cons_succ, List.getElem_toArray, List.getElem_cons_zero, List.getElem_cons_succ]
          refine wpAnyH_take (i := 6) (v := ?vq6x6) rfl (by kernel_rfl) (by kernel_rfl) (by kernel_rfl) (fun _ _ _ h => h) (Or.inl ⟨by rfl, ?hq6x6⟩) hHeld ?rq6x6
          case hq6x6 => intro w9 hSw; (try dsimp only at hSw); first | (go_simp; done) | (go_simp; rw [fR0]; done) | (go_simp; rw [fR0]; rfl) | (go_simp; rw [fR1]; done) | (go_simp; rw [fR1]; rfl) | (go_simp; with_reducible rfl)
          try simp only [Act.put, List.setIfInBounds_toArray, List.set_cons_zero, List.set_cons_succ, List.getElem_toArray, List.getElem_cons_zero, List.getElem_cons_succ]
          refine wpAnyH_take (i := 7) (v := ?vq7x7) rfl (by kernel_rfl) (by kernel_rfl) (by kernel_rfl) (fun _ _ _ h => h) (Or.inl ⟨by rfl, ?hq7x7⟩) hHeld ?rq7x7
          case hq7x7 => intro w9 hSw; (try dsimp only at hSw); obtain ⟨v0, v1, v2, v3, v4, v5⟩ := V2.out.later hSw; obtain ⟨m0, m1, m2, m3, m4, m5, m6⟩ := U2.out.later hSw; first | (go_simp; done) | (go_simp; rw [fR0]; done) | (go_simp; rw [fR0]; rfl) | (go_simp; rw [fR1]; done) | (go_simp; rw [fR1]; rfl) | (go_simp; with_reducible rfl)
          try simp only [Act.put, List.setIfInBounds_toArray, List.set_cons_zero, List.set_cons_succ, List.getElem_toArray, List.getElem_cons_zero, List.getElem_cons_succ]
          refine wpAnyH_take (i := 8) (v := ?vq8x8) rfl (by kernel_rfl) (by kernel_rfl) (by kernel_rfl) (fun _ _ _ h => h) (Or.inl ⟨by rfl, ?hq8x8⟩) hHeld ?rq8x8
          case hq8x8 => intro w9 hSw; (try dsimp only at hSw); first | (go_simp; done) | (go_simp; rw [fR0]; done) | (go_simp; rw [fR0]; rfl) | (go_simp; rw [fR1]; done) | (go_simp; rw [fR1]; rfl) | (go_simp; with_reducible rfl)
          try simp only [Act.put, List.setIfInBounds_toArray, List.set_cons_zero, List.set_cons_succ, List.getElem_toArray, List.getElem_cons_zero, List.getElem_cons_succ]
          refine wpAnyH_take (i := 9) (v := ?vq9x9) rfl (by kernel_rfl) (by kernel_rfl) (by kernel_rfl) (fun _ _ _ h => h) (Or.inl ⟨by rfl, ?hq9x9⟩) hHeld ?rq9x9
          case hq9x9 => intro w9 hSw; (try dsimp only at hSw); first | (go_simp; done) | (go_simp; rw [fR0]; done) | (go_simp; rw [fR0]; rfl) | (go_simp; rw [fR1]; done) | (go_simp; rw [fR1]; rfl) | (go_simp; with_reducible rfl)
          try simp only [Act.put, List.setIfInBounds_toArray, List.set_cons_zero, List.set_cons_succ, List.getElem_toArray, List.getElem_cons_zero, List.getElem_cons_succ]
          refine wpAnyH_take (i := 10) (v := ?vq10x10) rfl (by kernel_rfl) (by kernel_rfl) (by kernel_rfl) (fun _ _ _ h => h) (Or.inl ⟨by rfl, ?hq10x10⟩) hHeld ?rq10x10
          case hq10x10 => intro w9 hSw; (try dsimp only at hSw); first | (go_simp; done) | (go_simp; rw [fR0]; done) | (go_simp; rw [fR0]; rfl) | (go_simp; rw [fR1]; done) | (go_simp; rw [fR1]; rfl) | (go_simp; with_reducible rfl)
          try simp only [Act.put, List.setIfInBounds_toArray, List.set_cons_zero, List.set_cons_succ, List.getElem_toArray, List.getElem_cons_zero, List.getElem_cons_succ]
          refine wpAnyH_take (i := 11) (v := ?vq11x11) rfl (by kernel_rfl) (by kernel_rfl) (by kernel_rfl) (fun _ _ _ h => h) (Or.inl ⟨by rfl, ?hq11x11⟩) hHeld ?rq11x11
          case hq11x11 => intro w9 hSw; (try dsimp only at hSw); first | (go_simp; done) | (go_simp; rw [fR0]; done) | (go_simp; rw [fR0]; rfl) | (go_simp; rw [fR1]; done) | (go_simp; rw [fR1]; rfl) | (go_simp; with_reducible rfl)
          try simp only [Act.put, List.setIfInBounds_toArray, List.set_cons_zero, List.set_cons_succ, List.getElem_toArray, List.getElem_cons_zero, List.getElem_cons_succ]
          refine wpAnyH_take (i := 12) (v := ?vq12x12) rfl (by kernel_rfl) (by kernel_rfl) (by kernel_rfl) (fun _ _ _ h => h) (Or.inl ⟨by rfl, ?hq12x12⟩) hHeld ?rq12x12
          case hq12x12 => intro w9 hSw; (try dsimp only at hSw); first | (go_simp; done) | (go_simp; rw [fR0]; done) | (go_simp; rw [fR0]; rfl) | (go_simp; rw [fR1]; done) | (go_simp; rw [fR1]; rfl) | (go_simp; with_reducible rfl)
          try simp only [Act.put, List.setIfInBounds_toArray, List.set_cons_zero, List.set_cons_succ, List.getElem_toArray, List.getElem_cons_zero, List.getElem_cons_succ]
          refine wpAnyH_take (i := 13) (v := ?vq13x13) rfl (by kernel_rfl) (by kernel_rfl) (by kernel_rfl) (fun _ _ _ h => h) (Or.inl ⟨by rfl, ?hq13x13⟩) hHeld ?rq13x13
          case hq13x13 => intro w9 hSw; (try dsimp only at hSw); first | (go_simp; done) | (go_simp; rw [fR0]; done) | (go_simp; rw [fR0]; rfl) | (go_simp; rw [fR1]; done) | (go_simp; rw [fR1]; rfl) | (go_simp; with_reducible rfl)
          try simp only [Act.put, List.setIfInBounds_toArray, List.set_cons_zero, List.set_cons_succ, List.getElem_toArray, List.getElem_cons_zero, List.getElem_cons_succ]
          refine wpAnyH_take (i := 14) (v := ?vq14x14) rfl (by kernel_rfl) (by kernel_rfl) (by kernel_rfl) (fun _ _ _ h => h) (Or.inl ⟨by rfl, ?hq14x14⟩) hHeld ?rq14x14
          case hq14x14 => intro w9 hSw; (try dsimp only at hSw); obtain ⟨v0, v1, v2, v3, v4, v5⟩ := V2.out.later hSw; obtain ⟨m0, m1, m2, m3, m4, m5, m6⟩ := U2.out.later hSw; first | (go_simp; done) | (go_simp; rw [fR0]; done) | (go_simp; rw [fR0]; rfl) | (go_simp; rw [fR1]; done) | (go_simp; rw [fR1]; rfl) | (go_simp; with_reducible rfl)
          try simp only [Act.put, List.setIfInBounds_toArray, List.set_cons_zero, List.set_cons_succ, List.getElem_toArray, List.getElem_cons_zero, List.getElem_cons_succ]
          refine wpAnyH_take (i := 15) (v := ?vq15x15) rfl (by kernel_rfl) (by kernel_rfl) (by kernel_rfl) (fun _ _ _ h => h) (Or.inl ⟨by rfl, ?hq15x15⟩) hHeld ?rq15x15
          case hq15x15 => intro w9 hSw; (try dsimp only at hSw); first | (go_simp; done) | (go_simp; rw [fR0]; done) | (go_simp; rw [fR0]; rfl) | (go_simp; rw [fR1]; done) | (go_simp; rw [fR1]; rfl) | (go_simp; with_reducible rfl)
          try simp only [Act.put, List.setIfInBounds_toArray, List.set_cons_zero, List.set_cons_succ, List.getElem_toArray, List.getElem_cons_zero, List.getElem_cons_succ]
          refine wpAnyH_take (i := 16) (v := ?vq16x16) rfl (by kernel_rfl) (by kernel_rfl) (by kernel_rfl) (fun _ _ _ h => h) (Or.inl ⟨by rfl, ?hq16x16⟩) hHeld ?rq16x16
          case hq16x16 => intro w9 hSw; (try dsimp only at hSw); first | (go_simp; done) | (go_simp; rw [fR0]; done) | (go_simp; rw [fR0]; rfl) | (go_simp; rw [fR1]; done) | (go_simp; rw [fR1]; rfl) | (go_simp; with_reducible rfl)
          try simp only [Act.put, List.setIfInBounds_toArray, List.set_cons_zero, List.set_cons_succ, List.getElem_toArray, List.getElem_cons_zero, List.getElem_cons_succ]
          refine wpAnyH_take (i := 17) (v := ?vq17x17) rfl (by kernel_rfl) (by kernel_rfl) (by kernel_rfl) (fun _ _ _ h => h) (Or.inl ⟨by rfl, ?hq17x17⟩) hHeld ?rq17x17
          case hq17x17 => intro w9 hSw; (try dsimp only at hSw); first | (go_simp; done) | (go_simp; rw [fR0]; done) | (go_simp; rw [fR0]; rfl) | (go_simp; rw [fR1]; done) | (go_simp; rw [fR1]; rfl) | (go_simp; with_reducible rfl)
          try simp only [Act.put, List.setIfInBounds_toArray, List.set_cons_zero, List.set_cons_succ, List.getElem_toArray, List.getElem_cons_zero, List.getElem_cons_succ]
          refine wpAnyH_take (i := 18) (v := ?vq18x18) rfl (by kernel_rfl) (by kernel_rfl) (by kernel_rfl) (fun _ _ _ h => h) (Or.inl ⟨by rfl, ?hq18x18⟩) hHeld ?rq18x18
          case hq18x18 => intro w9 hSw; (try dsimp only at hSw); first | (go_simp; done) | (go_simp; rw [fR0]; done) | (go_simp; rw [fR0]; rfl) | (go_simp; rw [fR1]; done) | (go_simp; rw [fR1]; rfl) | (go_simp; with_reducible rfl)
          try simp only [Act.put, List.setIfInBounds_toArray, List.set_cons_zero, List.set_cons_succ, List.getElem_toArray, List.getElem_cons_zero, List.getElem_cons_succ]
          refine wpAnyH_take (i := 19) (v := ?vq19x19) rfl (by kernel_rfl) (by kernel_rfl) (by kernel_rfl) (fun _ _ _ h => h) (Or.inl ⟨by rfl, ?hq19x19⟩) hHeld ?rq19x19
          case hq19x19 => intro w9 hSw; (try dsimp only at hSw); first | (go_simp; done) | (go_simp; rw [fR0]; done) | (go_simp; rw [fR0]; rfl) | (go_simp; rw [fR1]; done) | (go_simp; rw [fR1]; rfl) | (go_simp; with_reducible rfl)
          try simp only [Act.put, List.setIfInBounds_toArray, List.set_cons_zero, List.set_cons_succ, List.getElem_toArray, List.getElem_cons_zero, List.getElem_cons_succ]
          refine wpAnyH_take (i := 20) (v := ?vq20x20) rfl (by kernel_rfl) (by kernel_rfl) (by kernel_rfl) (fun _ _ _ h => h) (Or.inl ⟨by rfl, ?hq20x20⟩) hHeld ?rq20x20
          case hq20x20 => intro w9 hSw; (try dsimp only at hSw); first | (go_simp; done) | (go_simp; rw [fR0]; done) | (go_simp; rw [fR0]; rfl) | (go_simp; rw [fR1]; done) | (go_simp; rw [fR1]; rfl) | (go_simp; with_reducible rfl)
          try simp only [Act.put, List.setIfInBounds_toArray, List.set_cons_zero, List.set_cons_succ, List.getElem_toArray, List.getElem_cons_zero, List.getElem_cons_succ]
          refine wpAnyH_take (i := 21) (v := ?vq21x21) rfl (by kernel_rfl) (by kernel_rfl) (by kernel_rfl) (fun _ _ _ h => h) (Or.inl ⟨by rfl, ?hq21x21⟩) hHeld ?rq21x21
          case hq21x21 => intro w9 hSw; (try dsimp only at hSw); obtain ⟨v0, v1, v2, v3, v4, v5⟩ := V2.out.later hSw; obtain ⟨m0, m1, m2, m3, m4, m5, m6⟩ := U2.out.later hSw; first | (go_simp; done) | (go_simp; rw [fR0]; done) | (go_simp; rw [fR0]; rfl) | (go_simp; rw [fR1]; done) | (go_simp; rw [fR1]; rfl) | (go_simp; with_reducible rfl)
          try simp only [Act.put, List.setIfInBounds_toArray, List.set_cons_zero, List.set_cons_succ, List.getElem_toArray, List.getElem_cons_zero, List.getElem_cons_succ]
          refine wpAnyH_take (i := 22) (v := ?vq22x22) rfl (by kernel_rfl) (by kernel_rfl) (by kernel_rfl) (fun _ _ _ h => h) (Or.inl ⟨by rfl, ?hq22x22⟩) hHeld ?rq22x22
          case hq22x22 => intro w9 hSw; (try dsimp only at hSw); first | (go_simp; done) | (go_simp; rw [fR0]; done) | (go_simp; rw [fR0]; rfl) | (go_simp; rw [fR1]; done) | (go_simp; rw [fR1]; rfl) | (go_simp; with_reducible rfl)
          try simp only [Act.put, List.setIfInBounds_toArray, List.set_cons_zero, List.set_cons_succ, List.getElem_toArray, List.getElem_cons_zero, List.getElem_cons_succ]
          refine wpAnyH_ready (rs := [23]) (by kernel_rfl) (by simp) (AllReadyH.cons rfl (fun K9 hK => ?_) AllReadyH.nil)
          go_simp
          go_at_call 10
          refine (KN.out _ HY1.out).mono ?_
          rintro e Y2 ⟨rfl, q9, rfl⟩
          have HY2 := hide (below_on HY1.out (below_drewN Y1 q9))
          clear hHeld
          refine hK.out _ _ HY2.out (fun hHeld => ?_)
          clear hK K9
          try simp only [Act.put, List.setIfInBounds_toArray, List.set_cons_zero, List.set_cons_succ, List.getElem_toArray, List.getElem_cons_zero, List.getElem_cons_succ]
          refine wpAnyH_take (i := 24) (v := ?vq23x24) rfl (by kernel_rfl) (by kernel_rfl) (by kernel_rfl) (fun _ _ _ h => h) (Or.inl ⟨by rfl, ?hq23x24⟩) hHeld ?rq23x24
          case hq23x24 => intro w9 hSw; (try dsimp only at hSw); first | (go_simp; done) | (go_simp; rw [fR0]; done) | (go_simp; rw [fR0]; rfl) | (go_simp; rw [fR1]; done) | (go_simp; rw [fR1]; rfl) | (go_simp; with_reducible rfl)
          try simp only [Act.put, List.setIfInBounds_toArray, List.set_cons_zero, List.set_cons_succ, List.getElem_toArray, List.getElem_cons_zero, List.getElem_cons_succ]
          refine wpAnyH_take (i := 25) (v := ?vq24x25) rfl (by kernel_rfl) (by kernel_rfl) (by kernel_rfl) (fun _ _ _ h => h) (Or.inl ⟨by rfl, ?hq24x25⟩) hHeld ?rq24x25
          case hq24x25 => intro w9 hSw; (try dsimp only at hSw); first | (go_simp; done) | (go_simp; rw [fR0]; done) | (go_simp; rw [fR0]; rfl) | (go_simp; rw [fR1]; done) | (go_simp; rw [fR1]; rfl) | (go_simp; with_reducible rfl)
          try simp only [Act.put, List.setIfInBounds_toArray, List.set_cons_zero, List.set_cons_succ, List.getElem_toArray, List.getElem_cons_zero, List.getElem_cons_succ]
          refine wpAnyH_take (i := 26) (v := ?vq25x26) rfl (by kernel_rfl) (by kernel_rfl) (by kernel_rfl) (fun _ _ _ h => h) (Or.inl ⟨by rfl, ?hq25x26⟩) hHeld ?rq25x26
          case hq25x26 => intro w9 hSw; (try dsimp only at hSw); first | (go_simp; done) | (go_simp; rw [fR0]; done) | (go_simp; rw [fR0]; rfl) | (go_simp; rw [fR1]; done) | (go_simp; rw [fR1]; rfl) | (go_simp; with_reducible rfl)
          try simp only [Act.put, List.setIfInBounds_toArray, List.set_cons_zero, List.set_cons_succ, List.getElem_toArray, List.getElem_cons_zero, List.getElem_cons_succ]
          refine wpAnyH_take (i := 27) (v := ?vq26x27) rfl (by kernel_rfl) (by kernel_rfl) (by kernel_rfl) (fun _ _ _ h => h) (Or.inl ⟨by rfl, ?hq26x27⟩) hHeld ?rq26x27
          case hq26x27 => intro w9 hSw; (try dsimp only at hSw); obtain ⟨v0, v1, v2, v3, v4, v5⟩ := V2.out.later hSw; obtain ⟨m0, m1, m2, m3, m4, m5, m6⟩ := U2.out.later hSw; first | (go_simp; done) | (go_simp; rw [fR0]; done) | (go_simp; rw [fR0]; rfl) | (go_simp; rw [fR1]; done) | (go_simp; rw [fR1]; rfl) | (go_simp; with_reducible rfl)
          try simp only [Act.put, List.setIfInBounds_toArray, List.set_cons_zero, List.set_cons_succ, List.getElem_toArray, List.getElem_cons_zero, List.getElem_cons_succ]
          refine wpAnyH_take (i := 28) (v := ?vq27x28) rfl (by kernel_rfl) (by kernel_rfl) (by kernel_rfl) (fun _ _ _ h => h) (Or.inl ⟨by rfl, ?hq27x28⟩) hHeld ?rq27x28
          case hq27x28 => intro w9 hSw; (try dsimp only at hSw); first | (go_simp; done) | (go_simp; rw [fR0]; done) | (go_simp; rw [fR0]; rfl) | (go_simp; rw [fR1]; done) | (go_simp; rw [fR1]; rfl) | (go_simp; with_reducible rfl)
          try simp only [Act.put, List.setIfInBounds_toArray, List.set_cons_zero, List.set_cons_succ, List.getElem_toArray, List.getElem_cons_zero, List.getElem_cons_succ]
          refine wpAnyH_take (i := 29) (v := ?vq28x29) rfl (by kernel_rfl) (by kernel_rfl) (by kernel_rfl) (fun _ _ _ h => h) (Or.inl ⟨by rfl, ?hq28x29⟩) hHeld ?rq28x29
          case hq28x29 => intro w9 hSw; (try dsimp only at hSw); first | (go_simp; done) | (go_simp; rw [fR0]; done) | (go_simp; rw [fR0]; rfl) | (go_simp; rw [fR1]; done) | (go_simp; rw [fR1]; rfl) | (go_simp; with_reducible rfl)
          try simp only [Act.put, List.setIfInBounds_toArray, List.set_cons_zero, List.set_cons_succ, List.getElem_toArray, List.getElem_cons_zero, List.getElem_cons_succ]
          refine wpAnyH_take (i := 30) (v := ?vq29x30) rfl (by kernel_rfl) (by kernel_rfl) (by kernel_rfl) (fun _ _ _ h => h) (Or.inl ⟨by rfl, ?hq29x30⟩) hHeld ?rq29x30
          case hq29x30 => intro w9 hSw; (try dsimp only at hSw); first | (go_simp; done) | (go_simp; rw [fR0]; done) | (go_simp; rw [fR0]; rfl) | (go_simp; rw [fR1]; done) | (go_simp; rw [fR1]; rfl) | (go_simp; with_reducible rfl)
          try simp only [Act.put, List.setIfInBounds_toArray, List.set_cons_zero, List.set_cons_succ, List.getElem_toArray, List.getElem_cons_zero, List.getElem_cons_succ]
          refine wpAnyH_ready (rs := [31]) (by kernel_rfl) (by simp) (AllReadyH.cons rfl (fun K9 hK => ?_) AllReadyH.nil)
          go_simp
          go_at_call 6
          refine (KJ.out _ HY2.out).mono ?_
          rintro e Y3 ⟨y9, z9, rfl, hb9, _⟩
          have HY3 := hide (below_on HY2.out hb9)
          clear hb9 hHeld
          refine hK.out _ _ HY3.out (fun hHeld => ?_)
          clear hK K9
          try simp only [Act.put, List.setIfInBounds_toArray, List.set_cons_zero, List.set_cons_succ, List.getElem_toArray, List.getElem_cons_zero, List.getElem_cons_succ]
          refine wpAnyH_take (i := 32) (v := ?vq30x32) rfl (by kernel_rfl) (by kernel_rfl) (by kernel_rfl) (fun _ _ _ h => h) (Or.inl ⟨by rfl, ?hq30x32⟩) hHeld ?rq30x32
          case hq30x32 => intro w9 hSw; (try dsimp only at hSw); first | (go_simp; done) | (go_simp; rw [fR0]; done) | (go_simp; rw [fR0]; rfl) | (go_simp; rw [fR1]; done) | (go_simp; rw [fR1]; rfl) | (go_simp; with_reducible rfl)
          try simp only [Act.put, List.setIfInBounds_toArray, List.set_cons_zero, List.set_cons_succ, List.getElem_toArray, List.getElem_cons_zero, List.getElem_cons_succ]
          refine wpAnyH_take (i := 33) (v := ?vq31x33) rfl (by kernel_rfl) (by kernel_rfl) (by kernel_rfl) (fun _ _ _ h => h) (Or.inl ⟨by rfl, ?hq31x33⟩) hHeld ?rq31x33
          case hq31x33 => intro w9 hSw; (try dsimp only at hSw); first | (go_simp; done) | (go_simp; rw [fR0]; done) | (go_simp; rw [fR0]; rfl) | (go_simp; rw [fR1]; done) | (go_simp; rw [fR1]; rfl) | (go_simp; with_reducible rfl)
          try simp only [Act.put, List.setIfInBounds_toArray, List.set_cons_zero, List.set_cons_succ, List.getElem_toArray, List.getElem_cons_zero, List.getElem_cons_succ]
          refine wpAnyH_take (i := 34) (v := ?vq32x34) rfl (by kernel_rfl) (by kernel_rfl) (by kernel_rfl) (fun _ _ _ h => h) (Or.inl ⟨by rfl, ?hq32x34⟩) hHeld ?rq32x34
          case hq32x34 => intro w9 hSw; (try dsimp only at hSw); first | (go_simp; done) | (go_simp; rw [fR0]; done) | (go_simp; rw [fR0]; rfl) | (go_simp; rw [fR1]; done) | (go_simp; rw [fR1]; rfl) | (go_simp; with_reducible rfl)
          try simp only [Act.put, List.setIfInBounds_toArray, List.set_cons_zero, List.set_cons_succ, List.getElem_toArray, List.getElem_cons_zero, List.getElem_cons_succ]
          refine wpAnyH_take (i := 35) (v := ?vq33x35) rfl (by kernel_rfl) (by kernel_rfl) (by kernel_rfl) (fun _ _ _ h => h) (Or.inl ⟨by rfl, ?hq33x35⟩) hHeld ?rq33x35
          case hq33x35 => intro w9 hSw; (try dsimp only at hSw); first | (go_simp; done) | (go_simp; rw [fR0]; done) | (go_simp; rw [fR0]; rfl) | (go_simp; rw [fR1]; done) | (go_simp; rw [fR1]; rfl) | (go_simp; with_reducible rfl)
          try simp only [Act.put, List.setIfInBounds_toArray, List.set_cons_zero, List.set_cons_succ, List.getElem_toArray, List.getElem_cons_zero, List.getElem_cons_succ]
          refine wpAnyH_take (i := 36) (v := ?vq34x36) rfl (by kernel_rfl) (by kernel_rfl) (by kernel_rfl) (fun _ _ _ h => h) (Or.inl ⟨by rfl, ?hq34x36⟩) hHeld ?rq34x36
          case hq34x36 => intro w9 hSw; (try dsimp only at hSw); first | (go_simp; done) | (go_simp; rw [fR0]; done) | (go_simp; rw [fR0]; rfl) | (go_simp; rw [fR1]; done) | (go_simp; rw [fR1]; rfl) | (go_simp; with_reducible rfl)
          try simp only [Act.put, List.setIfInBounds_toArray, List.set_cons_zero, List.set_cons_succ, List.getElem_toArray, List.getElem_cons_zero, List.getElem_cons_succ]
          refine wpAnyH_take (i := 37) (v := ?vq35x37) rfl (by kernel_rfl) (by kernel_rfl) (by kernel_rfl) (fun _ _ _ h => h) (Or.inl ⟨by rfl, ?hq35x37⟩) hHeld ?rq35x37
          case hq35x37 => intro w9 hSw; (try dsimp only at hSw); first | (go_simp; done) | (go_simp; rw [fR0]; done) | (go_simp; rw [fR0]; rfl) | (go_simp; rw [fR1]; done) | (go_simp; rw [fR1]; rfl) | (go_simp; with_reducible rfl)
          try simp only [Act.put, List.setIfInBounds_toArray, List.set_cons_zero, List.set_cons_succ, List.getElem_toArray, List.getElem_cons_zero, List.getElem_cons_succ]
          refine wpAnyH_take (i := 38) (v := ?vq36x38) rfl (by kernel_rfl) (by kernel_rfl) (by kernel_rfl) (fun _ _ _ h => h) (Or.inl ⟨by rfl, ?hq36x38⟩) hHeld ?rq36x38
          case hq36x38 => intro w9 hSw; (try dsimp only at hSw); first | (go_simp; done) | (go_simp; rw [fR0]; done) | (go_simp; rw [fR0]; rfl) | (go_simp; rw [fR1]; done) | (go_simp; rw [fR1]; rfl) | (go_simp; with_reducible rfl)
          try simp only [Act.put, List.setIfInBounds_toArray, List.set_cons_zero, List.set_cons_succ, List.getElem_toArray, List.getElem_cons_zero, List.getElem_cons_succ]
          refine wpAnyH_take (i := 39) (v := undef) rfl (by kernel_rfl) (by kernel_rfl) (by kernel_rfl) (fun _ _ _ h => h) (Or.inr ⟨by rfl, rfl⟩) hHeld ?_
          try simp only [Act.put, List.setIfInBounds_toArray, List.set_cons_zero, List.set_cons_succ, List.getElem_toArray, List.getElem_cons_zero, List.getElem_cons_succ]
          refine wpAnyH_take (i := 40) (v := undef) rfl (by kernel_rfl) (by kernel_rfl) (by kernel_rfl) (fun _ _ _ h => h) (Or.inr ⟨by rfl, rfl⟩) hHeld ?_
          try simp only [Act.put, List.setIfInBounds_toArray, List.set_cons_zero, List.set_cons_succ, List.getElem_toArray, List.getElem_cons_zero, List.getElem_cons_succ]
          refine wpAnyH_take (i := 41) (v := undef) rfl (by kernel_rfl) (by kernel_rfl) (by kernel_rfl) (fun _ _ _ h => h) (Or.inr ⟨by rfl, rfl⟩) hHeld ?_
          try simp only [Act.put, List.setIfInBounds_toArray, List.set_cons_zero, List.set_cons_succ, List.getElem_toArray, List.getElem_cons_zero, List.getElem_cons_succ]
          refine wpAnyH_take (i := 42) (v := undef) rfl (by kernel_rfl) (by kernel_rfl) (by kernel_rfl) (fun _ _ _ h => h) (Or.inr ⟨by rfl, rfl⟩) hHeld ?_
          try simp only [Act.put, List.setIfInBounds_toArray, List.set_cons_zero, List.set_cons_succ, List.getElem_toArray, List.getElem_cons_zero, List.getElem_cons_succ]
          refine wpAnyH_take (i := 43) (v := undef) rfl (by kernel_rfl) (by kernel_rfl) (by kernel_rfl) (fun _ _ _ h => h) (Or.inr ⟨by rfl, rfl⟩) hHeld ?_
          try simp only [Act.put, List.setIfInBounds_toArray, List.set_cons_zero, List.set_cons_succ, List.getElem_toArray, List.getElem_cons_zero, List.getElem_cons_succ]
          refine wpAnyH_take (i := 44) (v := undef) rfl (by kernel_rfl) (by kernel_rfl) (by kernel_rfl) (fun _ _ _ h => h) (Or.inr ⟨by rfl, rfl⟩) hHeld ?_
          try simp only [Act.put, List.setIfInBounds_toArray, List.set_cons_zero, List.set_cons_succ, List.getElem_toArray, List.getElem_cons_zero, List.getElem_cons_succ]
          refine wpAnyH_take (i := 45) (v := undef) rfl (by kernel_rfl) (by kernel_rfl) (by kernel_rfl) (fun _ _ _ h => h) (Or.inr ⟨by rfl, rfl⟩) hHeld ?_
          try simp only [Act.put, List.setIfInBounds_toArray, List.set_cons_zero, List.set_cons_succ, List.getElem_toArray, List.getElem_cons_zero, List.getElem_cons_succ]
          refine wpAnyH_take (i := 46) (v := undef) rfl (by kernel_rfl) (by kernel_rfl) (by kernel_rfl) (fun _ _ _ h => h) (Or.inr ⟨by rfl, rfl⟩) hHeld ?_
          try simp only [Act.put, List.setIfInBounds_toArray, List.set_cons_zero, List.set_cons_succ, List.getElem_toArray, List.getElem_cons_zero, List.getElem_cons_succ]
          refine wpAnyH_take (i := 47) (v := ?vq37x47) rfl (by kernel_rfl) (by kernel_rfl) (by kernel_rfl) (fun _ _ _ h => h) (Or.inl ⟨by rfl, ?hq37x47⟩) hHeld ?rq37x47
          case hq37x47 => intro w9 hSw; (try dsimp only at hSw); first | (go_simp; done) | (go_simp; rw [fR0]; done) | (go_simp; rw [fR0]; rfl) | (go_simp; rw [fR1]; done) | (go_simp; rw [fR1]; rfl) | (go_simp; with_reducible rfl)
          try simp only [Act.put, List.setIfInBounds_toArray, List.set_cons_zero, List.set_cons_succ, List.getElem_toArray, List.getElem_cons_zero, List.getElem_cons_succ]
          refine wpAnyH_take (i := 48) (v := ?vq38x48) rfl (by kernel_rfl) (by kernel_rfl) (by kernel_rfl) (fun _ _ _ h => h) (Or.inl ⟨by rfl, ?hq38x48⟩) hHeld ?rq38x48
          case hq38x48 => intro w9 hSw; (try dsimp only at hSw); first | (go_simp; done) | (go_simp; rw [fR0]; done) | (go_simp; rw [fR0]; rfl) | (go_simp; rw [fR1]; done) | (go_simp; rw [fR1]; rfl) | (go_simp; with_reducible rfl)
          try simp only [Act.put, List.setIfInBounds_toArray, List.set_cons_zero, List.set_cons_succ, List.getElem_toArray, List.getElem_cons_zero, List.getElem_cons_succ]
          refine wpAnyH_take (i := 49) (v := ?vq39x49) rfl (by kernel_rfl) (by kernel_rfl) (by kernel_rfl) (fun _ _ _ h => h) (Or.inl ⟨by rfl, ?hq39x49⟩) hHeld ?rq39x49
          case hq39x49 => intro w9 hSw; (try dsimp only at hSw); first | (go_simp; done) | (go_simp; rw [fR0]; done) | (go_simp; rw [fR0]; rfl) | (go_simp; rw [fR1]; done) | (go_simp; rw [fR1]; rfl) | (go_simp; with_reducible rfl)
          try simp only [Act.put, List.setIfInBounds_toArray, List.set_cons_zero, List.set_cons_succ, List.getElem_toArray, List.getElem_cons_zero, List.getElem_cons_succ]
          refine wpAnyH_take (i := 50) (v := ?vq40x50) rfl (by kernel_rfl) (by kernel_rfl) (by kernel_rfl) (fun _ _ _ h => h) (Or.inl ⟨by rfl, ?hq40x50⟩) hHeld ?rq40x50
          case hq40x50 => intro w9 hSw; (try dsimp only at hSw); obtain ⟨v0, v1, v2, v3, v4, v5⟩ := V2.out.later hSw; obtain ⟨m0, m1, m2, m3, m4, m5, m6⟩ := U2.out.later hSw; first | (go_simp; done) | (go_simp; rw [fR0]; done) | (go_simp; rw [fR0]; rfl) | (go_simp; rw [fR1]; done) | (go_simp; rw [fR1]; rfl) | (go_simp; with_reducible rfl)
          try simp only [Act.put, List.setIfInBounds_toArray, List.set_cons_zero, List.set_cons_succ, List.getElem_toArray, List.getElem_cons_zero, List.getElem_cons_succ]
          refine wpAnyH_take (i := 51) (v := ?vq41x51) rfl (by kernel_rfl) (by kernel_rfl) (by kernel_rfl) (fun _ _ _ h => h) (Or.inl ⟨by rfl, ?hq41x51⟩) hHeld ?rq41x51
          case hq41x51 => intro w9 hSw; (try dsimp only at hSw); first | (go_simp; done) | (go_simp; rw [fR0]; done) | (go_simp; rw [fR0]; rfl) | (go_simp; rw [fR1]; done) | (go_simp; rw [fR1]; rfl) | (go_simp; with_reducible rfl)
          try simp only [Act.put, List.setIfInBounds_toArray, List.set_cons_zero, List.set_cons_succ, List.getElem_toArray, List.getElem_cons_zero, List.getElem_cons_succ]
          refine wpAnyH_take (i := 52) (v := ?vq42x52) rfl (by kernel_rfl) (by kernel_rfl) (by kernel_rfl) (fun _ _ _ h => h) (Or.inl ⟨by rfl, ?hq42x52⟩) hHeld ?rq42x52
          case hq42x52 => intro w9 hSw; (try dsimp only at hSw); obtain ⟨v0, v1, v2, v3, v4, v5⟩ := V2.out.later hSw; obtain ⟨m0, m1, m2, m3, m4, m5, m6⟩ := U2.out.later hSw; first | (go_simp; done) | (go_simp; rw [fR0]; done) | (go_simp; rw [fR0]; rfl) | (go_simp; rw [fR1]; done) | (go_simp; rw [fR1]; rfl) | (go_simp; with_reducible rfl)
          try simp only [Act.put, List.setIfInBounds_toArray, List.set_cons_zero, List.set_cons_succ, List.getElem_toArray, List.getElem_cons_zero, List.getElem_cons_succ]
          refine wpAnyH_ready (rs := [53]) (by kernel_rfl) (by simp) (AllReadyH.cons rfl (fun K9 hK => ?_) AllReadyH.nil)
          go_simp
          go_at_call 13
          refine (KK.out _ HY3.out).mono ?_
          rintro e Y6 ⟨rfl, hb9⟩
          have HY6 := hide (below_on HY3.out hb9)
          clear hb9 hHeld
          refine hK.out _ _ HY6.out (fun hHeld => ?_)
          clear hK K9
          try simp only [Act.put, List.setIfInBounds_toArray, List.set_cons_zero, List.set_cons_succ, List.getElem_toArray, List.getElem_cons_zero, List.getElem_cons_succ]
          refine wpAnyH_take (i := 54) (v := ?vq43x54) rfl (by kernel_rfl) (by kernel_rfl) (by kernel_rfl) (fun _ _ _ h => h) (Or.inl ⟨by rfl, ?hq43x54⟩) hHeld ?rq43x54
          case hq43x54 => intro w9 hSw; (try dsimp only at hSw); first | (go_simp; done) | (go_simp; rw [fR0]; done) | (go_simp; rw [fR0]; rfl) | (go_simp; rw [fR1]; done) | (go_simp; rw [fR1]; rfl) | (go_simp; with_reducible rfl)
          try simp only [Act.put, List.setIfInBounds_toArray, List.set_cons_zero, List.set_cons_succ, List.getElem_toArray, List.getElem_cons_zero, List.getElem_cons_succ]
          refine wpAnyH_take (i := 55) (v := ?vq44x55) rfl (by kernel_rfl) (by kernel_rfl) (by kernel_rfl) (fun _ _ _ h => h) (Or.inl ⟨by rfl, ?hq44x55⟩) hHeld ?rq44x55
          case hq44x55 => intro w9 hSw; (try dsimp only at hSw); first | (go_simp; done) | (go_simp; rw [fR0]; done) | (go_simp; rw [fR0]; rfl) | (go_simp; rw [fR1]; done) | (go_simp; rw [fR1]; rfl) | (go_simp; with_reducible rfl)
          try simp only [Act.put, List.setIfInBounds_toArray, List.set_cons_zero, List.set_cons_succ, List.getElem_toArray, List.getElem_cons_zero, List.getElem_cons_succ]
          refine wpAnyH_done (by kernel_rfl) ?_ _
          go_wp2
          go_ret
          exact ⟨by simp, below_on B1.out (below_on B2.out HY6.out)⟩
  · skip
    have hCb : (C != 0) = true := by simpa using hC
    clear HL
    go_upto_region 6 with fail
    refine wp_region_held_drew (S := fun w' => Below W2.heap.size W2 w') (by kernel_rfl) (below_drewN W2 1) (fun hHeld => ?_)
    refine forgetH (fun wx => Below W2.heap.size W2 wx) hHeld ?_
    clear hHeld
    rintro Y0 hHeld
    clear v0 v1 v2 v3 v4 v5 m0 m1 m2 m3 m4 m5 m6
    refine wpAnyH_take (i := 0) (v := ?ve0x0) rfl (by kernel_rfl) (by kernel_rfl) (by kernel_rfl) (fun _ _ _ h => h) (Or.inl ⟨by rfl, ?he0x0⟩) hHeld ?re0x0
    case he0x0 => intro w9 hSw; (try dsimp only at hSw); obtain ⟨v0, v1, v2, v3, v4, v5⟩ := V2.out.later hSw; obtain ⟨m0, m1, m2, m3, m4, m5, m6⟩ := U2.out.later hSw; first | (go_simp; done) | (go_simp; rw [fR0]; done) | (go_simp; rw [fR0]; rfl) | (go_simp; rw [fR1]; done) | (go_simp; rw [fR1]; rfl) | (go_simp; with_reducible rfl)
    try simp only [Act.put, List.setIfInBounds_toArray, List.set_cons_zero, List.set_cons_succ, List.getElem_toArray, List.getElem_cons_zero]
    refine wpAnyH_take (i := 1) (v := ?ve1x1) rfl (by kernel_rfl) (by kernel_rfl) (by kernel_rfl) (fun _ _ _ h => h) (Or.inl ⟨by rfl, ?he1x1⟩) hHeld ?re1x1
    case he1x1 => intro w9 hSw; (try dsimp only at hSw); obtain ⟨v0, v1, v2, v3, v4, v5⟩ := V2.out.later hSw; obtain ⟨m0, m1, m2, m3, m4, m5, m6⟩ := U2.out.later hSw; first | (go_simp; done) | (go_simp; rw [fR0]; done) | (go_simp; rw [fR0]; rfl) | (go_simp; rw [fR1]; done) | (go_simp; rw [fR1]; rfl) | (go_simp; with_reducible rfl)
    try simp only [Act.put, List.setIfInBounds_toArray, List.set_cons_zero, List.set_cons_succ, List.getElem_toArray, List.getElem_cons_zero, List.getElem_cons_succ]
    refine wpAnyH_take (i := 2) (v := ?ve2x2) rfl (by kernel_rfl) (by kernel_rfl) (by kernel_rfl) (fun _ _ _ h => h) (Or.inl ⟨by rfl, ?he2x2⟩) hHeld ?re2x2
    case he2x2 => intro w9 hSw; (try dsimp only at hSw); obtain ⟨v0, v1, v2, v3, v4, v5⟩ := V2.out.later hSw; obtain ⟨m0, m1, m2, m3, m4, m5, m6⟩ := U2.out.later hSw; first | (go_simp; done) | (go_simp; rw [fR0]; done) | (go_simp; rw [fR0]; rfl) | (go_simp; rw [fR1]; done) | (go_simp; rw [fR1]; rfl) | (go_simp; with_reducible rfl)
    try simp only [Act.put, List.setIfInBounds_toArray, List.set_cons_zero, List.set_cons_succ, List.getElem_toArray, List.getElem_cons_zero, List.getElem_cons_succ]
    refine wpAnyH_take (i := 3) (v := ?ve3x3) rfl (by kernel_rfl) (by kernel_rfl) (by kernel_rfl) (fun _ _ _ h => h) (Or.inl ⟨by rfl, ?he3x3⟩) hHeld ?re3x3
    case he3x3 => intro w9 hSw; (try dsimp only at hSw); obtain ⟨v0, v1, v2, v3, v4, v5⟩ := V2.out.later hSw; obtain ⟨m0, m1, m2, m3, m4, m5, m6⟩ := U2.out.later hSw; first | (go_simp; done) | (go_simp; rw [fR0]; done) | (go_simp; rw [fR0]; rfl) | (go_simp; rw [fR1]; done) | (go_simp; rw [fR1]; rfl) | (go_simp; with_reducible rfl)
    try simp only [Act.put, List.setIfInBounds_toArray, List.set_cons_zero, List.set_cons_succ, List.getElem_toArray, List.getElem_cons_zero, List.getElem_cons_succ]
    refine wpAnyH_take (i := 6) (v := ?ve6x6) rfl (by kernel_rfl) (by kernel_rfl) (by kernel_rfl) (fun _ _ _ h => h) (Or.inl ⟨by rfl, ?he6x6⟩) hHeld ?re6x6
    case he6x6 => intro w9 hSw; (try dsimp only at hSw); obtain ⟨v0, v1, v2, v3, v4, v5⟩ := V2.out.later hSw; obtain ⟨m0, m1, m2, m3, m4, m5, m6⟩ := U2.out.later hSw; first | (go_simp; done) | (go_simp; rw [fR0]; done) | (go_simp; rw [fR0]; rfl) | (go_simp; rw [fR1]; done) | (go_simp; rw [fR1]; rfl) | (go_simp; with_reducible rfl)
    try simp only [Act.put, List.setIfInBounds_toArray, List.set_cons_zero, List.set_cons_succ, List.getElem_toArray, List.getElem_cons_zero, List.getElem_cons_succ]
    refine wpAnyH_take (i := 7) (v := ?ve7x7) rfl (by kernel_rfl) (by kernel_rfl) (by kernel_rfl) (fun _ _ _ h => h) (Or.inl ⟨by rfl, ?he7x7⟩) hHeld ?re7x7
    case he7x7 => intro w9 hSw; (try dsimp only at hSw); obtain ⟨v0, v1, v2, v3, v4, v5⟩ := V2.out.later hSw; obtain ⟨m0, m1, m2, m3, m4, m5, m6⟩ := U2.out.later hSw; first | (go_simp; done) | (go_simp; rw [fR0]; done) | (go_simp; rw [fR0]; rfl) | (go_simp; rw [fR1]; done) | (go_simp; rw [fR1]; rfl) | (go_simp; with_reducible rfl)
    try simp only [Act.put, List.setIfInBounds_toArray, List.set_cons_zero, List.set_cons_succ, List.getElem_toArray, List.getElem_cons_zero, List.getElem_cons_succ]
    have B2x := hide (below_on B2.out hHeld)
    refine wpAnyH_ready (rs := [4]) (by kernel_rfl) (by simp) (AllReadyH.cons rfl (fun K hK => ?_) AllReadyH.nil)
    go_simp
    go_at_call 7
    refine (KS.out _ B2x.out).mono ?_
    rintro e Y1 ⟨y9, z9, rfl, hb9, _⟩
    have HB9 := hide (below_on hHeld hb9)
    clear hb9 hHeld
    refine hK.out _ _ HB9.out (fun hHeld => ?_)
    clear hK K
    try simp only [Act.put, List.setIfInBounds_toArray, List.set_cons_zero, List.set_cons_succ, List.getElem_toArray, List.getElem_cons_zero, List.getElem_cons_succ]
    refine wpAnyH_take (i := 5) (v := ?ve5x5) rfl (by kernel_rfl) (by kernel_rfl) (by kernel_rfl) (fun _ _ _ h => h) (Or.inl ⟨by rfl, ?he5x5⟩) hHeld ?re5x5
    case he5x5 => intro w9 hSw; (try dsimp only at hSw); first | (go_simp; done) | (go_simp; rw [fR0]; done) | (go_simp; rw [fR0]; rfl) | (go_simp; rw [fR1]; done) | (go_simp; rw [fR1]; rfl) | (go_simp; with_reducible rfl)
    try simp only [Act.put, List.setIfInBounds_toArray, List.set_cons_zero, List.set_cons_succ, List.getElem_toArray, List.getElem_cons_zero, List.getElem_cons_succ]
    refine wpAnyH_take (i := 8) (v := ?ve8x8) rfl (by kernel_rfl) (by kernel_rfl) (by kernel_rfl) (fun _ _ _ h => h) (Or.inl ⟨by rfl, ?he8x8⟩) hHeld ?re8x8
    case he8x8 => intro w9 hSw; (try dsimp only at hSw); first | (go_simp; done) | (go_simp; rw [fR0]; done) | (go_simp; rw [fR0]; rfl) | (go_simp; rw [fR1]; done) | (go_simp; rw [fR1]; rfl) | (go_simp; with_reducible rfl)
    try simp only [Act.put, List.setIfInBounds_toArray, List.set_cons_zero, List.set_cons_succ, List.getElem_toArray, List.getElem_cons_zero, List.getElem_cons_succ]
    refine wpAnyH_take (i := 9) (v := ?ve9x9) rfl (by kernel_rfl) (by kernel_rfl) (by kernel_rfl) (fun _ _ _ h => h) (Or.inl ⟨by rfl, ?he9x9⟩) hHeld ?re9x9
    case he9x9 => intro w9 hSw; (try dsimp only at hSw); first | (go_simp; done) | (go_simp; rw [fR0]; done) | (go_simp; rw [fR0]; rfl) | (go_simp; rw [fR1]; done) | (go_simp; rw [fR1]; rfl) | (go_simp; with_reducible rfl)
    try simp only [Act.put, List.setIfInBounds_toArray, List.set_cons_zero, List.set_cons_succ, List.getElem_toArray, List.getElem_cons_zero, List.getElem_cons_succ]
    refine wpAnyH_done (by kernel_rfl) ?_ _
    go_wp2
    go_ret
    exact ⟨by simp, below_on B1.out (below_on B2.out HB9.out)⟩
end Go.Proofs.YtncgpfapepminaaGreatDoor
