/- LawGrows in one text: what each says stands at its head below. -/
import Derived.Test.YtncgpfapepminaaDoorG38
import Derived.Test.YtncgpfapepminaaDoorG41
import Derived.Test.YtncgpfapepminaaDoorG29
import Derived.Test.YtncgpfapepminaaDoorG30
import Derived.Test.YtncgpfapepminaaDoorG20
import Derived.Test.YtncgpfapepminaaDoorG40
import Derived.Test.YtncgpfapepminaaDoorG19
/- Chapter 15: the law 'FnGrows' walked. Made by program (genlawgr.py). -/
namespace Go.Proofs.YtncgpfapepminaaDoor
open Go.RowKit

theorem Tryd.fldRr1g (x a b c d y z : Value) (w : World) : (Instr.field 31 (.agg #[x, a, b, c, d, y, z]) 1).run Tryd.prog w = .ok (.agg #[a, b, c, d, y, z]) w := by
  simp [Instr.field, run_underlying Tryd.underlying31, run_underlying Tryd.underlying27, asAgg, part, isAgg]
theorem Tryd.fldIr1 (x y : Value) (w : World) : (Instr.field 40 (.agg #[x, y]) 1).run Tryd.prog w = .ok y w := by
  simp [Instr.field, run_underlying Tryd.underlying40, asAgg, part, isAgg, run_underlying Tryd.underlying2]
theorem sameR_sameg (r : Rf) : sameR r r = true := by simp [sameR]
/-- Is the list there already, its first k entries? -/
def smB (Q : Rf) (ls : List Oj) (a : Nat) : Nat → Bool
  | 0 => true
  | k + 1 => smB Q ls a k && (decide (a + k < Q.lg.length) && decide ((Q.lg.getD (a + k) oj0).2.1 = (ls.getD k oj0).2.1))
theorem smB_iff {Q : Rf} {ls : List Oj} {a : Nat} : ∀ k, smB Q ls a k = true ↔ ∀ j, j < k → a + j < Q.lg.length ∧ (Q.lg.getD (a + j) oj0).2.1 = (ls.getD j oj0).2.1
  | 0 => by simp [smB]
  | k + 1 => by
    rw [smB, Bool.and_eq_true, smB_iff k, Bool.and_eq_true, decide_eq_true_eq, decide_eq_true_eq]
    constructor
    · rintro ⟨h1, h2⟩ j hj
      by_cases e : j = k
      · subst e; exact h2
      · exact h1 j (by omega)
    · intro h
      exact ⟨fun j hj => h j (by omega), h k (by omega)⟩
/-- What an append leaves, and what the store was. -/
structure GrL (Q X : Rf) (p t : Int) (ls : List Oj) (a : Nat) : Prop where
  rf : rfF X = 0
  pe : p = Q.si + (a : Int)
  al : a ≤ Q.lg.length
  xl : a + ls.length ≤ X.lg.length
  tk : X.lg.take a = Q.lg.take a
  tv : taV X p = t
  ent : ∀ j, j < ls.length → (X.lg.getD (a + j) oj0).1 = (ls.getD j oj0).1 ∧ (X.lg.getD (a + j) oj0).2.1 = (ls.getD j oj0).2.1
  same : smB Q ls a ls.length = true → X = Q
  other : smB Q ls a ls.length = false → X.lg.length = a + ls.length
  again : apRC X p t ls = 0 ∧ apRR X p t ls = X
  s0 : 0 ≤ Q.si
  s1 : Q.si ≤ 9999
  ln : X.lg.length ≤ 14
theorem GrL.of {Q : Rf} {p t : Int} {ls : List Oj} (h : apRC Q p t ls = 0) : ∃ a, GrL Q (apRR Q p t ls) p t ls a := by
  have e : apRR Q p t ls = { Q with lg := apL Q p ls } := by unfold apRR; rw [if_pos h]
  have ho := ap_ok_iff.1 h
  obtain ⟨r1, r2, r3⟩ := ap_rf ho
  obtain ⟨h2, hL2⟩ := ap_again ho
  obtain ⟨_, _, ⟨s0, s1⟩, _, _, _⟩ := rf_nums ho.rf
  obtain ⟨a, hi, ha, hlen, htk, hin, _, hsame, hor⟩ := apL_spec ho
  rw [e]
  refine ⟨a, ⟨r1, hi, ha, hlen, htk, by rw [(ta_ok r1).2]; exact r3, fun j hj => ⟨?_, (hin j hj).1⟩, fun hs => ?_, fun hs => ?_, ⟨ap_ok_iff.2 h2, ?_⟩, s0, s1, ho.len⟩⟩
  · have k1 := (rlog_at r1 (a + j) (by show a + j < (apL Q p ls).length; omega)).1
    have hne : ls ≠ [] := by rintro rfl; exact absurd hj (Nat.not_lt_zero _)
    have k2 := (ho.fit hne).1
    have k3 := log_at ho.lo j hj
    rw [k1, k3]
    show Q.si + 1 + ((a + j : Nat) : Int) = _
    omega
  · have := hsame ((smB_iff _).1 hs)
    rw [this]
  · rcases hor with ⟨_, hall⟩ | hl
    · rw [(smB_iff _).2 hall] at hs; exact absurd hs (by decide)
    · exact hl
  · unfold apRR
    rw [if_pos (ap_ok_iff.2 h2), hL2]
theorem sliceUpto (az : Option Addr) (n c m : Nat) (h : m ≤ c) (w : World) : (Instr.sliceAt 25 (.slice az n c) none (some (.int .i64 (m : Int))) none).run Tryd.prog w = .ok (.slice az m c) w := by
  have h1 : (m : Int) ≤ (c : Int) := by omega
  cases az with
  | none => simp [go_sem, h1, Tryd.underlying25]
  | some ad => obtain ⟨b, off, x⟩ := ad; simp [go_sem, h1, Tryd.underlying25, Addr.add]
theorem RdJ.atG {S : Nat → Prop} {w : World} {ao : Option Addr} {n c k : Nat} {os : List Oj} (h : RdJ S w (.slice ao n c) os) (hk : k < os.length) :
    ∃ b off v, ao = some ⟨b, off, none⟩ ∧ w.cell? ⟨b, off + k * 3, none⟩ = some (.int .i64 (os.getD k oj0).1) ∧ w.cell? ⟨b, off + k * 3 + 1, none⟩ = some (.int .i64 (os.getD k oj0).2.1) ∧ w.cell? ⟨b, off + k * 3 + 2, none⟩ = some v ∧ RdI S w v (os.getD k oj0).2.2 := by
  obtain ⟨ao', c', e, _, h3⟩ := h
  injection e with e1 e2 e3
  subst e1
  obtain ⟨b, off, V, e, _, hc⟩ := h3 (by rintro rfl; exact absurd hk (Nat.not_lt_zero _))
  obtain ⟨k0, k1, k2, k3⟩ := hc k hk
  exact ⟨b, off, V k, e, k0, k1, k2, k3⟩

set_option linter.unusedSimpArgs false in
set_option maxHeartbeats 40000000 in
set_option maxRecDepth 4000 in
theorem lawGrows {s0 : Nat} {w : World} {v : Value} {bs : List Nat} (hv : RdB s0 w v bs) (hsm : bs.length ≤ 1048576) (hg : Gl w) :
    Calls Tryd.prog 4 #[v] w fun e w' => e = .returned (.bool true) ∧ Below w.heap.size w w' := by
  have HV : Hid (RdB w.heap.size w v bs) := RdB.freshH hv
  have HG := hide hg
  have fR0 := Tryd.fldRr0
  have fR1 := Tryd.fldRr1g
  have fI1 := Tryd.fldIr1
  obtain ⟨ao, c, rfl, hle, h3⟩ := hv
  clear h3 hg
  go_enter Tryd.func4, Tryd.ntmps4
  go_wp2_with fail
  refine (lwBig ao bs.length c w (by omega)).mono ?_
  rintro e wx ⟨he, hwx⟩
  rw [decide_eq_false (by omega : ¬ (1048576 < bs.length))] at he
  rw [he, hwx]
  clear he hwx wx
  go_wp2_with fail
  refine (drawAppendRaft HV.out).mono ?_
  rintro e w1 ⟨Q, y, z, vl, p, t, ls, rfl, hb1, hiv, hrow, hll, hlens⟩
  obtain ⟨ay, cy, az, cz, ey, ez⟩ := hiv.shape
  subst ey
  subst ez
  have hcv := hrow.capR
  have hu := hrow.rd rfl (by omega) (fun i hi => by have := hlens i hi; omega)
  obtain ⟨au, cu, eu⟩ := hrow.shape
  subst eu
  have bA := below_alloc w1 (.cells #[.int .i64 Q.tm, .int .i64 Q.vt, .int .i64 Q.si, .int .i64 Q.st, .slice ay Q.sn.length cy, .slice az Q.lg.length cz] 27)
  have B1 := hide (below_on hb1 bA)
  have I1 := hide (hiv.later bA)
  have D1 := hide (hu.later bA)
  have HCV := hide hcv
  have V1 := hide (Var6_new w1 (.int .i64 Q.tm) (.int .i64 Q.vt) (.int .i64 Q.si) (.int .i64 Q.st) (.slice ay Q.sn.length cy) (.slice az Q.lg.length cz) 27)
  have G1 := hide ((HG.out.later hb1).later bA)
  clear HV HG hb1 hiv hu hrow hcv hlens bA hsm hle
  go_upto_region 4 with fail
  obtain ⟨W, hW⟩ : ∃ x, w1.alloc (.cells #[.int .i64 Q.tm, .int .i64 Q.vt, .int .i64 Q.si, .int .i64 Q.st, .slice ay Q.sn.length cy, .slice az Q.lg.length cz] 27) = x := ⟨_, rfl⟩
  rw [hW] at B1 I1 D1 V1 G1
  (try rw [hW])
  clear hW
  obtain ⟨RR, hRR⟩ : ∃ x, w1.heap.size = x := ⟨_, rfl⟩
  rw [hRR] at V1
  (try rw [hRR])
  clear hRR
  have KI := hide (implAppendRaft Q p t G1.out I1.out.rdI I1.out.rdJ I1.out.capE D1.out HCV.out)
  have KS := hide (fun (w' : World) (hb : Below W.heap.size W w') => specAppendRaft Q p t (I1.out.later hb).rdI (I1.out.later hb).rdJ (I1.out.later hb).capE (D1.out.later hb) HCV.out)
  have HL := hide (fun h : apRC Q p t ls = 0 => GrL.of h)
  generalize apRR Q p t ls = X at KI KS HL
  generalize apRC Q p t ls = C at KI KS HL
  obtain ⟨v0, v1, v2, v3, v4, v5⟩ := V1.out
  go_wp2_with fail
  refine (KI.out).mono ?_
  rintro e w2 ⟨y2, z2, rfl, hb2, ho2⟩
  obtain ⟨a2, k2, g2, j2, rfl, rfl⟩ := ho2.shape
  have bA := below_alloc w2 (.cells #[.int .i64 C, .int .i64 X.tm, .int .i64 X.vt, .int .i64 X.si, .int .i64 X.st, .slice a2 X.sn.length k2, .slice g2 X.lg.length j2] 31)
  have B2 := hide (below_on hb2 bA)
  have I2 := hide (I1.out.later B2.out)
  have D2 := hide (D1.out.later B2.out)
  have J2 := hide (ho2.later bA)
  have V2 := hide (V1.out.later B2.out)
  have G2 := hide (G1.out.later B2.out)
  have U2 := hide (Var7_new w2 (.int .i64 C) (.int .i64 X.tm) (.int .i64 X.vt) (.int .i64 X.si) (.int .i64 X.st) (.slice a2 X.sn.length k2) (.slice g2 X.lg.length j2) 31)
  clear KI hb2 ho2 bA v0 v1 v2 v3 v4 v5
  go_upto_region 5 with fail
  obtain ⟨W2, hW2⟩ : ∃ x, w2.alloc (.cells #[.int .i64 C, .int .i64 X.tm, .int .i64 X.vt, .int .i64 X.si, .int .i64 X.st, .slice a2 X.sn.length k2, .slice g2 X.lg.length j2] 31) = x := ⟨_, rfl⟩
  rw [hW2] at B2 I2 D2 J2 V2 G2 U2
  (try rw [hW2])
  clear hW2
  obtain ⟨UU, hUU⟩ : ∃ x, w2.heap.size = x := ⟨_, rfl⟩
  rw [hUU] at U2
  (try rw [hUU])
  clear hUU
  obtain ⟨v0, v1, v2, v3, v4, v5⟩ := V2.out
  obtain ⟨m0, m1, m2, m3, m4, m5, m6⟩ := U2.out
  by_cases hC : C = 0
  · subst hC
    obtain ⟨a, hd⟩ := HL.out rfl
    have HD := hide hd
    clear hd
    clear HL I1 D1 V1 G1
    have KR := hide (fun (w' : World) (hb : Below W2.heap.size W2 w') => implRaftFault X (J2.out.later hb).rdI (J2.out.later hb).rdJ)
    have KT := hide (fun (w' : World) (hb : Below W2.heap.size W2 w') => implTermAt X p (G2.out.later hb) (J2.out.later hb).rdI (J2.out.later hb).rdJ)
    have KA := hide (fun (w' : World) (hb : Below W2.heap.size W2 w') => implAppendRaft X p t (G2.out.later hb) (J2.out.later hb).rdI (J2.out.later hb).rdJ (J2.out.later hb).capE (D2.out.later hb) HCV.out)
    have hpe := HD.out.pe
    have hs0 := HD.out.s0
    have hs1 := HD.out.s1
    have hln := HD.out.ln
    have hal := HD.out.al
    have hxl := HD.out.xl
    have hcx : X.lg.length ≤ j2 := J2.out.capE
    have hcq : Q.lg.length ≤ cz := I2.out.capE
    have KE := hide (fun (w' : World) (hb : Below W2.heap.size W2 w') => implSameEntries ((J2.out.later hb).rdJ.uptoE a (by omega)) ((I2.out.later hb).rdJ.uptoE a hal))
    rw [HD.out.rf] at KR
    rw [HD.out.tv] at KT
    rw [HD.out.tk, decide_eq_true rfl] at KE
    rw [HD.out.again.1, HD.out.again.2] at KA
    generalize taC X p = cx at KT
    have hsl1 := sliceUpto g2 X.lg.length j2 a (by omega)
    have hsl2 := sliceUpto az Q.lg.length cz a (by omega)
    have hwp : IntKind.i64.wrap (p - Q.si) = (a : Int) := by rw [hpe, show Q.si + (a : Int) - Q.si = (a : Int) by omega]; simp [IntKind.wrap, IntKind.bits, IntKind.signed]; omega
    have hwl : IntKind.i64.wrap ((a : Int) + (ls.length : Int)) = (a : Int) + (ls.length : Int) := by simp [IntKind.wrap, IntKind.bits, IntKind.signed]; omega
    have e1 : decide ((X.lg.length : Int) < (a : Int) + (ls.length : Int)) = false := decide_eq_false (by omega)
    have HPE := hide hpe
    clear hpe
    go_upto_region 9 with fail
    clear v0 v1 v2 v3 v4 v5 m0 m1 m2 m3 m4 m5 m6
    refine wp_region_held_drew (S := fun w' => Below W2.heap.size W2 w') (by kernel_rfl) (below_on (Below.refl _ _) (below_drewN W2 1)) (fun hHeld => ?_)
    refine forgetH (fun wx => Below W2.heap.size W2 wx) hHeld ?_
    clear hHeld
    rintro Y0 hHeld
    have HY0 := hide hHeld
    refine wpAnyH_take (i := 0) (v := ?vr1x0) rfl (by kernel_rfl) (by kernel_rfl) (by kernel_rfl) (fun _ _ _ h => h) (Or.inl ⟨by rfl, ?hr1x0⟩) hHeld ?rr1x0
    case hr1x0 => intro w9 hSw; (try dsimp only at hSw); first | (go_simp; done) | (go_simp; with_reducible rfl)
    try simp only [Act.put, List.setIfInBounds_toArray, List.set_cons_zero, List.set_cons_succ, List.getElem_toArray, List.getElem_cons_zero]
    refine wpAnyH_take (i := 1) (v := ?vr2x1) rfl (by kernel_rfl) (by kernel_rfl) (by kernel_rfl) (fun _ _ _ h => h) (Or.inl ⟨by rfl, ?hr2x1⟩) hHeld ?rr2x1
    case hr2x1 => intro w9 hSw; (try dsimp only at hSw); obtain ⟨v0, v1, v2, v3, v4, v5⟩ := V2.out.later hSw; obtain ⟨m0, m1, m2, m3, m4, m5, m6⟩ := U2.out.later hSw; first | (go_simp; done) | (go_simp; with_reducible rfl)
    try simp only [Act.put, List.setIfInBounds_toArray, List.set_cons_zero, List.set_cons_succ, List.getElem_toArray, List.getElem_cons_zero, List.getElem_cons_succ]
    refine wpAnyH_ready (rs := [2]) (by kernel_rfl) (by simp) (AllReadyH.cons rfl (fun K9 hK => ?_) AllReadyH.nil)
    go_simp
    go_at_call 10
    refine (KR.out _ HY0.out).mono ?_
    rintro e Y1 ⟨rfl, hb9⟩
    have HY1 := hide (below_on HY0.out hb9)
    clear hb9 hHeld
    refine hK.out _ _ HY1.out (fun hHeld => ?_)
    clear hK K9
    try simp only [Act.put, List.setIfInBounds_toArray, List.set_cons_zero, List.set_cons_succ, List.getElem_toArray, List.getElem_cons_zero, List.getElem_cons_succ]
    refine wpAnyH_take (i := 3) (v := ?vr3x3) rfl (by kernel_rfl) (by kernel_rfl) (by kernel_rfl) (fun _ _ _ h => h) (Or.inl ⟨by rfl, ?hr3x3⟩) hHeld ?rr3x3
    case hr3x3 => intro w9 hSw; (try dsimp only at hSw); first | (go_simp; done) | (go_simp; with_reducible rfl)
    try simp only [Act.put, List.setIfInBounds_toArray, List.set_cons_zero, List.set_cons_succ, List.getElem_toArray, List.getElem_cons_zero, List.getElem_cons_succ]
    refine wpAnyH_take (i := 4) (v := ?vr4x4) rfl (by kernel_rfl) (by kernel_rfl) (by kernel_rfl) (fun _ _ _ h => h) (Or.inl ⟨by rfl, ?hr4x4⟩) hHeld ?rr4x4
    case hr4x4 => intro w9 hSw; (try dsimp only at hSw); first | (go_simp; done) | (go_simp; with_reducible rfl)
    try simp only [Act.put, List.setIfInBounds_toArray, List.set_cons_zero, List.set_cons_succ, List.getElem_toArray, List.getElem_cons_zero, List.getElem_cons_succ]
    refine wpAnyH_take (i := 5) (v := ?vr5x5) rfl (by kernel_rfl) (by kernel_rfl) (by kernel_rfl) (fun _ _ _ h => h) (Or.inl ⟨by rfl, ?hr5x5⟩) hHeld ?rr5x5
    case hr5x5 => intro w9 hSw; (try dsimp only at hSw); first | (go_simp; done) | (go_simp; with_reducible rfl)
    try simp only [Act.put, List.setIfInBounds_toArray, List.set_cons_zero, List.set_cons_succ, List.getElem_toArray, List.getElem_cons_zero, List.getElem_cons_succ]
    refine wpAnyH_take (i := 6) (v := ?vr6x6) rfl (by kernel_rfl) (by kernel_rfl) (by kernel_rfl) (fun _ _ _ h => h) (Or.inl ⟨by rfl, ?hr6x6⟩) hHeld ?rr6x6
    case hr6x6 => intro w9 hSw; (try dsimp only at hSw); first | (go_simp; done) | (go_simp; with_reducible rfl)
    try simp only [Act.put, List.setIfInBounds_toArray, List.set_cons_zero, List.set_cons_succ, List.getElem_toArray, List.getElem_cons_zero, List.getElem_cons_succ]
    refine wpAnyH_take (i := 7) (v := ?vr7x7) rfl (by kernel_rfl) (by kernel_rfl) (by kernel_rfl) (fun _ _ _ h => h) (Or.inl ⟨by rfl, ?hr7x7⟩) hHeld ?rr7x7
    case hr7x7 => intro w9 hSw; (try dsimp only at hSw); first | (go_simp; done) | (go_simp; with_reducible rfl)
    try simp only [Act.put, List.setIfInBounds_toArray, List.set_cons_zero, List.set_cons_succ, List.getElem_toArray, List.getElem_cons_zero, List.getElem_cons_succ]
    refine wpAnyH_take (i := 8) (v := ?vr8x8) rfl (by kernel_rfl) (by kernel_rfl) (by kernel_rfl) (fun _ _ _ h => h) (Or.inl ⟨by rfl, ?hr8x8⟩) hHeld ?rr8x8
    case hr8x8 => intro w9 hSw; (try dsimp only at hSw); first | (go_simp; done) | (go_simp; with_reducible rfl)
    try simp only [Act.put, List.setIfInBounds_toArray, List.set_cons_zero, List.set_cons_succ, List.getElem_toArray, List.getElem_cons_zero, List.getElem_cons_succ]
    refine wpAnyH_take (i := 9) (v := ?vr9x9) rfl (by kernel_rfl) (by kernel_rfl) (by kernel_rfl) (fun _ _ _ h => h) (Or.inl ⟨by rfl, ?hr9x9⟩) hHeld ?rr9x9
    case hr9x9 => intro w9 hSw; (try dsimp only at hSw); first | (go_simp; done) | (go_simp; with_reducible rfl)
    try simp only [Act.put, List.setIfInBounds_toArray, List.set_cons_zero, List.set_cons_succ, List.getElem_toArray, List.getElem_cons_zero, List.getElem_cons_succ]
    refine wpAnyH_take (i := 10) (v := ?vr10x10) rfl (by kernel_rfl) (by kernel_rfl) (by kernel_rfl) (fun _ _ _ h => h) (Or.inl ⟨by rfl, ?hr10x10⟩) hHeld ?rr10x10
    case hr10x10 => intro w9 hSw; (try dsimp only at hSw); first | (go_simp; done) | (go_simp; with_reducible rfl)
    try simp only [Act.put, List.setIfInBounds_toArray, List.set_cons_zero, List.set_cons_succ, List.getElem_toArray, List.getElem_cons_zero, List.getElem_cons_succ]
    refine wpAnyH_take (i := 11) (v := ?vr11x11) rfl (by kernel_rfl) (by kernel_rfl) (by kernel_rfl) (fun _ _ _ h => h) (Or.inl ⟨by rfl, ?hr11x11⟩) hHeld ?rr11x11
    case hr11x11 => intro w9 hSw; (try dsimp only at hSw); first | (go_simp; done) | (go_simp; with_reducible rfl)
    try simp only [Act.put, List.setIfInBounds_toArray, List.set_cons_zero, List.set_cons_succ, List.getElem_toArray, List.getElem_cons_zero, List.getElem_cons_succ]
    refine wpAnyH_take (i := 12) (v := ?vr12x12) rfl (by kernel_rfl) (by kernel_rfl) (by kernel_rfl) (fun _ _ _ h => h) (Or.inl ⟨by rfl, ?hr12x12⟩) hHeld ?rr12x12
    case hr12x12 => intro w9 hSw; (try dsimp only at hSw); first | (go_simp; done) | (go_simp; with_reducible rfl)
    try simp only [Act.put, List.setIfInBounds_toArray, List.set_cons_zero, List.set_cons_succ, List.getElem_toArray, List.getElem_cons_zero, List.getElem_cons_succ]
    refine wpAnyH_take (i := 13) (v := ?vr13x13) rfl (by kernel_rfl) (by kernel_rfl) (by kernel_rfl) (fun _ _ _ h => h) (Or.inl ⟨by rfl, ?hr13x13⟩) hHeld ?rr13x13
    case hr13x13 => intro w9 hSw; (try dsimp only at hSw); first | (go_simp; done) | (go_simp; with_reducible rfl)
    try simp only [Act.put, List.setIfInBounds_toArray, List.set_cons_zero, List.set_cons_succ, List.getElem_toArray, List.getElem_cons_zero, List.getElem_cons_succ]
    refine wpAnyH_take (i := 14) (v := ?vr14x14) rfl (by kernel_rfl) (by kernel_rfl) (by kernel_rfl) (fun _ _ _ h => h) (Or.inl ⟨by rfl, ?hr14x14⟩) hHeld ?rr14x14
    case hr14x14 => intro w9 hSw; (try dsimp only at hSw); first | (go_simp; done) | (go_simp; with_reducible rfl)
    try simp only [Act.put, List.setIfInBounds_toArray, List.set_cons_zero, List.set_cons_succ, List.getElem_toArray, List.getElem_cons_zero, List.getElem_cons_succ]
    refine wpAnyH_take (i := 15) (v := ?vr15x15) rfl (by kernel_rfl) (by kernel_rfl) (by kernel_rfl) (fun _ _ _ h => h) (Or.inl ⟨by rfl, ?hr15x15⟩) hHeld ?rr15x15
    case hr15x15 => intro w9 hSw; (try dsimp only at hSw); obtain ⟨v0, v1, v2, v3, v4, v5⟩ := V2.out.later hSw; obtain ⟨m0, m1, m2, m3, m4, m5, m6⟩ := U2.out.later hSw; first | (go_simp; done) | (go_simp; with_reducible rfl)
    try simp only [Act.put, List.setIfInBounds_toArray, List.set_cons_zero, List.set_cons_succ, List.getElem_toArray, List.getElem_cons_zero, List.getElem_cons_succ]
    refine wpAnyH_take (i := 16) (v := ?vr16x16) rfl (by kernel_rfl) (by kernel_rfl) (by kernel_rfl) (fun _ _ _ h => h) (Or.inl ⟨by rfl, ?hr16x16⟩) hHeld ?rr16x16
    case hr16x16 => intro w9 hSw; (try dsimp only at hSw); first | (go_simp; done) | (go_simp; with_reducible rfl)
    try simp only [Act.put, List.setIfInBounds_toArray, List.set_cons_zero, List.set_cons_succ, List.getElem_toArray, List.getElem_cons_zero, List.getElem_cons_succ]
    refine wpAnyH_take (i := 17) (v := ?vr17x17) rfl (by kernel_rfl) (by kernel_rfl) (by kernel_rfl) (fun _ _ _ h => h) (Or.inl ⟨by rfl, ?hr17x17⟩) hHeld ?rr17x17
    case hr17x17 => intro w9 hSw; (try dsimp only at hSw); first | (go_simp; done) | (go_simp; with_reducible rfl) | (go_simp; rw [hsl1]; done) | (go_simp; rw [hsl1]; rfl)
    try simp only [Act.put, List.setIfInBounds_toArray, List.set_cons_zero, List.set_cons_succ, List.getElem_toArray, List.getElem_cons_zero, List.getElem_cons_succ]
    refine wpAnyH_take (i := 18) (v := ?vr18x18) rfl (by kernel_rfl) (by kernel_rfl) (by kernel_rfl) (fun _ _ _ h => h) (Or.inl ⟨by rfl, ?hr18x18⟩) hHeld ?rr18x18
    case hr18x18 => intro w9 hSw; (try dsimp only at hSw); first | (go_simp; done) | (go_simp; with_reducible rfl)
    try simp only [Act.put, List.setIfInBounds_toArray, List.set_cons_zero, List.set_cons_succ, List.getElem_toArray, List.getElem_cons_zero, List.getElem_cons_succ]
    refine wpAnyH_take (i := 19) (v := ?vr19x19) rfl (by kernel_rfl) (by kernel_rfl) (by kernel_rfl) (fun _ _ _ h => h) (Or.inl ⟨by rfl, ?hr19x19⟩) hHeld ?rr19x19
    case hr19x19 => intro w9 hSw; (try dsimp only at hSw); obtain ⟨v0, v1, v2, v3, v4, v5⟩ := V2.out.later hSw; obtain ⟨m0, m1, m2, m3, m4, m5, m6⟩ := U2.out.later hSw; first | (go_simp; done) | (go_simp; with_reducible rfl)
    try simp only [Act.put, List.setIfInBounds_toArray, List.set_cons_zero, List.set_cons_succ, List.getElem_toArray, List.getElem_cons_zero, List.getElem_cons_succ]
    refine wpAnyH_take (i := 20) (v := ?vr20x20) rfl (by kernel_rfl) (by kernel_rfl) (by kernel_rfl) (fun _ _ _ h => h) (Or.inl ⟨by rfl, ?hr20x20⟩) hHeld ?rr20x20
    case hr20x20 => intro w9 hSw; (try dsimp only at hSw); first | (go_simp; done) | (go_simp; with_reducible rfl)
    try simp only [Act.put, List.setIfInBounds_toArray, List.set_cons_zero, List.set_cons_succ, List.getElem_toArray, List.getElem_cons_zero, List.getElem_cons_succ]
    refine wpAnyH_take (i := 21) (v := ?vr21x21) rfl (by kernel_rfl) (by kernel_rfl) (by kernel_rfl) (fun _ _ _ h => h) (Or.inl ⟨by rfl, ?hr21x21⟩) hHeld ?rr21x21
    case hr21x21 => intro w9 hSw; (try dsimp only at hSw); first | (go_simp; done) | (go_simp; with_reducible rfl) | (go_simp; rw [hsl2]; done) | (go_simp; rw [hsl2]; rfl)
    try simp only [Act.put, List.setIfInBounds_toArray, List.set_cons_zero, List.set_cons_succ, List.getElem_toArray, List.getElem_cons_zero, List.getElem_cons_succ]
    refine wpAnyH_ready (rs := [22]) (by kernel_rfl) (by simp) (AllReadyH.cons rfl (fun K9 hK => ?_) AllReadyH.nil)
    go_simp
    go_at_call 12
    refine (KE.out _ HY1.out).mono ?_
    rintro e Y2 ⟨rfl, hb9⟩
    have HY2 := hide (below_on HY1.out hb9)
    clear hb9 hHeld
    refine hK.out _ _ HY2.out (fun hHeld => ?_)
    clear hK K9
    try simp only [Act.put, List.setIfInBounds_toArray, List.set_cons_zero, List.set_cons_succ, List.getElem_toArray, List.getElem_cons_zero, List.getElem_cons_succ]
    refine wpAnyH_take (i := 23) (v := ?vr22x23) rfl (by kernel_rfl) (by kernel_rfl) (by kernel_rfl) (fun _ _ _ h => h) (Or.inl ⟨by rfl, ?hr22x23⟩) hHeld ?rr22x23
    case hr22x23 => intro w9 hSw; (try dsimp only at hSw); first | (go_simp; done) | (go_simp; with_reducible rfl)
    try simp only [Act.put, List.setIfInBounds_toArray, List.set_cons_zero, List.set_cons_succ, List.getElem_toArray, List.getElem_cons_zero, List.getElem_cons_succ]
    refine wpAnyH_take (i := 24) (v := ?vr23x24) rfl (by kernel_rfl) (by kernel_rfl) (by kernel_rfl) (fun _ _ _ h => h) (Or.inl ⟨by rfl, ?hr23x24⟩) hHeld ?rr23x24
    case hr23x24 => intro w9 hSw; (try dsimp only at hSw); first | (go_simp; done) | (go_simp; with_reducible rfl)
    try simp only [Act.put, List.setIfInBounds_toArray, List.set_cons_zero, List.set_cons_succ, List.getElem_toArray, List.getElem_cons_zero, List.getElem_cons_succ]
    refine wpAnyH_take (i := 25) (v := ?vr24x25) rfl (by kernel_rfl) (by kernel_rfl) (by kernel_rfl) (fun _ _ _ h => h) (Or.inl ⟨by rfl, ?hr24x25⟩) hHeld ?rr24x25
    case hr24x25 => intro w9 hSw; (try dsimp only at hSw); first | (go_simp; done) | (go_simp; with_reducible rfl)
    try simp only [Act.put, List.setIfInBounds_toArray, List.set_cons_zero, List.set_cons_succ, List.getElem_toArray, List.getElem_cons_zero, List.getElem_cons_succ]
    refine wpAnyH_take (i := 26) (v := ?vr25x26) rfl (by kernel_rfl) (by kernel_rfl) (by kernel_rfl) (fun _ _ _ h => h) (Or.inl ⟨by rfl, ?hr25x26⟩) hHeld ?rr25x26
    case hr25x26 => intro w9 hSw; (try dsimp only at hSw); first | (go_simp; done) | (go_simp; with_reducible rfl)
    try simp only [Act.put, List.setIfInBounds_toArray, List.set_cons_zero, List.set_cons_succ, List.getElem_toArray, List.getElem_cons_zero, List.getElem_cons_succ]
    refine wpAnyH_take (i := 27) (v := ?vr26x27) rfl (by kernel_rfl) (by kernel_rfl) (by kernel_rfl) (fun _ _ _ h => h) (Or.inl ⟨by rfl, ?hr26x27⟩) hHeld ?rr26x27
    case hr26x27 => intro w9 hSw; (try dsimp only at hSw); obtain ⟨v0, v1, v2, v3, v4, v5⟩ := V2.out.later hSw; obtain ⟨m0, m1, m2, m3, m4, m5, m6⟩ := U2.out.later hSw; first | (go_simp; done) | (go_simp; with_reducible rfl)
    try simp only [Act.put, List.setIfInBounds_toArray, List.set_cons_zero, List.set_cons_succ, List.getElem_toArray, List.getElem_cons_zero, List.getElem_cons_succ]
    refine wpAnyH_take (i := 28) (v := ?vr27x28) rfl (by kernel_rfl) (by kernel_rfl) (by kernel_rfl) (fun _ _ _ h => h) (Or.inl ⟨by rfl, ?hr27x28⟩) hHeld ?rr27x28
    case hr27x28 => intro w9 hSw; (try dsimp only at hSw); first | (go_simp; done) | (go_simp; with_reducible rfl)
    try simp only [Act.put, List.setIfInBounds_toArray, List.set_cons_zero, List.set_cons_succ, List.getElem_toArray, List.getElem_cons_zero, List.getElem_cons_succ]
    refine wpAnyH_take (i := 31) (v := ?vr28x31) rfl (by kernel_rfl) (by kernel_rfl) (by kernel_rfl) (fun _ _ _ h => h) (Or.inl ⟨by rfl, ?hr28x31⟩) hHeld ?rr28x31
    case hr28x31 => intro w9 hSw; (try dsimp only at hSw); first | (go_simp; done) | (go_simp; with_reducible rfl)
    try simp only [Act.put, List.setIfInBounds_toArray, List.set_cons_zero, List.set_cons_succ, List.getElem_toArray, List.getElem_cons_zero, List.getElem_cons_succ]
    refine wpAnyH_ready (rs := [29]) (by kernel_rfl) (by simp) (AllReadyH.cons rfl (fun K9 hK => ?_) AllReadyH.nil)
    go_simp
    go_at_call 16
    refine (KT.out _ HY2.out).mono ?_
    rintro e Y3 ⟨rfl, hb9⟩
    have HY3 := hide (below_on HY2.out hb9)
    clear hb9 hHeld
    refine hK.out _ _ HY3.out (fun hHeld => ?_)
    clear hK K9
    try simp only [Act.put, List.setIfInBounds_toArray, List.set_cons_zero, List.set_cons_succ, List.getElem_toArray, List.getElem_cons_zero, List.getElem_cons_succ]
    refine wpAnyH_take (i := 30) (v := ?vr29x30) rfl (by kernel_rfl) (by kernel_rfl) (by kernel_rfl) (fun _ _ _ h => h) (Or.inl ⟨by rfl, ?hr29x30⟩) hHeld ?rr29x30
    case hr29x30 => intro w9 hSw; (try dsimp only at hSw); first | (go_simp; done) | (go_simp; with_reducible rfl) | (go_simp; rw [fI1]; done) | (go_simp; rw [fI1]; rfl)
    try simp only [Act.put, List.setIfInBounds_toArray, List.set_cons_zero, List.set_cons_succ, List.getElem_toArray, List.getElem_cons_zero, List.getElem_cons_succ]
    refine wpAnyH_take (i := 32) (v := ?vr30x32) rfl (by kernel_rfl) (by kernel_rfl) (by kernel_rfl) (fun _ _ _ h => h) (Or.inl ⟨by rfl, ?hr30x32⟩) hHeld ?rr30x32
    case hr30x32 => intro w9 hSw; (try dsimp only at hSw); first | (go_simp; done) | (go_simp; with_reducible rfl)
    try simp only [Act.put, List.setIfInBounds_toArray, List.set_cons_zero, List.set_cons_succ, List.getElem_toArray, List.getElem_cons_zero, List.getElem_cons_succ]
    refine wpAnyH_take (i := 33) (v := ?vr31x33) rfl (by kernel_rfl) (by kernel_rfl) (by kernel_rfl) (fun _ _ _ h => h) (Or.inl ⟨by rfl, ?hr31x33⟩) hHeld ?rr31x33
    case hr31x33 => intro w9 hSw; (try dsimp only at hSw); first | (go_simp; done) | (go_simp; with_reducible rfl)
    try simp only [Act.put, List.setIfInBounds_toArray, List.set_cons_zero, List.set_cons_succ, List.getElem_toArray, List.getElem_cons_zero, List.getElem_cons_succ]
    refine wpAnyH_done (by kernel_rfl) ?_ _
    clear hHeld KR KT KE HY0 HY1 HY2 hsl1 hsl2 hwl e1 hwp
    go_wp2
    go_loopw [10, 11] (fun sm i wr => ∃ k : Nat, k ≤ ls.length ∧ sm = .bool (smB Q ls a k) ∧ i = .int .i64 (k : Int) ∧ Hid (Below W2.heap.size W2 wr)) (fun _ i _ => ls.length - (RowKit.intOf i).toNat)
    case atStart => exact ⟨0, Nat.zero_le _, rfl, rfl, HY3.out⟩
    case round =>
      obtain ⟨k, hk, rfl, rfl, HB⟩ := hrel
      obtain ⟨v0, v1, v2, v3, v4, v5⟩ := V2.out.later HB.out
      obtain ⟨m0, m1, m2, m3, m4, m5, m6⟩ := U2.out.later HB.out
      by_cases hlt : k < ls.length
      · skip
        obtain ⟨J, hJ⟩ : ∃ J, a + k = J := ⟨_, rfl⟩
        have hwk : IntKind.i64.wrap ((a : Int) + (k : Int)) = (J : Int) := by rw [← hJ]; simp [IntKind.wrap, IntKind.bits, IntKind.signed]; omega
        have hJX : J < X.lg.length := by omega
        obtain ⟨ent0, ent1⟩ := HD.out.ent k hlt
        rw [hJ] at ent0 ent1
        obtain ⟨bx, ox, vx, exg, x0, x1, x2, hxd⟩ := (J2.out.later HB.out).rdJ.atG hJX
        rw [ent0] at x0
        rw [ent1] at x1
        obtain ⟨bl, ol, vd, elg, l0, l1, l2, hld⟩ := (D2.out.later HB.out).atG hlt
        obtain ⟨axd, cxd, exd⟩ := hxd.shape
        subst exd
        obtain ⟨nd, hnd⟩ : ∃ nd, (X.lg.getD J oj0).2.2.length = nd := ⟨_, rfl⟩
        rw [hnd] at x2
        have Hsm : Hid (smB Q ls a (k + 1) = (smB Q ls a k && (decide (J < Q.lg.length) && decide ((Q.lg.getD J oj0).2.1 = (ls.getD k oj0).2.1)))) := by rw [Hid, ← hJ]; rfl
        generalize (ls.getD k oj0).1 = d0 at x0 l0
        generalize (ls.getD k oj0).2.1 = d1 at x1 l1 Hsm
        clear ent0 ent1 hxd hld hnd l2
        obtain ⟨B, hB⟩ : ∃ B, smB Q ls a k = B := ⟨_, rfl⟩
        rw [hB] at Hsm
        (try rw [hB])
        clear hB
        have hJXi : (J : Int) < (X.lg.length : Int) := by omega
        have hlti : (k : Int) < (ls.length : Int) := by omega
        have HJ := hide hJ
        clear hJ
        subst exg
        subst elg
        go_upto_region 16 with fail
        have bA := below_alloc wr (.cells #[.int .i64 d0, .int .i64 d1, .slice axd nd cxd] 43)
        have HBa := hide (below_on HB.out bA)
        have n0 : (wr.alloc (.cells #[.int .i64 d0, .int .i64 d1, .slice axd nd cxd] 43)).cell? ⟨wr.heap.size, 0, none⟩ = some (.int .i64 d0) := by simp [go_sem]
        have n1 : (wr.alloc (.cells #[.int .i64 d0, .int .i64 d1, .slice axd nd cxd] 43)).cell? ⟨wr.heap.size, 1, none⟩ = some (.int .i64 d1) := by simp [go_sem]
        replace l0 := cell_later bA l0
        replace l1 := cell_later bA l1
        obtain ⟨W5, hW5⟩ : ∃ x, wr.alloc (.cells #[.int .i64 d0, .int .i64 d1, .slice axd nd cxd] 43) = x := ⟨_, rfl⟩
        rw [hW5] at HBa n0 n1 l0 l1
        (try rw [hW5])
        clear hW5 bA x0 x1 x2
        clear v0 v1 v2 v3 v4 v5 m0 m1 m2 m3 m4 m5 m6
        obtain ⟨EE, hEE⟩ : ∃ x, wr.heap.size = x := ⟨_, rfl⟩
        rw [hEE] at n0 n1
        (try rw [hEE])
        clear hEE
        go_quiet (fail)
        have hBq := below_drewN W5 nq
        have HBb := hide (below_on HBa.out hBq)
        replace l1 := cell_later hBq l1
        clear hBq n0 n1 l0
        obtain ⟨W6, hW6⟩ : ∃ x, W5.drewN nq = x := ⟨_, rfl⟩
        rw [hW6] at HBb l1
        (try rw [hW6])
        clear hW6
        obtain ⟨v0, v1, v2, v3, v4, v5⟩ := V2.out.later HBb.out
        obtain ⟨m0, m1, m2, m3, m4, m5, m6⟩ := U2.out.later HBb.out
        go_upto_region 18 with fail
        cases B with
        | false =>
          go_quiet (fail)
          have HBc := hide (below_on HBb.out (below_drewN _ nq))
          go_wp2
          go_roundw
          case rel => exact ⟨k + 1, hlt, by rw [Hsm.out]; simp, by go_num, HBc.out⟩
          case measure => simp [RowKit.intOf]; omega
        | true =>
          by_cases hJQ : J < Q.lg.length
          · skip
            have hJQi : (J : Int) < (Q.lg.length : Int) := by omega
            have hJQb : decide ((J : Int) < (Q.lg.length : Int)) = true := decide_eq_true hJQi
            obtain ⟨bq, oq, vq, eqg, q0, q1, q2, _⟩ := (I2.out.later HBb.out).rdJ.atG hJQ
            have HJQ := hide hJQ
            clear hJQ q0 q2
            subst eqg
            generalize (Q.lg.getD J oj0).2.1 = d2 at q1 Hsm
            by_cases hd : d2 = d1
            · subst hd
              go_quiet (fail)
              have HBc := hide (below_on HBb.out (below_drewN _ nq))
              go_wp2
              go_roundw
              case rel => exact ⟨k + 1, hlt, by rw [Hsm.out]; simp [HJQ.out], by go_num, HBc.out⟩
              case measure => simp [RowKit.intOf]; omega
            · have hdb : (d2 == d1) = false := by simpa using hd
              have HDn := hide hd
              clear hd
              go_quiet (fail)
              have HBc := hide (below_on HBb.out (below_drewN _ nq))
              go_wp2
              go_roundw
              case rel => exact ⟨k + 1, hlt, by rw [Hsm.out]; simp [HDn.out], by go_num, HBc.out⟩
              case measure => simp [RowKit.intOf]; omega
          · have hJQb : decide ((J : Int) < (Q.lg.length : Int)) = false := decide_eq_false (by omega)
            have HJQ := hide hJQ
            have hJQi : ¬ ((J : Int) < (Q.lg.length : Int)) := by omega
            have hJQk : Q.lg.length ≤ J := by omega
            have hJQn : decide (J < Q.lg.length) = false := decide_eq_false hJQ
            go_quiet (fail)
            have HBc := hide (below_on HBb.out (below_drewN _ nq))
            go_wp2
            go_roundw
            case rel => exact ⟨k + 1, hlt, by rw [Hsm.out]; simp [HJQ.out], by go_num, HBc.out⟩
            case measure => simp [RowKit.intOf]; omega
      · have hkn : k = ls.length := by omega
        subst hkn
        have hlti : ¬ ((ls.length : Int) < (ls.length : Int)) := by omega
        obtain ⟨B, hB⟩ : ∃ B, smB Q ls a ls.length = B := ⟨_, rfl⟩
        have HBs := hide hB
        (try rw [hB])
        clear hB
        go_wp2_with fail
        refine (KA.out _ HB.out).mono ?_
        rintro e w4 ⟨y4, z4, rfl, hb4, ho4⟩
        obtain ⟨a3, k3, g3, j3, rfl, rfl⟩ := ho4.shape
        have bA := below_alloc w4 (.cells #[.int .i64 0, .int .i64 X.tm, .int .i64 X.vt, .int .i64 X.si, .int .i64 X.st, .slice a3 X.sn.length k3, .slice g3 X.lg.length j3] 31)
        have B4 := hide (below_on HB.out (below_on hb4 bA))
        have J4 := hide (ho4.later bA)
        have U4 := hide (Var7_new w4 (.int .i64 0) (.int .i64 X.tm) (.int .i64 X.vt) (.int .i64 X.si) (.int .i64 X.st) (.slice a3 X.sn.length k3) (.slice g3 X.lg.length j3) 31)
        clear hb4 ho4 bA
        clear v0 v1 v2 v3 v4 v5 m0 m1 m2 m3 m4 m5 m6
        go_upto_region 20 with fail
        obtain ⟨W4, hW4⟩ : ∃ x, w4.alloc (.cells #[.int .i64 0, .int .i64 X.tm, .int .i64 X.vt, .int .i64 X.si, .int .i64 X.st, .slice a3 X.sn.length k3, .slice g3 X.lg.length j3] 31) = x := ⟨_, rfl⟩
        rw [hW4] at B4 J4 U4
        (try rw [hW4])
        clear hW4
        obtain ⟨EE, hEE⟩ : ∃ x, w4.heap.size = x := ⟨_, rfl⟩
        rw [hEE] at U4
        (try rw [hEE])
        clear hEE
        have hwl : IntKind.i64.wrap ((a : Int) + (ls.length : Int)) = (a : Int) + (ls.length : Int) := by simp [IntKind.wrap, IntKind.bits, IntKind.signed]; omega
        have KS1 := hide (fun (w' : World) (hb : Below W4.heap.size W4 w') => implSameRafts X Q (J2.out.later (below_on B4.out hb)).rdI (J2.out.later (below_on B4.out hb)).rdJ (I2.out.later (below_on B4.out hb)).rdI (I2.out.later (below_on B4.out hb)).rdJ)
        have KS2 := hide (fun (w' : World) (hb : Below W4.heap.size W4 w') => implSameRafts X X (J4.out.later hb).rdI (J4.out.later hb).rdJ (J2.out.later (below_on B4.out hb)).rdI (J2.out.later (below_on B4.out hb)).rdJ)
        rw [sameR_sameg X] at KS2
        cases B with
        | true =>
          refine wp_region_held_drew (S := fun w' => Below W4.heap.size W4 w') (by kernel_rfl) (below_on (Below.refl _ _) (below_drewN W4 1)) (fun hHeld => ?_)
          refine forgetH (fun wx => Below W4.heap.size W4 wx) hHeld ?_
          clear hHeld
          rintro Y4 hHeld
          have HY4 := hide hHeld
          refine wpAnyH_take (i := 0) (v := ?vp32x0) rfl (by kernel_rfl) (by kernel_rfl) (by kernel_rfl) (fun _ _ _ h => h) (Or.inl ⟨by rfl, ?hp32x0⟩) hHeld ?rp32x0
          case hp32x0 => intro w9 hSw; (try dsimp only at hSw); first | (go_simp; done) | (go_simp; with_reducible rfl)
          try simp only [Act.put, List.setIfInBounds_toArray, List.set_cons_zero, List.set_cons_succ, List.getElem_toArray, List.getElem_cons_zero]
          refine wpAnyH_take (i := 1) (v := ?vp33x1) rfl (by kernel_rfl) (by kernel_rfl) (by kernel_rfl) (fun _ _ _ h => h) (Or.inl ⟨by rfl, ?hp33x1⟩) hHeld ?rp33x1
          case hp33x1 => intro w9 hSw; (try dsimp only at hSw); first | (go_simp; done) | (go_simp; with_reducible rfl)
          try simp only [Act.put, List.setIfInBounds_toArray, List.set_cons_zero, List.set_cons_succ, List.getElem_toArray, List.getElem_cons_zero, List.getElem_cons_succ]
          refine wpAnyH_take (i := 2) (v := ?vp34x2) rfl (by kernel_rfl) (by kernel_rfl) (by kernel_rfl) (fun _ _ _ h => h) (Or.inl ⟨by rfl, ?hp34x2⟩) hHeld ?rp34x2
          case hp34x2 => intro w9 hSw; (try dsimp only at hSw); first | (go_simp; done) | (go_simp; with_reducible rfl)
          try simp only [Act.put, List.setIfInBounds_toArray, List.set_cons_zero, List.set_cons_succ, List.getElem_toArray, List.getElem_cons_zero, List.getElem_cons_succ]
          have hXQ := HD.out.same HBs.out
          have hsr : sameR X Q = true := by rw [hXQ]; exact sameR_sameg Q
          rw [hsr] at KS1
          clear hXQ hsr
          refine wpAnyH_take (i := 3) (v := ?vp35x3) rfl (by kernel_rfl) (by kernel_rfl) (by kernel_rfl) (fun _ _ _ h => h) (Or.inl ⟨by rfl, ?hp35x3⟩) hHeld ?rp35x3
          case hp35x3 => intro w9 hSw; (try dsimp only at hSw); first | (go_simp; done) | (go_simp; with_reducible rfl)
          try simp only [Act.put, List.setIfInBounds_toArray, List.set_cons_zero, List.set_cons_succ, List.getElem_toArray, List.getElem_cons_zero, List.getElem_cons_succ]
          refine wpAnyH_take (i := 4) (v := ?vp36x4) rfl (by kernel_rfl) (by kernel_rfl) (by kernel_rfl) (fun _ _ _ h => h) (Or.inl ⟨by rfl, ?hp36x4⟩) hHeld ?rp36x4
          case hp36x4 => intro w9 hSw; (try dsimp only at hSw); obtain ⟨v0, v1, v2, v3, v4, v5⟩ := V2.out.later (below_on B4.out hSw); obtain ⟨m0, m1, m2, m3, m4, m5, m6⟩ := U2.out.later (below_on B4.out hSw); obtain ⟨t0, t1, t2, t3, t4, t5, t6⟩ := U4.out.later hSw; first | (go_simp; done) | (go_simp; with_reducible rfl)
          try simp only [Act.put, List.setIfInBounds_toArray, List.set_cons_zero, List.set_cons_succ, List.getElem_toArray, List.getElem_cons_zero, List.getElem_cons_succ]
          refine wpAnyH_take (i := 5) (v := ?vp37x5) rfl (by kernel_rfl) (by kernel_rfl) (by kernel_rfl) (fun _ _ _ h => h) (Or.inl ⟨by rfl, ?hp37x5⟩) hHeld ?rp37x5
          case hp37x5 => intro w9 hSw; (try dsimp only at hSw); obtain ⟨v0, v1, v2, v3, v4, v5⟩ := V2.out.later (below_on B4.out hSw); obtain ⟨m0, m1, m2, m3, m4, m5, m6⟩ := U2.out.later (below_on B4.out hSw); obtain ⟨t0, t1, t2, t3, t4, t5, t6⟩ := U4.out.later hSw; first | (go_simp; done) | (go_simp; with_reducible rfl)
          try simp only [Act.put, List.setIfInBounds_toArray, List.set_cons_zero, List.set_cons_succ, List.getElem_toArray, List.getElem_cons_zero, List.getElem_cons_succ]
          refine wpAnyH_ready (rs := [6]) (by kernel_rfl) (by simp) (AllReadyH.cons rfl (fun K9 hK => ?_) AllReadyH.nil)
          go_simp
          go_at_call 17
          refine (KS1.out _ HY4.out).mono ?_
          rintro e Y5 ⟨rfl, hb9⟩
          have HY5 := hide (below_on HY4.out hb9)
          clear hb9 hHeld
          refine hK.out _ _ HY5.out (fun hHeld => ?_)
          clear hK K9
          try simp only [Act.put, List.setIfInBounds_toArray, List.set_cons_zero, List.set_cons_succ, List.getElem_toArray, List.getElem_cons_zero, List.getElem_cons_succ]
          refine wpAnyH_take (i := 7) (v := ?vp38x7) rfl (by kernel_rfl) (by kernel_rfl) (by kernel_rfl) (fun _ _ _ h => h) (Or.inl ⟨by rfl, ?hp38x7⟩) hHeld ?rp38x7
          case hp38x7 => intro w9 hSw; (try dsimp only at hSw); first | (go_simp; done) | (go_simp; with_reducible rfl)
          try simp only [Act.put, List.setIfInBounds_toArray, List.set_cons_zero, List.set_cons_succ, List.getElem_toArray, List.getElem_cons_zero, List.getElem_cons_succ]
          refine wpAnyH_take (i := 8) (v := ?vp39x8) rfl (by kernel_rfl) (by kernel_rfl) (by kernel_rfl) (fun _ _ _ h => h) (Or.inl ⟨by rfl, ?hp39x8⟩) hHeld ?rp39x8
          case hp39x8 => intro w9 hSw; (try dsimp only at hSw); first | (go_simp; done) | (go_simp; with_reducible rfl)
          try simp only [Act.put, List.setIfInBounds_toArray, List.set_cons_zero, List.set_cons_succ, List.getElem_toArray, List.getElem_cons_zero, List.getElem_cons_succ]
          refine wpAnyH_take (i := 9) (v := ?vp40x9) rfl (by kernel_rfl) (by kernel_rfl) (by kernel_rfl) (fun _ _ _ h => h) (Or.inl ⟨by rfl, ?hp40x9⟩) hHeld ?rp40x9
          case hp40x9 => intro w9 hSw; (try dsimp only at hSw); first | (go_simp; done) | (go_simp; with_reducible rfl)
          try simp only [Act.put, List.setIfInBounds_toArray, List.set_cons_zero, List.set_cons_succ, List.getElem_toArray, List.getElem_cons_zero, List.getElem_cons_succ]
          refine wpAnyH_take (i := 10) (v := ?vp41x10) rfl (by kernel_rfl) (by kernel_rfl) (by kernel_rfl) (fun _ _ _ h => h) (Or.inl ⟨by rfl, ?hp41x10⟩) hHeld ?rp41x10
          case hp41x10 => intro w9 hSw; (try dsimp only at hSw); first | (go_simp; done) | (go_simp; with_reducible rfl)
          try simp only [Act.put, List.setIfInBounds_toArray, List.set_cons_zero, List.set_cons_succ, List.getElem_toArray, List.getElem_cons_zero, List.getElem_cons_succ]
          refine wpAnyH_take (i := 11) (v := undef) rfl (by kernel_rfl) (by kernel_rfl) (by kernel_rfl) (fun _ _ _ h => h) (Or.inr ⟨by rfl, rfl⟩) hHeld ?_
          try simp only [Act.put, List.setIfInBounds_toArray, List.set_cons_zero, List.set_cons_succ, List.getElem_toArray, List.getElem_cons_zero, List.getElem_cons_succ]
          refine wpAnyH_take (i := 12) (v := undef) rfl (by kernel_rfl) (by kernel_rfl) (by kernel_rfl) (fun _ _ _ h => h) (Or.inr ⟨by rfl, rfl⟩) hHeld ?_
          try simp only [Act.put, List.setIfInBounds_toArray, List.set_cons_zero, List.set_cons_succ, List.getElem_toArray, List.getElem_cons_zero, List.getElem_cons_succ]
          refine wpAnyH_take (i := 13) (v := undef) rfl (by kernel_rfl) (by kernel_rfl) (by kernel_rfl) (fun _ _ _ h => h) (Or.inr ⟨by rfl, rfl⟩) hHeld ?_
          try simp only [Act.put, List.setIfInBounds_toArray, List.set_cons_zero, List.set_cons_succ, List.getElem_toArray, List.getElem_cons_zero, List.getElem_cons_succ]
          refine wpAnyH_take (i := 14) (v := undef) rfl (by kernel_rfl) (by kernel_rfl) (by kernel_rfl) (fun _ _ _ h => h) (Or.inr ⟨by rfl, rfl⟩) hHeld ?_
          try simp only [Act.put, List.setIfInBounds_toArray, List.set_cons_zero, List.set_cons_succ, List.getElem_toArray, List.getElem_cons_zero, List.getElem_cons_succ]
          refine wpAnyH_take (i := 15) (v := undef) rfl (by kernel_rfl) (by kernel_rfl) (by kernel_rfl) (fun _ _ _ h => h) (Or.inr ⟨by rfl, rfl⟩) hHeld ?_
          try simp only [Act.put, List.setIfInBounds_toArray, List.set_cons_zero, List.set_cons_succ, List.getElem_toArray, List.getElem_cons_zero, List.getElem_cons_succ]
          refine wpAnyH_take (i := 16) (v := undef) rfl (by kernel_rfl) (by kernel_rfl) (by kernel_rfl) (fun _ _ _ h => h) (Or.inr ⟨by rfl, rfl⟩) hHeld ?_
          try simp only [Act.put, List.setIfInBounds_toArray, List.set_cons_zero, List.set_cons_succ, List.getElem_toArray, List.getElem_cons_zero, List.getElem_cons_succ]
          refine wpAnyH_take (i := 17) (v := ?vp42x17) rfl (by kernel_rfl) (by kernel_rfl) (by kernel_rfl) (fun _ _ _ h => h) (Or.inl ⟨by rfl, ?hp42x17⟩) hHeld ?rp42x17
          case hp42x17 => intro w9 hSw; (try dsimp only at hSw); first | (go_simp; done) | (go_simp; with_reducible rfl)
          try simp only [Act.put, List.setIfInBounds_toArray, List.set_cons_zero, List.set_cons_succ, List.getElem_toArray, List.getElem_cons_zero, List.getElem_cons_succ]
          refine wpAnyH_take (i := 18) (v := ?vp43x18) rfl (by kernel_rfl) (by kernel_rfl) (by kernel_rfl) (fun _ _ _ h => h) (Or.inl ⟨by rfl, ?hp43x18⟩) hHeld ?rp43x18
          case hp43x18 => intro w9 hSw; (try dsimp only at hSw); first | (go_simp; done) | (go_simp; with_reducible rfl)
          try simp only [Act.put, List.setIfInBounds_toArray, List.set_cons_zero, List.set_cons_succ, List.getElem_toArray, List.getElem_cons_zero, List.getElem_cons_succ]
          refine wpAnyH_take (i := 19) (v := ?vp44x19) rfl (by kernel_rfl) (by kernel_rfl) (by kernel_rfl) (fun _ _ _ h => h) (Or.inl ⟨by rfl, ?hp44x19⟩) hHeld ?rp44x19
          case hp44x19 => intro w9 hSw; (try dsimp only at hSw); first | (go_simp; done) | (go_simp; with_reducible rfl)
          try simp only [Act.put, List.setIfInBounds_toArray, List.set_cons_zero, List.set_cons_succ, List.getElem_toArray, List.getElem_cons_zero, List.getElem_cons_succ]
          refine wpAnyH_take (i := 20) (v := ?vp45x20) rfl (by kernel_rfl) (by kernel_rfl) (by kernel_rfl) (fun _ _ _ h => h) (Or.inl ⟨by rfl, ?hp45x20⟩) hHeld ?rp45x20
          case hp45x20 => intro w9 hSw; (try dsimp only at hSw); first | (go_simp; done) | (go_simp; with_reducible rfl)
          try simp only [Act.put, List.setIfInBounds_toArray, List.set_cons_zero, List.set_cons_succ, List.getElem_toArray, List.getElem_cons_zero, List.getElem_cons_succ]
          refine wpAnyH_take (i := 21) (v := ?vp46x21) rfl (by kernel_rfl) (by kernel_rfl) (by kernel_rfl) (fun _ _ _ h => h) (Or.inl ⟨by rfl, ?hp46x21⟩) hHeld ?rp46x21
          case hp46x21 => intro w9 hSw; (try dsimp only at hSw); obtain ⟨v0, v1, v2, v3, v4, v5⟩ := V2.out.later (below_on B4.out hSw); obtain ⟨m0, m1, m2, m3, m4, m5, m6⟩ := U2.out.later (below_on B4.out hSw); obtain ⟨t0, t1, t2, t3, t4, t5, t6⟩ := U4.out.later hSw; first | (go_simp; done) | (go_simp; with_reducible rfl)
          try simp only [Act.put, List.setIfInBounds_toArray, List.set_cons_zero, List.set_cons_succ, List.getElem_toArray, List.getElem_cons_zero, List.getElem_cons_succ]
          refine wpAnyH_take (i := 22) (v := ?vp47x22) rfl (by kernel_rfl) (by kernel_rfl) (by kernel_rfl) (fun _ _ _ h => h) (Or.inl ⟨by rfl, ?hp47x22⟩) hHeld ?rp47x22
          case hp47x22 => intro w9 hSw; (try dsimp only at hSw); first | (go_simp; done) | (go_simp; with_reducible rfl)
          try simp only [Act.put, List.setIfInBounds_toArray, List.set_cons_zero, List.set_cons_succ, List.getElem_toArray, List.getElem_cons_zero, List.getElem_cons_succ]
          refine wpAnyH_take (i := 23) (v := ?vp48x23) rfl (by kernel_rfl) (by kernel_rfl) (by kernel_rfl) (fun _ _ _ h => h) (Or.inl ⟨by rfl, ?hp48x23⟩) hHeld ?rp48x23
          case hp48x23 => intro w9 hSw; (try dsimp only at hSw); first | (go_simp; done) | (go_simp; with_reducible rfl)
          try simp only [Act.put, List.setIfInBounds_toArray, List.set_cons_zero, List.set_cons_succ, List.getElem_toArray, List.getElem_cons_zero, List.getElem_cons_succ]
          refine wpAnyH_take (i := 24) (v := ?vp49x24) rfl (by kernel_rfl) (by kernel_rfl) (by kernel_rfl) (fun _ _ _ h => h) (Or.inl ⟨by rfl, ?hp49x24⟩) hHeld ?rp49x24
          case hp49x24 => intro w9 hSw; (try dsimp only at hSw); first | (go_simp; done) | (go_simp; with_reducible rfl)
          try simp only [Act.put, List.setIfInBounds_toArray, List.set_cons_zero, List.set_cons_succ, List.getElem_toArray, List.getElem_cons_zero, List.getElem_cons_succ]
          refine wpAnyH_take (i := 25) (v := ?vp50x25) rfl (by kernel_rfl) (by kernel_rfl) (by kernel_rfl) (fun _ _ _ h => h) (Or.inl ⟨by rfl, ?hp50x25⟩) hHeld ?rp50x25
          case hp50x25 => intro w9 hSw; (try dsimp only at hSw); first | (go_simp; done) | (go_simp; with_reducible rfl)
          try simp only [Act.put, List.setIfInBounds_toArray, List.set_cons_zero, List.set_cons_succ, List.getElem_toArray, List.getElem_cons_zero, List.getElem_cons_succ]
          refine wpAnyH_take (i := 26) (v := ?vp51x26) rfl (by kernel_rfl) (by kernel_rfl) (by kernel_rfl) (fun _ _ _ h => h) (Or.inl ⟨by rfl, ?hp51x26⟩) hHeld ?rp51x26
          case hp51x26 => intro w9 hSw; (try dsimp only at hSw); obtain ⟨v0, v1, v2, v3, v4, v5⟩ := V2.out.later (below_on B4.out hSw); obtain ⟨m0, m1, m2, m3, m4, m5, m6⟩ := U2.out.later (below_on B4.out hSw); obtain ⟨t0, t1, t2, t3, t4, t5, t6⟩ := U4.out.later hSw; first | (go_simp; done) | (go_simp; with_reducible rfl)
          try simp only [Act.put, List.setIfInBounds_toArray, List.set_cons_zero, List.set_cons_succ, List.getElem_toArray, List.getElem_cons_zero, List.getElem_cons_succ]
          refine wpAnyH_take (i := 27) (v := ?vp52x27) rfl (by kernel_rfl) (by kernel_rfl) (by kernel_rfl) (fun _ _ _ h => h) (Or.inl ⟨by rfl, ?hp52x27⟩) hHeld ?rp52x27
          case hp52x27 => intro w9 hSw; (try dsimp only at hSw); first | (go_simp; done) | (go_simp; with_reducible rfl)
          try simp only [Act.put, List.setIfInBounds_toArray, List.set_cons_zero, List.set_cons_succ, List.getElem_toArray, List.getElem_cons_zero, List.getElem_cons_succ]
          refine wpAnyH_take (i := 28) (v := ?vp53x28) rfl (by kernel_rfl) (by kernel_rfl) (by kernel_rfl) (fun _ _ _ h => h) (Or.inl ⟨by rfl, ?hp53x28⟩) hHeld ?rp53x28
          case hp53x28 => intro w9 hSw; (try dsimp only at hSw); obtain ⟨v0, v1, v2, v3, v4, v5⟩ := V2.out.later (below_on B4.out hSw); obtain ⟨m0, m1, m2, m3, m4, m5, m6⟩ := U2.out.later (below_on B4.out hSw); obtain ⟨t0, t1, t2, t3, t4, t5, t6⟩ := U4.out.later hSw; first | (go_simp; done) | (go_simp; with_reducible rfl)
          try simp only [Act.put, List.setIfInBounds_toArray, List.set_cons_zero, List.set_cons_succ, List.getElem_toArray, List.getElem_cons_zero, List.getElem_cons_succ]
          refine wpAnyH_ready (rs := [29]) (by kernel_rfl) (by simp) (AllReadyH.cons rfl (fun K9 hK => ?_) AllReadyH.nil)
          go_simp
          go_at_call 17
          refine (KS2.out _ HY5.out).mono ?_
          rintro e Y6 ⟨rfl, hb9⟩
          have HY6 := hide (below_on HY5.out hb9)
          clear hb9 hHeld
          refine hK.out _ _ HY6.out (fun hHeld => ?_)
          clear hK K9
          try simp only [Act.put, List.setIfInBounds_toArray, List.set_cons_zero, List.set_cons_succ, List.getElem_toArray, List.getElem_cons_zero, List.getElem_cons_succ]
          refine wpAnyH_take (i := 30) (v := ?vp54x30) rfl (by kernel_rfl) (by kernel_rfl) (by kernel_rfl) (fun _ _ _ h => h) (Or.inl ⟨by rfl, ?hp54x30⟩) hHeld ?rp54x30
          case hp54x30 => intro w9 hSw; (try dsimp only at hSw); first | (go_simp; done) | (go_simp; with_reducible rfl)
          try simp only [Act.put, List.setIfInBounds_toArray, List.set_cons_zero, List.set_cons_succ, List.getElem_toArray, List.getElem_cons_zero, List.getElem_cons_succ]
          refine wpAnyH_take (i := 31) (v := ?vp55x31) rfl (by kernel_rfl) (by kernel_rfl) (by kernel_rfl) (fun _ _ _ h => h) (Or.inl ⟨by rfl, ?hp55x31⟩) hHeld ?rp55x31
          case hp55x31 => intro w9 hSw; (try dsimp only at hSw); first | (go_simp; done) | (go_simp; with_reducible rfl)
          try simp only [Act.put, List.setIfInBounds_toArray, List.set_cons_zero, List.set_cons_succ, List.getElem_toArray, List.getElem_cons_zero, List.getElem_cons_succ]
          refine wpAnyH_take (i := 32) (v := ?vp56x32) rfl (by kernel_rfl) (by kernel_rfl) (by kernel_rfl) (fun _ _ _ h => h) (Or.inl ⟨by rfl, ?hp56x32⟩) hHeld ?rp56x32
          case hp56x32 => intro w9 hSw; (try dsimp only at hSw); first | (go_simp; done) | (go_simp; with_reducible rfl)
          try simp only [Act.put, List.setIfInBounds_toArray, List.set_cons_zero, List.set_cons_succ, List.getElem_toArray, List.getElem_cons_zero, List.getElem_cons_succ]
          refine wpAnyH_take (i := 33) (v := ?vp57x33) rfl (by kernel_rfl) (by kernel_rfl) (by kernel_rfl) (fun _ _ _ h => h) (Or.inl ⟨by rfl, ?hp57x33⟩) hHeld ?rp57x33
          case hp57x33 => intro w9 hSw; (try dsimp only at hSw); obtain ⟨v0, v1, v2, v3, v4, v5⟩ := V2.out.later (below_on B4.out hSw); obtain ⟨m0, m1, m2, m3, m4, m5, m6⟩ := U2.out.later (below_on B4.out hSw); obtain ⟨t0, t1, t2, t3, t4, t5, t6⟩ := U4.out.later hSw; first | (go_simp; done) | (go_simp; with_reducible rfl)
          try simp only [Act.put, List.setIfInBounds_toArray, List.set_cons_zero, List.set_cons_succ, List.getElem_toArray, List.getElem_cons_zero, List.getElem_cons_succ]
          refine wpAnyH_take (i := 34) (v := ?vp58x34) rfl (by kernel_rfl) (by kernel_rfl) (by kernel_rfl) (fun _ _ _ h => h) (Or.inl ⟨by rfl, ?hp58x34⟩) hHeld ?rp58x34
          case hp58x34 => intro w9 hSw; (try dsimp only at hSw); obtain ⟨v0, v1, v2, v3, v4, v5⟩ := V2.out.later (below_on B4.out hSw); obtain ⟨m0, m1, m2, m3, m4, m5, m6⟩ := U2.out.later (below_on B4.out hSw); obtain ⟨t0, t1, t2, t3, t4, t5, t6⟩ := U4.out.later hSw; first | (go_simp; done) | (go_simp; with_reducible rfl)
          try simp only [Act.put, List.setIfInBounds_toArray, List.set_cons_zero, List.set_cons_succ, List.getElem_toArray, List.getElem_cons_zero, List.getElem_cons_succ]
          refine wpAnyH_take (i := 35) (v := ?vp59x35) rfl (by kernel_rfl) (by kernel_rfl) (by kernel_rfl) (fun _ _ _ h => h) (Or.inl ⟨by rfl, ?hp59x35⟩) hHeld ?rp59x35
          case hp59x35 => intro w9 hSw; (try dsimp only at hSw); first | (go_simp; done) | (go_simp; with_reducible rfl)
          try simp only [Act.put, List.setIfInBounds_toArray, List.set_cons_zero, List.set_cons_succ, List.getElem_toArray, List.getElem_cons_zero, List.getElem_cons_succ]
          refine wpAnyH_take (i := 36) (v := ?vp60x36) rfl (by kernel_rfl) (by kernel_rfl) (by kernel_rfl) (fun _ _ _ h => h) (Or.inl ⟨by rfl, ?hp60x36⟩) hHeld ?rp60x36
          case hp60x36 => intro w9 hSw; (try dsimp only at hSw); first | (go_simp; done) | (go_simp; with_reducible rfl)
          try simp only [Act.put, List.setIfInBounds_toArray, List.set_cons_zero, List.set_cons_succ, List.getElem_toArray, List.getElem_cons_zero, List.getElem_cons_succ]
          refine wpAnyH_take (i := 37) (v := ?vp61x37) rfl (by kernel_rfl) (by kernel_rfl) (by kernel_rfl) (fun _ _ _ h => h) (Or.inl ⟨by rfl, ?hp61x37⟩) hHeld ?rp61x37
          case hp61x37 => intro w9 hSw; (try dsimp only at hSw); first | (go_simp; done) | (go_simp; with_reducible rfl)
          try simp only [Act.put, List.setIfInBounds_toArray, List.set_cons_zero, List.set_cons_succ, List.getElem_toArray, List.getElem_cons_zero, List.getElem_cons_succ]
          refine wpAnyH_ready (rs := [38]) (by kernel_rfl) (by simp) (AllReadyH.cons rfl (fun K9 hK => ?_) AllReadyH.nil)
          go_simp
          go_at_call 15
          refine (KS.out _ (below_on B2.out (below_on B4.out HY6.out))).mono ?_
          rintro e Y7 ⟨y8, z8, rfl, hb9, ho9⟩
          have HY7 := hide (below_on HY6.out hb9)
          have HO7 := hide ho9
          have KS3 := hide (implSameRafts X X (J2.out.later (below_on B4.out HY7.out)).rdI (J2.out.later (below_on B4.out HY7.out)).rdJ HO7.out.rdI HO7.out.rdJ)
          rw [sameR_sameg X] at KS3
          clear ho9
          clear hb9 hHeld
          refine hK.out _ _ HY7.out (fun hHeld => ?_)
          clear hK K9
          try simp only [Act.put, List.setIfInBounds_toArray, List.set_cons_zero, List.set_cons_succ, List.getElem_toArray, List.getElem_cons_zero, List.getElem_cons_succ]
          refine wpAnyH_take (i := 39) (v := ?vp62x39) rfl (by kernel_rfl) (by kernel_rfl) (by kernel_rfl) (fun _ _ _ h => h) (Or.inl ⟨by rfl, ?hp62x39⟩) hHeld ?rp62x39
          case hp62x39 => intro w9 hSw; (try dsimp only at hSw); first | (go_simp; done) | (go_simp; with_reducible rfl) | (go_simp; rw [fR1]; done) | (go_simp; rw [fR1]; rfl)
          try simp only [Act.put, List.setIfInBounds_toArray, List.set_cons_zero, List.set_cons_succ, List.getElem_toArray, List.getElem_cons_zero, List.getElem_cons_succ]
          refine wpAnyH_ready (rs := [40]) (by kernel_rfl) (by simp) (AllReadyH.cons rfl (fun K9 hK => ?_) AllReadyH.nil)
          go_simp
          go_at_call 17
          refine (KS3.out).mono ?_
          rintro e Y8 ⟨rfl, hb9⟩
          have HY8 := hide (below_on HY7.out hb9)
          clear hb9 hHeld
          refine hK.out _ _ HY8.out (fun hHeld => ?_)
          clear hK K9
          try simp only [Act.put, List.setIfInBounds_toArray, List.set_cons_zero, List.set_cons_succ, List.getElem_toArray, List.getElem_cons_zero, List.getElem_cons_succ]
          refine wpAnyH_take (i := 41) (v := ?vp63x41) rfl (by kernel_rfl) (by kernel_rfl) (by kernel_rfl) (fun _ _ _ h => h) (Or.inl ⟨by rfl, ?hp63x41⟩) hHeld ?rp63x41
          case hp63x41 => intro w9 hSw; (try dsimp only at hSw); first | (go_simp; done) | (go_simp; with_reducible rfl)
          try simp only [Act.put, List.setIfInBounds_toArray, List.set_cons_zero, List.set_cons_succ, List.getElem_toArray, List.getElem_cons_zero, List.getElem_cons_succ]
          refine wpAnyH_take (i := 42) (v := ?vp64x42) rfl (by kernel_rfl) (by kernel_rfl) (by kernel_rfl) (fun _ _ _ h => h) (Or.inl ⟨by rfl, ?hp64x42⟩) hHeld ?rp64x42
          case hp64x42 => intro w9 hSw; (try dsimp only at hSw); first | (go_simp; done) | (go_simp; with_reducible rfl)
          try simp only [Act.put, List.setIfInBounds_toArray, List.set_cons_zero, List.set_cons_succ, List.getElem_toArray, List.getElem_cons_zero, List.getElem_cons_succ]
          refine wpAnyH_done (by kernel_rfl) ?_ _
          go_wp2
          go_ret
          exact ⟨by simp, below_on B1.out (below_on B2.out (below_on B4.out HY8.out))⟩
        | false =>
          refine wp_region_held_drew (S := fun w' => Below W4.heap.size W4 w') (by kernel_rfl) (below_on (Below.refl _ _) (below_drewN W4 1)) (fun hHeld => ?_)
          refine forgetH (fun wx => Below W4.heap.size W4 wx) hHeld ?_
          clear hHeld
          rintro Y4 hHeld
          have HY4 := hide hHeld
          refine wpAnyH_take (i := 0) (v := ?vq65x0) rfl (by kernel_rfl) (by kernel_rfl) (by kernel_rfl) (fun _ _ _ h => h) (Or.inl ⟨by rfl, ?hq65x0⟩) hHeld ?rq65x0
          case hq65x0 => intro w9 hSw; (try dsimp only at hSw); first | (go_simp; done) | (go_simp; with_reducible rfl)
          try simp only [Act.put, List.setIfInBounds_toArray, List.set_cons_zero, List.set_cons_succ, List.getElem_toArray, List.getElem_cons_zero]
          refine wpAnyH_take (i := 1) (v := ?vq66x1) rfl (by kernel_rfl) (by kernel_rfl) (by kernel_rfl) (fun _ _ _ h => h) (Or.inl ⟨by rfl, ?hq66x1⟩) hHeld ?rq66x1
          case hq66x1 => intro w9 hSw; (try dsimp only at hSw); first | (go_simp; done) | (go_simp; with_reducible rfl)
          try simp only [Act.put, List.setIfInBounds_toArray, List.set_cons_zero, List.set_cons_succ, List.getElem_toArray, List.getElem_cons_zero, List.getElem_cons_succ]
          refine wpAnyH_take (i := 2) (v := ?vq67x2) rfl (by kernel_rfl) (by kernel_rfl) (by kernel_rfl) (fun _ _ _ h => h) (Or.inl ⟨by rfl, ?hq67x2⟩) hHeld ?rq67x2
          case hq67x2 => intro w9 hSw; (try dsimp only at hSw); first | (go_simp; done) | (go_simp; with_reducible rfl)
          try simp only [Act.put, List.setIfInBounds_toArray, List.set_cons_zero, List.set_cons_succ, List.getElem_toArray, List.getElem_cons_zero, List.getElem_cons_succ]
          have hlx := HD.out.other HBs.out
          have e2 : ((X.lg.length : Int) == (a : Int) + (ls.length : Int)) = true := by rw [hlx]; simp
          clear hlx
          refine wpAnyH_take (i := 3) (v := undef) rfl (by kernel_rfl) (by kernel_rfl) (by kernel_rfl) (fun _ _ _ h => h) (Or.inr ⟨by rfl, rfl⟩) hHeld ?_
          try simp only [Act.put, List.setIfInBounds_toArray, List.set_cons_zero, List.set_cons_succ, List.getElem_toArray, List.getElem_cons_zero, List.getElem_cons_succ]
          refine wpAnyH_take (i := 4) (v := undef) rfl (by kernel_rfl) (by kernel_rfl) (by kernel_rfl) (fun _ _ _ h => h) (Or.inr ⟨by rfl, rfl⟩) hHeld ?_
          try simp only [Act.put, List.setIfInBounds_toArray, List.set_cons_zero, List.set_cons_succ, List.getElem_toArray, List.getElem_cons_zero, List.getElem_cons_succ]
          refine wpAnyH_take (i := 5) (v := undef) rfl (by kernel_rfl) (by kernel_rfl) (by kernel_rfl) (fun _ _ _ h => h) (Or.inr ⟨by rfl, rfl⟩) hHeld ?_
          try simp only [Act.put, List.setIfInBounds_toArray, List.set_cons_zero, List.set_cons_succ, List.getElem_toArray, List.getElem_cons_zero, List.getElem_cons_succ]
          refine wpAnyH_take (i := 6) (v := undef) rfl (by kernel_rfl) (by kernel_rfl) (by kernel_rfl) (fun _ _ _ h => h) (Or.inr ⟨by rfl, rfl⟩) hHeld ?_
          try simp only [Act.put, List.setIfInBounds_toArray, List.set_cons_zero, List.set_cons_succ, List.getElem_toArray, List.getElem_cons_zero, List.getElem_cons_succ]
          refine wpAnyH_take (i := 7) (v := ?vq68x7) rfl (by kernel_rfl) (by kernel_rfl) (by kernel_rfl) (fun _ _ _ h => h) (Or.inl ⟨by rfl, ?hq68x7⟩) hHeld ?rq68x7
          case hq68x7 => intro w9 hSw; (try dsimp only at hSw); first | (go_simp; done) | (go_simp; with_reducible rfl)
          try simp only [Act.put, List.setIfInBounds_toArray, List.set_cons_zero, List.set_cons_succ, List.getElem_toArray, List.getElem_cons_zero, List.getElem_cons_succ]
          refine wpAnyH_take (i := 8) (v := ?vq69x8) rfl (by kernel_rfl) (by kernel_rfl) (by kernel_rfl) (fun _ _ _ h => h) (Or.inl ⟨by rfl, ?hq69x8⟩) hHeld ?rq69x8
          case hq69x8 => intro w9 hSw; (try dsimp only at hSw); first | (go_simp; done) | (go_simp; with_reducible rfl)
          try simp only [Act.put, List.setIfInBounds_toArray, List.set_cons_zero, List.set_cons_succ, List.getElem_toArray, List.getElem_cons_zero, List.getElem_cons_succ]
          refine wpAnyH_take (i := 9) (v := ?vq70x9) rfl (by kernel_rfl) (by kernel_rfl) (by kernel_rfl) (fun _ _ _ h => h) (Or.inl ⟨by rfl, ?hq70x9⟩) hHeld ?rq70x9
          case hq70x9 => intro w9 hSw; (try dsimp only at hSw); first | (go_simp; done) | (go_simp; with_reducible rfl)
          try simp only [Act.put, List.setIfInBounds_toArray, List.set_cons_zero, List.set_cons_succ, List.getElem_toArray, List.getElem_cons_zero, List.getElem_cons_succ]
          refine wpAnyH_take (i := 10) (v := ?vq71x10) rfl (by kernel_rfl) (by kernel_rfl) (by kernel_rfl) (fun _ _ _ h => h) (Or.inl ⟨by rfl, ?hq71x10⟩) hHeld ?rq71x10
          case hq71x10 => intro w9 hSw; (try dsimp only at hSw); first | (go_simp; done) | (go_simp; with_reducible rfl)
          try simp only [Act.put, List.setIfInBounds_toArray, List.set_cons_zero, List.set_cons_succ, List.getElem_toArray, List.getElem_cons_zero, List.getElem_cons_succ]
          refine wpAnyH_take (i := 11) (v := ?vq72x11) rfl (by kernel_rfl) (by kernel_rfl) (by kernel_rfl) (fun _ _ _ h => h) (Or.inl ⟨by rfl, ?hq72x11⟩) hHeld ?rq72x11
          case hq72x11 => intro w9 hSw; (try dsimp only at hSw); first | (go_simp; done) | (go_simp; with_reducible rfl)
          try simp only [Act.put, List.setIfInBounds_toArray, List.set_cons_zero, List.set_cons_succ, List.getElem_toArray, List.getElem_cons_zero, List.getElem_cons_succ]
          refine wpAnyH_take (i := 12) (v := ?vq73x12) rfl (by kernel_rfl) (by kernel_rfl) (by kernel_rfl) (fun _ _ _ h => h) (Or.inl ⟨by rfl, ?hq73x12⟩) hHeld ?rq73x12
          case hq73x12 => intro w9 hSw; (try dsimp only at hSw); first | (go_simp; done) | (go_simp; with_reducible rfl)
          try simp only [Act.put, List.setIfInBounds_toArray, List.set_cons_zero, List.set_cons_succ, List.getElem_toArray, List.getElem_cons_zero, List.getElem_cons_succ]
          refine wpAnyH_take (i := 13) (v := ?vq74x13) rfl (by kernel_rfl) (by kernel_rfl) (by kernel_rfl) (fun _ _ _ h => h) (Or.inl ⟨by rfl, ?hq74x13⟩) hHeld ?rq74x13
          case hq74x13 => intro w9 hSw; (try dsimp only at hSw); first | (go_simp; done) | (go_simp; with_reducible rfl)
          try simp only [Act.put, List.setIfInBounds_toArray, List.set_cons_zero, List.set_cons_succ, List.getElem_toArray, List.getElem_cons_zero, List.getElem_cons_succ]
          refine wpAnyH_take (i := 14) (v := ?vq75x14) rfl (by kernel_rfl) (by kernel_rfl) (by kernel_rfl) (fun _ _ _ h => h) (Or.inl ⟨by rfl, ?hq75x14⟩) hHeld ?rq75x14
          case hq75x14 => intro w9 hSw; (try dsimp only at hSw); first | (go_simp; done) | (go_simp; with_reducible rfl)
          try simp only [Act.put, List.setIfInBounds_toArray, List.set_cons_zero, List.set_cons_succ, List.getElem_toArray, List.getElem_cons_zero, List.getElem_cons_succ]
          refine wpAnyH_take (i := 15) (v := ?vq76x15) rfl (by kernel_rfl) (by kernel_rfl) (by kernel_rfl) (fun _ _ _ h => h) (Or.inl ⟨by rfl, ?hq76x15⟩) hHeld ?rq76x15
          case hq76x15 => intro w9 hSw; (try dsimp only at hSw); first | (go_simp; done) | (go_simp; with_reducible rfl)
          try simp only [Act.put, List.setIfInBounds_toArray, List.set_cons_zero, List.set_cons_succ, List.getElem_toArray, List.getElem_cons_zero, List.getElem_cons_succ]
          refine wpAnyH_take (i := 16) (v := ?vq77x16) rfl (by kernel_rfl) (by kernel_rfl) (by kernel_rfl) (fun _ _ _ h => h) (Or.inl ⟨by rfl, ?hq77x16⟩) hHeld ?rq77x16
          case hq77x16 => intro w9 hSw; (try dsimp only at hSw); first | (go_simp; done) | (go_simp; with_reducible rfl)
          try simp only [Act.put, List.setIfInBounds_toArray, List.set_cons_zero, List.set_cons_succ, List.getElem_toArray, List.getElem_cons_zero, List.getElem_cons_succ]
          refine wpAnyH_take (i := 17) (v := ?vq78x17) rfl (by kernel_rfl) (by kernel_rfl) (by kernel_rfl) (fun _ _ _ h => h) (Or.inl ⟨by rfl, ?hq78x17⟩) hHeld ?rq78x17
          case hq78x17 => intro w9 hSw; (try dsimp only at hSw); first | (go_simp; done) | (go_simp; with_reducible rfl)
          try simp only [Act.put, List.setIfInBounds_toArray, List.set_cons_zero, List.set_cons_succ, List.getElem_toArray, List.getElem_cons_zero, List.getElem_cons_succ]
          refine wpAnyH_take (i := 18) (v := ?vq79x18) rfl (by kernel_rfl) (by kernel_rfl) (by kernel_rfl) (fun _ _ _ h => h) (Or.inl ⟨by rfl, ?hq79x18⟩) hHeld ?rq79x18
          case hq79x18 => intro w9 hSw; (try dsimp only at hSw); first | (go_simp; done) | (go_simp; with_reducible rfl)
          try simp only [Act.put, List.setIfInBounds_toArray, List.set_cons_zero, List.set_cons_succ, List.getElem_toArray, List.getElem_cons_zero, List.getElem_cons_succ]
          refine wpAnyH_take (i := 19) (v := ?vq80x19) rfl (by kernel_rfl) (by kernel_rfl) (by kernel_rfl) (fun _ _ _ h => h) (Or.inl ⟨by rfl, ?hq80x19⟩) hHeld ?rq80x19
          case hq80x19 => intro w9 hSw; (try dsimp only at hSw); first | (go_simp; done) | (go_simp; with_reducible rfl)
          try simp only [Act.put, List.setIfInBounds_toArray, List.set_cons_zero, List.set_cons_succ, List.getElem_toArray, List.getElem_cons_zero, List.getElem_cons_succ]
          refine wpAnyH_take (i := 20) (v := ?vq81x20) rfl (by kernel_rfl) (by kernel_rfl) (by kernel_rfl) (fun _ _ _ h => h) (Or.inl ⟨by rfl, ?hq81x20⟩) hHeld ?rq81x20
          case hq81x20 => intro w9 hSw; (try dsimp only at hSw); first | (go_simp; done) | (go_simp; with_reducible rfl)
          try simp only [Act.put, List.setIfInBounds_toArray, List.set_cons_zero, List.set_cons_succ, List.getElem_toArray, List.getElem_cons_zero, List.getElem_cons_succ]
          refine wpAnyH_take (i := 21) (v := ?vq82x21) rfl (by kernel_rfl) (by kernel_rfl) (by kernel_rfl) (fun _ _ _ h => h) (Or.inl ⟨by rfl, ?hq82x21⟩) hHeld ?rq82x21
          case hq82x21 => intro w9 hSw; (try dsimp only at hSw); obtain ⟨v0, v1, v2, v3, v4, v5⟩ := V2.out.later (below_on B4.out hSw); obtain ⟨m0, m1, m2, m3, m4, m5, m6⟩ := U2.out.later (below_on B4.out hSw); obtain ⟨t0, t1, t2, t3, t4, t5, t6⟩ := U4.out.later hSw; first | (go_simp; done) | (go_simp; with_reducible rfl)
          try simp only [Act.put, List.setIfInBounds_toArray, List.set_cons_zero, List.set_cons_succ, List.getElem_toArray, List.getElem_cons_zero, List.getElem_cons_succ]
          refine wpAnyH_take (i := 22) (v := ?vq83x22) rfl (by kernel_rfl) (by kernel_rfl) (by kernel_rfl) (fun _ _ _ h => h) (Or.inl ⟨by rfl, ?hq83x22⟩) hHeld ?rq83x22
          case hq83x22 => intro w9 hSw; (try dsimp only at hSw); first | (go_simp; done) | (go_simp; with_reducible rfl)
          try simp only [Act.put, List.setIfInBounds_toArray, List.set_cons_zero, List.set_cons_succ, List.getElem_toArray, List.getElem_cons_zero, List.getElem_cons_succ]
          refine wpAnyH_take (i := 23) (v := ?vq84x23) rfl (by kernel_rfl) (by kernel_rfl) (by kernel_rfl) (fun _ _ _ h => h) (Or.inl ⟨by rfl, ?hq84x23⟩) hHeld ?rq84x23
          case hq84x23 => intro w9 hSw; (try dsimp only at hSw); first | (go_simp; done) | (go_simp; with_reducible rfl)
          try simp only [Act.put, List.setIfInBounds_toArray, List.set_cons_zero, List.set_cons_succ, List.getElem_toArray, List.getElem_cons_zero, List.getElem_cons_succ]
          refine wpAnyH_take (i := 24) (v := ?vq85x24) rfl (by kernel_rfl) (by kernel_rfl) (by kernel_rfl) (fun _ _ _ h => h) (Or.inl ⟨by rfl, ?hq85x24⟩) hHeld ?rq85x24
          case hq85x24 => intro w9 hSw; (try dsimp only at hSw); first | (go_simp; done) | (go_simp; with_reducible rfl)
          try simp only [Act.put, List.setIfInBounds_toArray, List.set_cons_zero, List.set_cons_succ, List.getElem_toArray, List.getElem_cons_zero, List.getElem_cons_succ]
          refine wpAnyH_take (i := 25) (v := ?vq86x25) rfl (by kernel_rfl) (by kernel_rfl) (by kernel_rfl) (fun _ _ _ h => h) (Or.inl ⟨by rfl, ?hq86x25⟩) hHeld ?rq86x25
          case hq86x25 => intro w9 hSw; (try dsimp only at hSw); first | (go_simp; done) | (go_simp; with_reducible rfl)
          try simp only [Act.put, List.setIfInBounds_toArray, List.set_cons_zero, List.set_cons_succ, List.getElem_toArray, List.getElem_cons_zero, List.getElem_cons_succ]
          refine wpAnyH_take (i := 26) (v := ?vq87x26) rfl (by kernel_rfl) (by kernel_rfl) (by kernel_rfl) (fun _ _ _ h => h) (Or.inl ⟨by rfl, ?hq87x26⟩) hHeld ?rq87x26
          case hq87x26 => intro w9 hSw; (try dsimp only at hSw); obtain ⟨v0, v1, v2, v3, v4, v5⟩ := V2.out.later (below_on B4.out hSw); obtain ⟨m0, m1, m2, m3, m4, m5, m6⟩ := U2.out.later (below_on B4.out hSw); obtain ⟨t0, t1, t2, t3, t4, t5, t6⟩ := U4.out.later hSw; first | (go_simp; done) | (go_simp; with_reducible rfl)
          try simp only [Act.put, List.setIfInBounds_toArray, List.set_cons_zero, List.set_cons_succ, List.getElem_toArray, List.getElem_cons_zero, List.getElem_cons_succ]
          refine wpAnyH_take (i := 27) (v := ?vq88x27) rfl (by kernel_rfl) (by kernel_rfl) (by kernel_rfl) (fun _ _ _ h => h) (Or.inl ⟨by rfl, ?hq88x27⟩) hHeld ?rq88x27
          case hq88x27 => intro w9 hSw; (try dsimp only at hSw); first | (go_simp; done) | (go_simp; with_reducible rfl)
          try simp only [Act.put, List.setIfInBounds_toArray, List.set_cons_zero, List.set_cons_succ, List.getElem_toArray, List.getElem_cons_zero, List.getElem_cons_succ]
          refine wpAnyH_take (i := 28) (v := ?vq89x28) rfl (by kernel_rfl) (by kernel_rfl) (by kernel_rfl) (fun _ _ _ h => h) (Or.inl ⟨by rfl, ?hq89x28⟩) hHeld ?rq89x28
          case hq89x28 => intro w9 hSw; (try dsimp only at hSw); obtain ⟨v0, v1, v2, v3, v4, v5⟩ := V2.out.later (below_on B4.out hSw); obtain ⟨m0, m1, m2, m3, m4, m5, m6⟩ := U2.out.later (below_on B4.out hSw); obtain ⟨t0, t1, t2, t3, t4, t5, t6⟩ := U4.out.later hSw; first | (go_simp; done) | (go_simp; with_reducible rfl)
          try simp only [Act.put, List.setIfInBounds_toArray, List.set_cons_zero, List.set_cons_succ, List.getElem_toArray, List.getElem_cons_zero, List.getElem_cons_succ]
          refine wpAnyH_ready (rs := [29]) (by kernel_rfl) (by simp) (AllReadyH.cons rfl (fun K9 hK => ?_) AllReadyH.nil)
          go_simp
          go_at_call 17
          refine (KS2.out _ HY4.out).mono ?_
          rintro e Y6 ⟨rfl, hb9⟩
          have HY6 := hide (below_on HY4.out hb9)
          clear hb9 hHeld
          refine hK.out _ _ HY6.out (fun hHeld => ?_)
          clear hK K9
          try simp only [Act.put, List.setIfInBounds_toArray, List.set_cons_zero, List.set_cons_succ, List.getElem_toArray, List.getElem_cons_zero, List.getElem_cons_succ]
          refine wpAnyH_take (i := 30) (v := ?vq90x30) rfl (by kernel_rfl) (by kernel_rfl) (by kernel_rfl) (fun _ _ _ h => h) (Or.inl ⟨by rfl, ?hq90x30⟩) hHeld ?rq90x30
          case hq90x30 => intro w9 hSw; (try dsimp only at hSw); first | (go_simp; done) | (go_simp; with_reducible rfl)
          try simp only [Act.put, List.setIfInBounds_toArray, List.set_cons_zero, List.set_cons_succ, List.getElem_toArray, List.getElem_cons_zero, List.getElem_cons_succ]
          refine wpAnyH_take (i := 31) (v := ?vq91x31) rfl (by kernel_rfl) (by kernel_rfl) (by kernel_rfl) (fun _ _ _ h => h) (Or.inl ⟨by rfl, ?hq91x31⟩) hHeld ?rq91x31
          case hq91x31 => intro w9 hSw; (try dsimp only at hSw); first | (go_simp; done) | (go_simp; with_reducible rfl)
          try simp only [Act.put, List.setIfInBounds_toArray, List.set_cons_zero, List.set_cons_succ, List.getElem_toArray, List.getElem_cons_zero, List.getElem_cons_succ]
          refine wpAnyH_take (i := 32) (v := ?vq92x32) rfl (by kernel_rfl) (by kernel_rfl) (by kernel_rfl) (fun _ _ _ h => h) (Or.inl ⟨by rfl, ?hq92x32⟩) hHeld ?rq92x32
          case hq92x32 => intro w9 hSw; (try dsimp only at hSw); first | (go_simp; done) | (go_simp; with_reducible rfl)
          try simp only [Act.put, List.setIfInBounds_toArray, List.set_cons_zero, List.set_cons_succ, List.getElem_toArray, List.getElem_cons_zero, List.getElem_cons_succ]
          refine wpAnyH_take (i := 33) (v := ?vq93x33) rfl (by kernel_rfl) (by kernel_rfl) (by kernel_rfl) (fun _ _ _ h => h) (Or.inl ⟨by rfl, ?hq93x33⟩) hHeld ?rq93x33
          case hq93x33 => intro w9 hSw; (try dsimp only at hSw); obtain ⟨v0, v1, v2, v3, v4, v5⟩ := V2.out.later (below_on B4.out hSw); obtain ⟨m0, m1, m2, m3, m4, m5, m6⟩ := U2.out.later (below_on B4.out hSw); obtain ⟨t0, t1, t2, t3, t4, t5, t6⟩ := U4.out.later hSw; first | (go_simp; done) | (go_simp; with_reducible rfl)
          try simp only [Act.put, List.setIfInBounds_toArray, List.set_cons_zero, List.set_cons_succ, List.getElem_toArray, List.getElem_cons_zero, List.getElem_cons_succ]
          refine wpAnyH_take (i := 34) (v := ?vq94x34) rfl (by kernel_rfl) (by kernel_rfl) (by kernel_rfl) (fun _ _ _ h => h) (Or.inl ⟨by rfl, ?hq94x34⟩) hHeld ?rq94x34
          case hq94x34 => intro w9 hSw; (try dsimp only at hSw); obtain ⟨v0, v1, v2, v3, v4, v5⟩ := V2.out.later (below_on B4.out hSw); obtain ⟨m0, m1, m2, m3, m4, m5, m6⟩ := U2.out.later (below_on B4.out hSw); obtain ⟨t0, t1, t2, t3, t4, t5, t6⟩ := U4.out.later hSw; first | (go_simp; done) | (go_simp; with_reducible rfl)
          try simp only [Act.put, List.setIfInBounds_toArray, List.set_cons_zero, List.set_cons_succ, List.getElem_toArray, List.getElem_cons_zero, List.getElem_cons_succ]
          refine wpAnyH_take (i := 35) (v := ?vq95x35) rfl (by kernel_rfl) (by kernel_rfl) (by kernel_rfl) (fun _ _ _ h => h) (Or.inl ⟨by rfl, ?hq95x35⟩) hHeld ?rq95x35
          case hq95x35 => intro w9 hSw; (try dsimp only at hSw); first | (go_simp; done) | (go_simp; with_reducible rfl)
          try simp only [Act.put, List.setIfInBounds_toArray, List.set_cons_zero, List.set_cons_succ, List.getElem_toArray, List.getElem_cons_zero, List.getElem_cons_succ]
          refine wpAnyH_take (i := 36) (v := ?vq96x36) rfl (by kernel_rfl) (by kernel_rfl) (by kernel_rfl) (fun _ _ _ h => h) (Or.inl ⟨by rfl, ?hq96x36⟩) hHeld ?rq96x36
          case hq96x36 => intro w9 hSw; (try dsimp only at hSw); first | (go_simp; done) | (go_simp; with_reducible rfl)
          try simp only [Act.put, List.setIfInBounds_toArray, List.set_cons_zero, List.set_cons_succ, List.getElem_toArray, List.getElem_cons_zero, List.getElem_cons_succ]
          refine wpAnyH_take (i := 37) (v := ?vq97x37) rfl (by kernel_rfl) (by kernel_rfl) (by kernel_rfl) (fun _ _ _ h => h) (Or.inl ⟨by rfl, ?hq97x37⟩) hHeld ?rq97x37
          case hq97x37 => intro w9 hSw; (try dsimp only at hSw); first | (go_simp; done) | (go_simp; with_reducible rfl)
          try simp only [Act.put, List.setIfInBounds_toArray, List.set_cons_zero, List.set_cons_succ, List.getElem_toArray, List.getElem_cons_zero, List.getElem_cons_succ]
          refine wpAnyH_ready (rs := [38]) (by kernel_rfl) (by simp) (AllReadyH.cons rfl (fun K9 hK => ?_) AllReadyH.nil)
          go_simp
          go_at_call 15
          refine (KS.out _ (below_on B2.out (below_on B4.out HY6.out))).mono ?_
          rintro e Y7 ⟨y8, z8, rfl, hb9, ho9⟩
          have HY7 := hide (below_on HY6.out hb9)
          have HO7 := hide ho9
          have KS3 := hide (implSameRafts X X (J2.out.later (below_on B4.out HY7.out)).rdI (J2.out.later (below_on B4.out HY7.out)).rdJ HO7.out.rdI HO7.out.rdJ)
          rw [sameR_sameg X] at KS3
          clear ho9
          clear hb9 hHeld
          refine hK.out _ _ HY7.out (fun hHeld => ?_)
          clear hK K9
          try simp only [Act.put, List.setIfInBounds_toArray, List.set_cons_zero, List.set_cons_succ, List.getElem_toArray, List.getElem_cons_zero, List.getElem_cons_succ]
          refine wpAnyH_take (i := 39) (v := ?vq98x39) rfl (by kernel_rfl) (by kernel_rfl) (by kernel_rfl) (fun _ _ _ h => h) (Or.inl ⟨by rfl, ?hq98x39⟩) hHeld ?rq98x39
          case hq98x39 => intro w9 hSw; (try dsimp only at hSw); first | (go_simp; done) | (go_simp; with_reducible rfl) | (go_simp; rw [fR1]; done) | (go_simp; rw [fR1]; rfl)
          try simp only [Act.put, List.setIfInBounds_toArray, List.set_cons_zero, List.set_cons_succ, List.getElem_toArray, List.getElem_cons_zero, List.getElem_cons_succ]
          refine wpAnyH_ready (rs := [40]) (by kernel_rfl) (by simp) (AllReadyH.cons rfl (fun K9 hK => ?_) AllReadyH.nil)
          go_simp
          go_at_call 17
          refine (KS3.out).mono ?_
          rintro e Y8 ⟨rfl, hb9⟩
          have HY8 := hide (below_on HY7.out hb9)
          clear hb9 hHeld
          refine hK.out _ _ HY8.out (fun hHeld => ?_)
          clear hK K9
          try simp only [Act.put, List.setIfInBounds_toArray, List.set_cons_zero, List.set_cons_succ, List.getElem_toArray, List.getElem_cons_zero, List.getElem_cons_succ]
          refine wpAnyH_take (i := 41) (v := ?vq99x41) rfl (by kernel_rfl) (by kernel_rfl) (by kernel_rfl) (fun _ _ _ h => h) (Or.inl ⟨by rfl, ?hq99x41⟩) hHeld ?rq99x41
          case hq99x41 => intro w9 hSw; (try dsimp only at hSw); first | (go_simp; done) | (go_simp; with_reducible rfl)
          try simp only [Act.put, List.setIfInBounds_toArray, List.set_cons_zero, List.set_cons_succ, List.getElem_toArray, List.getElem_cons_zero, List.getElem_cons_succ]
          refine wpAnyH_take (i := 42) (v := ?vq100x42) rfl (by kernel_rfl) (by kernel_rfl) (by kernel_rfl) (fun _ _ _ h => h) (Or.inl ⟨by rfl, ?hq100x42⟩) hHeld ?rq100x42
          case hq100x42 => intro w9 hSw; (try dsimp only at hSw); first | (go_simp; done) | (go_simp; with_reducible rfl)
          try simp only [Act.put, List.setIfInBounds_toArray, List.set_cons_zero, List.set_cons_succ, List.getElem_toArray, List.getElem_cons_zero, List.getElem_cons_succ]
          refine wpAnyH_done (by kernel_rfl) ?_ _
          go_wp2
          go_ret
          exact ⟨by simp, below_on B1.out (below_on B2.out (below_on B4.out HY8.out))⟩
  · skip
    have hCb : (C != 0) = true := by simpa using hC
    clear HL
    go_upto_region 6 with fail
    refine wp_region_held_drew (S := fun w' => Below W2.heap.size W2 w') (by kernel_rfl) (below_on (Below.refl _ _) (below_drewN W2 1)) (fun hHeld => ?_)
    refine forgetH (fun wx => Below W2.heap.size W2 wx) hHeld ?_
    clear hHeld
    rintro Y0 hHeld
    clear v0 v1 v2 v3 v4 v5 m0 m1 m2 m3 m4 m5 m6
    refine wpAnyH_take (i := 0) (v := ?ve0x0) rfl (by kernel_rfl) (by kernel_rfl) (by kernel_rfl) (fun _ _ _ h => h) (Or.inl ⟨by rfl, ?he0x0⟩) hHeld ?re0x0
    case he0x0 => intro w9 hSw; (try dsimp only at hSw); obtain ⟨v0, v1, v2, v3, v4, v5⟩ := V2.out.later hSw; obtain ⟨m0, m1, m2, m3, m4, m5, m6⟩ := U2.out.later hSw; first | (go_simp; done) | (go_simp; with_reducible rfl)
    try simp only [Act.put, List.setIfInBounds_toArray, List.set_cons_zero, List.set_cons_succ, List.getElem_toArray, List.getElem_cons_zero]
    refine wpAnyH_take (i := 1) (v := ?ve1x1) rfl (by kernel_rfl) (by kernel_rfl) (by kernel_rfl) (fun _ _ _ h => h) (Or.inl ⟨by rfl, ?he1x1⟩) hHeld ?re1x1
    case he1x1 => intro w9 hSw; (try dsimp only at hSw); obtain ⟨v0, v1, v2, v3, v4, v5⟩ := V2.out.later hSw; obtain ⟨m0, m1, m2, m3, m4, m5, m6⟩ := U2.out.later hSw; first | (go_simp; done) | (go_simp; with_reducible rfl)
    try simp only [Act.put, List.setIfInBounds_toArray, List.set_cons_zero, List.set_cons_succ, List.getElem_toArray, List.getElem_cons_zero, List.getElem_cons_succ]
    refine wpAnyH_take (i := 2) (v := ?ve2x2) rfl (by kernel_rfl) (by kernel_rfl) (by kernel_rfl) (fun _ _ _ h => h) (Or.inl ⟨by rfl, ?he2x2⟩) hHeld ?re2x2
    case he2x2 => intro w9 hSw; (try dsimp only at hSw); obtain ⟨v0, v1, v2, v3, v4, v5⟩ := V2.out.later hSw; obtain ⟨m0, m1, m2, m3, m4, m5, m6⟩ := U2.out.later hSw; first | (go_simp; done) | (go_simp; with_reducible rfl)
    try simp only [Act.put, List.setIfInBounds_toArray, List.set_cons_zero, List.set_cons_succ, List.getElem_toArray, List.getElem_cons_zero, List.getElem_cons_succ]
    refine wpAnyH_take (i := 3) (v := ?ve3x3) rfl (by kernel_rfl) (by kernel_rfl) (by kernel_rfl) (fun _ _ _ h => h) (Or.inl ⟨by rfl, ?he3x3⟩) hHeld ?re3x3
    case he3x3 => intro w9 hSw; (try dsimp only at hSw); obtain ⟨v0, v1, v2, v3, v4, v5⟩ := V2.out.later hSw; obtain ⟨m0, m1, m2, m3, m4, m5, m6⟩ := U2.out.later hSw; first | (go_simp; done) | (go_simp; with_reducible rfl)
    try simp only [Act.put, List.setIfInBounds_toArray, List.set_cons_zero, List.set_cons_succ, List.getElem_toArray, List.getElem_cons_zero, List.getElem_cons_succ]
    refine wpAnyH_take (i := 6) (v := ?ve6x6) rfl (by kernel_rfl) (by kernel_rfl) (by kernel_rfl) (fun _ _ _ h => h) (Or.inl ⟨by rfl, ?he6x6⟩) hHeld ?re6x6
    case he6x6 => intro w9 hSw; (try dsimp only at hSw); obtain ⟨v0, v1, v2, v3, v4, v5⟩ := V2.out.later hSw; obtain ⟨m0, m1, m2, m3, m4, m5, m6⟩ := U2.out.later hSw; first | (go_simp; done) | (go_simp; with_reducible rfl)
    try simp only [Act.put, List.setIfInBounds_toArray, List.set_cons_zero, List.set_cons_succ, List.getElem_toArray, List.getElem_cons_zero, List.getElem_cons_succ]
    refine wpAnyH_take (i := 7) (v := ?ve7x7) rfl (by kernel_rfl) (by kernel_rfl) (by kernel_rfl) (fun _ _ _ h => h) (Or.inl ⟨by rfl, ?he7x7⟩) hHeld ?re7x7
    case he7x7 => intro w9 hSw; (try dsimp only at hSw); obtain ⟨v0, v1, v2, v3, v4, v5⟩ := V2.out.later hSw; obtain ⟨m0, m1, m2, m3, m4, m5, m6⟩ := U2.out.later hSw; first | (go_simp; done) | (go_simp; with_reducible rfl)
    try simp only [Act.put, List.setIfInBounds_toArray, List.set_cons_zero, List.set_cons_succ, List.getElem_toArray, List.getElem_cons_zero, List.getElem_cons_succ]
    have B2x := hide (below_on B2.out hHeld)
    refine wpAnyH_ready (rs := [4]) (by kernel_rfl) (by simp) (AllReadyH.cons rfl (fun K hK => ?_) AllReadyH.nil)
    go_simp
    go_at_call 15
    refine (KS.out _ B2x.out).mono ?_
    rintro e Y1 ⟨y9, z9, rfl, hb9, _⟩
    have HB9 := hide (below_on hHeld hb9)
    clear hb9 hHeld
    refine hK.out _ _ HB9.out (fun hHeld => ?_)
    clear hK K
    try simp only [Act.put, List.setIfInBounds_toArray, List.set_cons_zero, List.set_cons_succ, List.getElem_toArray, List.getElem_cons_zero, List.getElem_cons_succ]
    refine wpAnyH_take (i := 5) (v := ?ve5x5) rfl (by kernel_rfl) (by kernel_rfl) (by kernel_rfl) (fun _ _ _ h => h) (Or.inl ⟨by rfl, ?he5x5⟩) hHeld ?re5x5
    case he5x5 => intro w9 hSw; (try dsimp only at hSw); first | (go_simp; done) | (go_simp; with_reducible rfl) | (go_simp; rw [fR0]; done) | (go_simp; rw [fR0]; rfl)
    try simp only [Act.put, List.setIfInBounds_toArray, List.set_cons_zero, List.set_cons_succ, List.getElem_toArray, List.getElem_cons_zero, List.getElem_cons_succ]
    refine wpAnyH_take (i := 8) (v := ?ve8x8) rfl (by kernel_rfl) (by kernel_rfl) (by kernel_rfl) (fun _ _ _ h => h) (Or.inl ⟨by rfl, ?he8x8⟩) hHeld ?re8x8
    case he8x8 => intro w9 hSw; (try dsimp only at hSw); first | (go_simp; done) | (go_simp; with_reducible rfl)
    try simp only [Act.put, List.setIfInBounds_toArray, List.set_cons_zero, List.set_cons_succ, List.getElem_toArray, List.getElem_cons_zero, List.getElem_cons_succ]
    refine wpAnyH_take (i := 9) (v := ?ve9x9) rfl (by kernel_rfl) (by kernel_rfl) (by kernel_rfl) (fun _ _ _ h => h) (Or.inl ⟨by rfl, ?he9x9⟩) hHeld ?re9x9
    case he9x9 => intro w9 hSw; (try dsimp only at hSw); first | (go_simp; done) | (go_simp; with_reducible rfl)
    try simp only [Act.put, List.setIfInBounds_toArray, List.set_cons_zero, List.set_cons_succ, List.getElem_toArray, List.getElem_cons_zero, List.getElem_cons_succ]
    refine wpAnyH_done (by kernel_rfl) ?_ _
    go_wp2
    go_ret
    exact ⟨by simp, below_on B1.out (below_on B2.out HB9.out)⟩
end Go.Proofs.YtncgpfapepminaaDoor
