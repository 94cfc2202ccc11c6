/- Ld5 Wf1 Ld9 in one text: what each says stands at its head below. -/
import Derived.Test.YtlmaopljihbdkaaGreatG47
import Derived.Test.YtlmaopljihbdkaaGreatG51
import Derived.Test.YtlmaopljihbdkaaGreatG20
import Derived.Test.YtlmaopljihbdkaaGreatG16
import Derived.Test.YtlmaopljihbdkaaGreatG38
import Derived.Test.YtlmaopljihbdkaaGreatG28
import Derived.Test.YtlmaopljihbdkaaGreatG07
import Derived.Test.YtlmaopljihbdkaaGreatG49
import Derived.Test.YtlmaopljihbdkaaGreatG43
namespace Go.Proofs.YtlmaopljihbdkaaGreat
open Go.RowKit Go.Maps
theorem lk_words {vs : List (Int × List Int)} (h : hpF 60 vs = 0) (a : Int) : wordsF (lkP vs a) = 0 := by
  have hall : ∀ p, p ∈ vs → wordsF p.2 = 0 := fun p hp => by
    obtain ⟨i, hi, rfl⟩ := List.getElem_of_mem hp
    unfold hpF at h
    split at h
    · exact absurd h (by decide)
    · have := (firstP_all h i hi).2.2
      simpa [List.getD, hi] using this
  have key : ∀ (L : List (Int × List Int)) (M : Int → List Int), (∀ p, p ∈ L → wordsF p.2 = 0) → wordsF (M a) = 0 → wordsF (L.foldl putM M a) = 0 := by
    intro L
    induction L with
    | nil => intro M _ h; exact h
    | cons p L ih =>
      intro M h1 h2
      refine ih (putM M p) (fun q hq => h1 q (by simp [hq])) ?_
      unfold putM
      split
      · exact h1 p (by simp)
      · exact h2
  exact key vs (fun _ => []) hall (by unfold wordsF; exact wF_ok (by simp) (fun i hi => absurd hi (by simp)))
set_option maxHeartbeats 8000000 in
set_option maxRecDepth 4000 in
theorem implLoadRaft {S : Nat → Prop} {w : World} {v : Value} {vs : List (Int × List Int)} (hv : RdP S w v vs) :
    Calls Tryz.prog 18 #[v] w (EndsRf (ldC vs) (ldR vs) w) := by
  obtain ⟨av, cv, rfl, hvm⟩ := hv.shape
  have HF := hide (viewFaultP (hv.later (below_alloc w (.cells #[.int .i64 0, .int .i64 0, .int .i64 0, .int .i64 0, .int .i64 0, .slice none 0 0, .slice none 0 0] 43))))
  have HV := hide (RdP_old hv)
  have HBad := hide (@ld_bad vs)
  have HNone := hide (@ld_none vs)
  have HText := hide (@ld_text vs)
  have HOk := hide (@ld_ok vs)
  have HWd := hide (@lk_words vs)
  obtain ⟨n, hn⟩ : ∃ n, vs.length = n := ⟨_, rfl⟩
  have HN := hide hn
  have RA : Hid (Res7 w (w.alloc (.cells #[.int .i64 0, .int .i64 0, .int .i64 0, .int .i64 0, .int .i64 0, .slice none 0 0, .slice none 0 0] 43)) w.heap.size) := ⟨below_alloc _ _, Var7_new w _ _ _ _ _ _ _ _, fun o => by simp [go_sem], Nat.le_refl _⟩
  rw [hn] at HF HV hvm ⊢
  obtain ⟨C, hC⟩ : ∃ C, ldC vs = C := ⟨_, rfl⟩
  obtain ⟨R, hR⟩ : ∃ R, ldR vs = R := ⟨_, rfl⟩
  rw [hC, hR] at HBad HNone HText HOk ⊢
  obtain ⟨Z, hZ⟩ : ∃ Z, vF vs = Z := ⟨_, rfl⟩
  have HZ := hide hZ
  rw [hZ] at HF HBad HNone HText HOk
  clear hv hn hC hR hZ
  go_enter Tryz.func18, Tryz.ntmps18
  go_wp2_with fail
  refine HF.out.mono ?_
  rintro e w1 ⟨rfl, hb1⟩
  have RB := hide (RA.out.later hb1)
  clear RA HF hb1
  by_cases h0 : Z = 0
  · subst h0
    by_cases hn0 : n = 0
    · subst hn0
      have hnil : vs = [] := List.eq_nil_of_length_eq_zero HN.out
      obtain ⟨rfl, rfl⟩ := HNone.out rfl hnil
      obtain ⟨c0, c1, c2, c3, c4, c5, c6⟩ := RB.out.v
      have F := RB.out.fr
      have f0 := F 0
      have f1 := F 1
      have f2 := F 2
      have f3 := F 3
      have f4 := F 4
      have f5 := F 5
      have f6 := F 6
      clear F
      have HFn := hide (ret_none (r := w.heap.size) (x0 := .int .i64 0) (x1 := .int .i64 0) (x2 := .int .i64 0) (x3 := .int .i64 0) (x4 := .int .i64 0) RB.out.below (Nat.le_refl _))
      go_wp2
      refine bodyPost_ret (v := .agg #[.int .i64 0, .int .i64 0, .int .i64 0, .int .i64 0, .int .i64 0, .slice none 0 0, .slice none 0 0]) (by simp [results, Tryz.results18, go_sem, c0, c1, c2, c3, c4, c5, c6]) rfl ⟨_, _, rfl, HFn.out.1, HFn.out.2⟩
    · have hnn : (n : Int) ≠ 0 := by omega
      have hne : vs ≠ [] := fun e => hn0 (by rw [← HN.out, e]; rfl)
      have hhp := vF_zero HZ.out
      obtain ⟨h60, hat⟩ := hpF_all hhp
      have HAt := hide (fun i (hi : i < vs.length) => (⟨(hat i hi).1, (hat i hi).2.1⟩ : 0 ≤ (vs.getD i (0, [])).1 ∧ (vs.getD i (0, [])).1 < 40))
      have hmm := @run_makeMap Tryz.prog
      clear hat HBad HNone
      go_upto_region 7 with fail
      obtain ⟨W2, hW2⟩ : ∃ W2, w1.alloc (.map #[] 0) = W2 := ⟨_, rfl⟩
      have hb2 : Below w1.heap.size w1 W2 := by rw [← hW2]; exact below_alloc _ _
      have hse : SeenS (fun b => b < w.heap.size) W2 w1.heap.size 0 fun _ => [] := by rw [← hW2]; exact SeenS.empty w1
      have hs2 : W2.heap.size = w1.heap.size + 1 := by rw [← hW2]; simp
      have RC := hide (RB.out.later hb2)
      have hl1 := RB.out.lt
      have HP := hide (seenPutS hse (HV.out.later (RC.out.below)) (fun b hb => hb) (fun b hb => by omega) HAt.out (by rw [HN.out]; rw [HN.out] at h60; omega))
      rw [HN.out] at HP
      rw [hW2]
      clear hW2 hb2 hse hmm RB
      go_wp2_with fail
      refine HP.out.mono ?_
      rintro e w3 ⟨rfl, hg3, hs3⟩
      have hk3 := Ku.of_grown hg3
      have hb3 : Below w1.heap.size W2 w3 := hk3.below (by omega) (fun b e => by have := Option.some.inj e; omega)
      have RD : Hid (Res7 w w3 w.heap.size) := ⟨RC.out.below.trans (hb3.mono (by omega)), by
        obtain ⟨c0, c1, c2, c3, c4, c5, c6⟩ := RC.out.v
        have hd : ¬ (some w1.heap.size = some w.heap.size) := fun e => by have := Option.some.inj e; omega
        exact ⟨hk3.cell c0 hd, hk3.cell c1 hd, hk3.cell c2 hd, hk3.cell c3 hd, hk3.cell c4 hd, hk3.cell c5 hd, hk3.cell c6 hd⟩, fun o => (hk3.frozen RC.out.lt (fun e => by have := Option.some.inj e; omega)).trans (RC.out.fr o), Nat.le_refl _⟩
      have hs3' : SeenS (fun b => b < w.heap.size) w3 w1.heap.size (0 + n) (lkP vs) := hs3
      have HS3 := hide hs3'
      have HSt := hide (storeInI hs3' (fun b hb => Nat.lt_of_lt_of_le hb RD.out.below.size) (fun a _ _ => HWd.out hhp a))
      clear hg3 hs3 hk3 hb3 HP RC hs3'
      obtain ⟨r, hr⟩ : ∃ r, ldA (lkP vs) = r := ⟨_, rfl⟩
      have HR := hide hr
      have eA : ldN (lkP vs) 0 = r.tm ∧ ldN (lkP vs) 1 = r.vt ∧ ldN (lkP vs) 2 = r.si ∧ ldN (lkP vs) 3 = r.st := by rw [← hr]; exact ⟨rfl, rfl, rfl, rfl⟩
      rw [eA.1, eA.2.1, eA.2.2.1, eA.2.2.2, hr] at HSt
      clear eA hr
      go_wp2_with fail
      refine HSt.out.mono ?_
      rintro e w4 ⟨y, z, rfl, hb4, hiv⟩
      obtain ⟨ay, cy, az, cz, rfl, rfl⟩ := hiv.shape
      go_upto_region 9 with fail
      obtain ⟨W5, hW5⟩ : ∃ W5, w4.alloc (.cells #[.int .i64 r.tm, .int .i64 r.vt, .int .i64 r.si, .int .i64 r.st, .slice ay r.sn.length cy, .slice az r.lg.length cz] 33) = W5 := ⟨_, rfl⟩
      have hb5 : Below w4.heap.size w4 W5 := by rw [← hW5]; exact below_alloc _ _
      have V5 : Var6 W5 w4.heap.size (.int .i64 r.tm) (.int .i64 r.vt) (.int .i64 r.si) (.int .i64 r.st) (.slice ay r.sn.length cy) (.slice az r.lg.length cz) := by rw [← hW5]; exact Var6_new _ _ _ _ _ _ _ _
      have RE := hide ((RD.out.later hb4).later hb5)
      have HI5 := hide (hiv.later hb5)
      have HS5 := hide ((HS3.out.later hb4).later hb5)
      have HFa := hide (implRaftFault r HI5.out.rdI HI5.out.rdJ)
      have hlo : w.heap.size < w3.heap.size := RD.out.lt
      rw [hW5]
      obtain ⟨v0, v1, v2, v3, v4, v5⟩ := V5
      clear hW5 hb4 hb5 hiv RD HS3 HSt
      by_cases hf : rfF r = 0
      · rw [hf] at HFa
        go_wp2_with fail
        refine HFa.out.mono ?_
        rintro e w6 ⟨rfl, hb6⟩
        have RF := hide (RE.out.later hb6)
        have HI6 := hide (HI5.out.later hb6)
        have HH := hide (holdsI r (HS5.out.later hb6) (fun b hb => Nat.lt_of_lt_of_le hb RF.out.below.size) HI6.out.rdI HI6.out.rdJ hf)
        have V6 := (show Var6 W5 w4.heap.size (.int .i64 r.tm) (.int .i64 r.vt) (.int .i64 r.si) (.int .i64 r.st) (.slice ay r.sn.length cy) (.slice az r.lg.length cz) from ⟨v0, v1, v2, v3, v4, v5⟩).later hb6
        clear v0 v1 v2 v3 v4 v5 HFa RE HI5 HS5 hb6
        obtain ⟨v0, v1, v2, v3, v4, v5⟩ := V6
        by_cases hh : hlP (lkP vs) r
        · rw [decide_eq_true hh] at HH
          have hO : ldO (lkP vs) = true := ldO_iff.2 (by rw [HR.out]; exact ⟨hf, hh⟩)
          obtain ⟨rfl, hRr⟩ := HOk.out (by first | trivial | rfl) hne hO
          rw [HR.out] at hRr
          have HRr := hide hRr
          clear hO hRr HText HOk
          go_wp2_with fail
          refine HH.out.mono ?_
          rintro e w7 ⟨rfl, hb7⟩
          have RG := hide (RF.out.later hb7)
          have V7 := (show Var6 w6 w4.heap.size (.int .i64 r.tm) (.int .i64 r.vt) (.int .i64 r.si) (.int .i64 r.st) (.slice ay r.sn.length cy) (.slice az r.lg.length cz) from ⟨v0, v1, v2, v3, v4, v5⟩).later hb7
          have HI7 := hide (IvR.up (HI6.out.later hb7) (Nat.le_refl _) (by have := hb7.size; have := (HI6.out.later hb7); obtain ⟨_, _, _, _, h9, _⟩ := this; exact h9))
          clear v0 v1 v2 v3 v4 v5 HH RF HI6 hb7
          obtain ⟨v0, v1, v2, v3, v4, v5⟩ := V7
          obtain ⟨c0, c1, c2, c3, c4, c5, c6⟩ := RG.out.v
          have F := RG.out.fr
          have f0 := F 0
          have f1 := F 1
          have f2 := F 2
          have f3 := F 3
          have f4 := F 4
          have f5 := F 5
          have f6 := F 6
          clear F
          have HFn := hide (ret_raft (r := w.heap.size) (x0 := .int .i64 0) (x1 := .int .i64 r.tm) (x2 := .int .i64 r.vt) (x3 := .int .i64 r.si) (x4 := .int .i64 r.st) RG.out.below (Nat.le_refl _) HI7.out hlo)
          have hfin : ∀ W, (Below w.heap.size w W ∧ IvR w.heap.size W.heap.size W (.slice ay r.sn.length cy) (.slice az r.lg.length cz) r.sn r.lg) → EndsRf 0 R w (.returned (.agg #[.int .i64 0, .int .i64 r.tm, .int .i64 r.vt, .int .i64 r.si, .int .i64 r.st, .slice ay r.sn.length cy, .slice az r.lg.length cz])) W := fun W h => by
            rw [HRr.out]
            exact ⟨_, _, rfl, h.1, h.2⟩
          have HFin := hide hfin
          clear hfin RG HI7
          go_wp2
          refine bodyPost_ret (v := .agg #[.int .i64 0, .int .i64 r.tm, .int .i64 r.vt, .int .i64 r.si, .int .i64 r.st, .slice ay r.sn.length cy, .slice az r.lg.length cz]) (by simp [results, Tryz.results18, go_sem, c0, c1, c2, c3, c4, c5, c6]) rfl (HFin.out _ HFn.out)
        · rw [decide_eq_false hh] at HH
          have hO : ldO (lkP vs) = false := ldO_no (by rw [HR.out]; exact fun h => hh h.2)
          obtain ⟨rfl, rfl⟩ := HText.out (by first | trivial | rfl) hne hO
          clear hO HText HOk
          go_wp2_with fail
          refine HH.out.mono ?_
          rintro e w7 ⟨rfl, hb7⟩
          have RG := hide (RF.out.later hb7)
          clear v0 v1 v2 v3 v4 v5 HH RF HI6 hb7
          obtain ⟨c0, c1, c2, c3, c4, c5, c6⟩ := RG.out.v
          have F := RG.out.fr
          have f0 := F 0
          have f1 := F 1
          have f2 := F 2
          have f3 := F 3
          have f4 := F 4
          have f5 := F 5
          have f6 := F 6
          clear F
          have HFn := hide (ret_none (r := w.heap.size) (x0 := .int .i64 5) (x1 := .int .i64 0) (x2 := .int .i64 0) (x3 := .int .i64 0) (x4 := .int .i64 0) RG.out.below (Nat.le_refl _))
          go_wp2
          refine bodyPost_ret (v := .agg #[.int .i64 5, .int .i64 0, .int .i64 0, .int .i64 0, .int .i64 0, .slice none 0 0, .slice none 0 0]) (by simp [results, Tryz.results18, go_sem, c0, c1, c2, c3, c4, c5, c6]) rfl ⟨_, _, rfl, HFn.out.1, HFn.out.2⟩
      · have hO : ldO (lkP vs) = false := ldO_no (by rw [HR.out]; exact fun h => hf h.1)
        obtain ⟨rfl, rfl⟩ := HText.out (by first | trivial | rfl) hne hO
        have hfb : (rfF r != 0) = true := by simpa using hf
        obtain ⟨X, hX⟩ : ∃ X, rfF r = X := ⟨_, rfl⟩
        rw [hX] at HFa hf hfb
        clear hO HText HOk hX
        go_wp2_with fail
        refine HFa.out.mono ?_
        rintro e w6 ⟨rfl, hb6⟩
        have RG := hide (RE.out.later hb6)
        clear v0 v1 v2 v3 v4 v5 HFa RE HI5 HS5 hb6
        obtain ⟨c0, c1, c2, c3, c4, c5, c6⟩ := RG.out.v
        have F := RG.out.fr
        have f0 := F 0
        have f1 := F 1
        have f2 := F 2
        have f3 := F 3
        have f4 := F 4
        have f5 := F 5
        have f6 := F 6
        clear F
        have HFn := hide (ret_none (r := w.heap.size) (x0 := .int .i64 5) (x1 := .int .i64 0) (x2 := .int .i64 0) (x3 := .int .i64 0) (x4 := .int .i64 0) RG.out.below (Nat.le_refl _))
        go_wp2
        refine bodyPost_ret (v := .agg #[.int .i64 5, .int .i64 0, .int .i64 0, .int .i64 0, .int .i64 0, .slice none 0 0, .slice none 0 0]) (by simp [results, Tryz.results18, go_sem, c0, c1, c2, c3, c4, c5, c6]) rfl ⟨_, _, rfl, HFn.out.1, HFn.out.2⟩
  · obtain ⟨rfl, rfl⟩ := HBad.out h0
    have h0b : (C == 0) = false := by simpa using h0
    have h0c : (C != 0) = true := by simpa using h0
    obtain ⟨c0, c1, c2, c3, c4, c5, c6⟩ := RB.out.v
    have F := RB.out.fr
    have f0 := F 0
    have f1 := F 1
    have f2 := F 2
    have f3 := F 3
    have f4 := F 4
    have f5 := F 5
    have f6 := F 6
    clear F
    have HFn := hide (ret_none (r := w.heap.size) (x0 := .int .i64 C) (x1 := .int .i64 0) (x2 := .int .i64 0) (x3 := .int .i64 0) (x4 := .int .i64 0) RB.out.below (Nat.le_refl _))
    go_wp2
    refine bodyPost_ret (v := .agg #[.int .i64 C, .int .i64 0, .int .i64 0, .int .i64 0, .int .i64 0, .slice none 0 0, .slice none 0 0]) (by simp [results, Tryz.results18, go_sem, c0, c1, c2, c3, c4, c5, c6]) rfl ⟨_, _, rfl, HFn.out.1, HFn.out.2⟩
end Go.Proofs.YtlmaopljihbdkaaGreat
namespace Go.Proofs.YtlmaopljihbdkaaGreat
open Go.RowKit Go.Maps
def wfF (xss : List (List Int)) (ps : List (Int × List Int)) (r : Rf) : Int :=
  if rfF r = 0 then (if lgF xss ps = 0 then (if ps = [] then (if ldC (vwL xss ps) = 0 then (if sameR (ldR (vwL xss ps)) r = true then 0 else 10) else ldC (vwL xss ps)) else 1) else lgF xss ps) else rfF r
theorem wf_raft {xss : List (List Int)} {ps : List (Int × List Int)} {r : Rf} (h : rfF r ≠ 0) : wfF xss ps r = rfF r := by unfold wfF; rw [if_neg h]
theorem wf_view {xss : List (List Int)} {ps : List (Int × List Int)} {r : Rf} (h : rfF r = 0) (h1 : lgF xss ps ≠ 0) : wfF xss ps r = lgF xss ps := by unfold wfF; rw [if_pos h, if_neg h1]
theorem wf_cache {xss : List (List Int)} {ps : List (Int × List Int)} {r : Rf} (h : rfF r = 0) (h1 : lgF xss ps = 0) (h2 : ps ≠ []) : wfF xss ps r = 1 := by unfold wfF; rw [if_pos h, if_pos h1, if_neg h2]
theorem wf_load {xss : List (List Int)} {ps : List (Int × List Int)} {r : Rf} (h : rfF r = 0) (h1 : lgF xss ps = 0) (h2 : ps = []) (h3 : ldC (vwL xss ps) ≠ 0) : wfF xss ps r = ldC (vwL xss ps) := by unfold wfF; rw [if_pos h, if_pos h1, if_pos h2, if_neg h3]
theorem wf_last {xss : List (List Int)} {ps : List (Int × List Int)} {r : Rf} (h : rfF r = 0) (h1 : lgF xss ps = 0) (h2 : ps = []) (h3 : ldC (vwL xss ps) = 0) : wfF xss ps r = if sameR (ldR (vwL xss ps)) r = true then 0 else 10 := by unfold wfF; rw [if_pos h, if_pos h1, if_pos h2, if_pos h3]
set_option maxHeartbeats 8000000 in
set_option maxRecDepth 4000 in
theorem implWorldFault {S1 S2 S3 S4 : Nat → Prop} {w : World} {u v y z : Value} {xss : List (List Int)} {ps : List (Int × List Int)} (r : Rf) (hu : RdII S1 w u xss) (hv : RdP S2 w v ps) (hy : RdI S3 w y r.sn) (hz : RdJ S4 w z r.lg) (hs : Small xss ps) :
    Calls Tryz.prog 27 #[.agg #[u, v, .int .i64 r.tm, .int .i64 r.vt, .int .i64 r.si, .int .i64 r.st, y, z]] w fun e w' => e = .returned (.int .i64 (wfF xss ps r)) ∧ Below w.heap.size w w' := by
  obtain ⟨au, cu, rfl⟩ := hu.shapeW
  obtain ⟨av, cv, rfl⟩ := hv.shapeW
  obtain ⟨ay, cy, rfl⟩ := hy.shape
  obtain ⟨az, cz, rfl, _⟩ := hz.shape
  have HU := hide hu
  have HV := hide hv
  have HY := hide hy
  have HZ := hide hz
  have HSm := hide hs
  have H1 := hide (@wf_raft xss ps r)
  have H2 := hide (@wf_view xss ps r)
  have H3 := hide (@wf_cache xss ps r)
  have H4 := hide (@wf_load xss ps r)
  have H5 := hide (@wf_last xss ps r)
  obtain ⟨F, hF⟩ : ∃ F, wfF xss ps r = F := ⟨_, rfl⟩
  rw [hF] at H1 H2 H3 H4 H5 ⊢
  obtain ⟨lu, hlu⟩ : ∃ l, xss.length = l := ⟨_, rfl⟩
  obtain ⟨lv, hlv⟩ : ∃ l, ps.length = l := ⟨_, rfl⟩
  have HLv := hide hlv
  obtain ⟨ly, hly⟩ : ∃ l, r.sn.length = l := ⟨_, rfl⟩
  obtain ⟨lz, hlz⟩ : ∃ l, r.lg.length = l := ⟨_, rfl⟩
  have hvm : ps.length ≤ 9223372036854775807 := by have := hs.puts; omega
  rw [hlu] at HU ⊢
  rw [hlv] at HV hvm ⊢
  rw [hly] at HY ⊢
  rw [hlz] at HZ ⊢
  clear hu hv hy hz hs hF hlu hlv hly hlz
  go_enter Tryz.func27, Tryz.ntmps27
  go_upto_region 1 with fail
  obtain ⟨W1, hW1⟩ : ∃ W1, w.alloc (.cells #[.slice au lu cu, .slice av lv cv, .int .i64 r.tm, .int .i64 r.vt, .int .i64 r.si, .int .i64 r.st, .slice ay ly cy, .slice az lz cz] 61) = W1 := ⟨_, rfl⟩
  have hb1 : Below w.heap.size w W1 := by rw [← hW1]; exact below_alloc _ _
  have V1 : Hid (Var8 W1 w.heap.size (.slice au lu cu) (.slice av lv cv) (.int .i64 r.tm) (.int .i64 r.vt) (.int .i64 r.si) (.int .i64 r.st) (.slice ay ly cy) (.slice az lz cz)) := by rw [← hW1]; exact Var8_new _ _ _ _ _ _ _ _ _ _
  have B1 := hide hb1
  rw [hW1]
  clear hW1 hb1
  have HRf := hide (implRaftFault r (HY.out.later B1.out) (HZ.out.later B1.out))
  obtain ⟨Zr, hZr⟩ : ∃ Z, rfF r = Z := ⟨_, rfl⟩
  rw [hZr] at HRf H1 H2 H3 H4 H5
  clear hZr
  obtain ⟨c0, c1, c2, c3, c4, c5, c6, c7⟩ := V1.out
  go_wp2_with fail
  refine HRf.out.mono ?_
  rintro e w2 ⟨rfl, hb2⟩
  have V2 := hide (V1.out.later hb2)
  have B2 := hide (below_on B1.out hb2)
  clear c0 c1 c2 c3 c4 c5 c6 c7 hb2 V1 B1 HRf
  by_cases h1 : Zr = 0
  · subst h1
    have hVw := implViewOf (HU.out.later B2.out) (HV.out.later B2.out) HSm.out
    unfold EndsP at hVw
    have HVw := hide hVw
    obtain ⟨Zl, hZl⟩ : ∃ Z, lgF xss ps = Z := ⟨_, rfl⟩
    obtain ⟨vw, hvw⟩ : ∃ x, vwL xss ps = x := ⟨_, rfl⟩
    rw [hZl, hvw] at HVw
    rw [hZl] at H2 H3 H4 H5
    rw [hvw] at H4 H5
    clear hVw hZl hvw
    obtain ⟨c0, c1, c2, c3, c4, c5, c6, c7⟩ := V2.out
    go_wp2_with fail
    refine HVw.out.mono ?_
    rintro e w3 ⟨q3, rfl, hb3, ho3⟩
    have V3 := hide (V2.out.later hb3)
    have B3 := hide (below_on B2.out hb3)
    obtain ⟨a3, c3', rfl⟩ := ho3.rd.shapeW
    obtain ⟨n3, hn3⟩ : ∃ l, vw.length = l := ⟨_, rfl⟩
    have HRd3 := hide ho3.rd
    rw [hn3] at HRd3 ⊢
    clear c0 c1 c2 c3 c4 c5 c6 c7 hb3 V2 B2 HVw ho3 hn3
    go_upto_region 5 with fail
    obtain ⟨W4, hW4⟩ : ∃ W4, w3.alloc (.cells #[.int .i64 Zl, .slice a3 n3 c3'] 29) = W4 := ⟨_, rfl⟩
    have hb4 : Below w3.heap.size w3 W4 := by rw [← hW4]; exact below_alloc _ _
    have p0 : W4.cell? ⟨w3.heap.size, 0, none⟩ = some (.int .i64 Zl) := by rw [← hW4]; simp [go_sem]
    have p1 : W4.cell? ⟨w3.heap.size, 1, none⟩ = some (.slice a3 n3 c3') := by rw [← hW4]; simp [go_sem]
    have V4 := hide (V3.out.later hb4)
    have B4 := hide (below_on B3.out hb4)
    have HRd4 := hide (HRd3.out.later hb4)
    rw [hW4]
    clear hW4 hb4 V3 B3 HRd3
    obtain ⟨c0, c1, c2, c3, c4, c5, c6, c7⟩ := V4.out
    by_cases h2 : Zl = 0
    · subst h2
      by_cases h3 : lv = 0
      · subst h3
        have hnil : ps = [] := List.eq_nil_of_length_eq_zero HLv.out
        have hLd := implLoadRaft HRd4.out
        unfold EndsRf at hLd
        have HLd := hide hLd
        obtain ⟨C, hC⟩ : ∃ C, ldC vw = C := ⟨_, rfl⟩
        obtain ⟨R, hR⟩ : ∃ R, ldR vw = R := ⟨_, rfl⟩
        rw [hC, hR] at HLd
        rw [hC] at H4 H5
        rw [hR] at H5
        clear hLd hC hR
        go_wp2_with fail
        refine HLd.out.mono ?_
        rintro e w5 ⟨y5, z5, rfl, hb5, hiv5⟩
        have V5 := hide (V4.out.later hb5)
        have B5 := hide (below_on B4.out hb5)
        obtain ⟨a5, d5, b5, e5, rfl, rfl⟩ := hiv5.shape
        obtain ⟨l5, hl5⟩ : ∃ l, R.sn.length = l := ⟨_, rfl⟩
        obtain ⟨m5, hm5⟩ : ∃ l, R.lg.length = l := ⟨_, rfl⟩
        rw [hl5, hm5] at hiv5 ⊢
        have HIv5 := hide hiv5
        clear c0 c1 c2 c3 c4 c5 c6 c7 hb5 hiv5 V4 B4 HLd hl5 hm5 p0 p1
        go_upto_region 10 with fail
        obtain ⟨W6, hW6⟩ : ∃ W6, w5.alloc (.cells #[.int .i64 C, .int .i64 R.tm, .int .i64 R.vt, .int .i64 R.si, .int .i64 R.st, .slice a5 l5 d5, .slice b5 m5 e5] 43) = W6 := ⟨_, rfl⟩
        have hb6 : Below w5.heap.size w5 W6 := by rw [← hW6]; exact below_alloc _ _
        have V7 : Hid (Var7 W6 w5.heap.size (.int .i64 C) (.int .i64 R.tm) (.int .i64 R.vt) (.int .i64 R.si) (.int .i64 R.st) (.slice a5 l5 d5) (.slice b5 m5 e5)) := by rw [← hW6]; exact Var7_new _ _ _ _ _ _ _ _ _
        have V6 := hide (V5.out.later hb6)
        have B6 := hide (below_on B5.out hb6)
        have HIv6 := hide (HIv5.out.later hb6)
        rw [hW6]
        clear hW6 hb6 V5 B5 HIv5
        obtain ⟨c0, c1, c2, c3, c4, c5, c6, c7⟩ := V6.out
        obtain ⟨g0, g1, g2, g3, g4, g5, g6⟩ := V7.out
        by_cases h4 : C = 0
        · subst h4
          have hF := H5.out (by first | trivial | rfl) (by first | trivial | rfl) hnil (by first | trivial | rfl)
          have HSame := hide (implSameRafts R r HIv6.out.rdI HIv6.out.rdJ (HY.out.later B6.out) (HZ.out.later B6.out))
          obtain ⟨sm, hsm⟩ : ∃ b, sameR R r = b := ⟨_, rfl⟩
          rw [hsm] at HSame hF
          clear hsm H4 H5
          go_wp2_with fail
          refine HSame.out.mono ?_
          rintro e w7 ⟨rfl, hb7⟩
          have B7 := hide (below_on B6.out hb7)
          clear hb7 c0 c1 c2 c3 c4 c5 c6 c7 g0 g1 g2 g3 g4 g5 g6
          cases sm with
          | true =>
            subst hF
            go_wp2
            go_ret
            exact ⟨rfl, B7.out⟩
          | false =>
            subst hF
            go_wp2
            go_ret
            exact ⟨rfl, B7.out⟩
        · have hF := H4.out (by first | trivial | rfl) (by first | trivial | rfl) hnil h4
          subst hF
          have h4b : (F != 0) = true := by simpa using h4
          go_wp2
          go_ret
          exact ⟨rfl, B6.out⟩
      · have hne : ps ≠ [] := fun e => h3 (by rw [← HLv.out, e]; rfl)
        have hF := H3.out (by first | trivial | rfl) (by first | trivial | rfl) hne
        subst hF
        have h3i : ¬ (lv : Int) = 0 := by omega
        go_wp2
        go_ret
        exact ⟨rfl, B4.out⟩
    · have hF := H2.out (by first | trivial | rfl) h2
      subst hF
      have h2b : (F != 0) = true := by simpa using h2
      go_wp2
      go_ret
      exact ⟨rfl, B4.out⟩
  · have hF := H1.out h1
    subst hF
    have h1b : (F != 0) = true := by simpa using h1
    go_wp2
    go_ret
    exact ⟨rfl, B2.out⟩
end Go.Proofs.YtlmaopljihbdkaaGreat
namespace Go.Proofs.YtlmaopljihbdkaaGreat
open Go.RowKit Go.Maps
set_option maxHeartbeats 8000000 in
set_option maxRecDepth 4000 in
theorem specLoadRaft {S : Nat → Prop} {w : World} {v : Value} {vs : List (Int × List Int)} (hv : RdP S w v vs) :
    Calls Tryz.prog 16 #[v] w (EndsRf (ldC vs) (ldR vs) w) := by
  obtain ⟨av, cv, rfl, hvm⟩ := hv.shape
  have hF := specApplyPuts (hv.later (below_alloc w (.cells #[.int .i64 0, .int .i64 0, .int .i64 0, .int .i64 0, .int .i64 0, .slice none 0 0, .slice none 0 0] 43))) (⟨none, 0, rfl, Nat.zero_le _, fun h => absurd rfl h⟩ : RdP (fun _ => False) _ (.slice none 0 0) [])
  unfold EndsP at hF
  rw [apC_nil] at hF
  have HF := hide hF
  have HV := hide (RdP_old hv)
  have HBad := hide (@ld_bad vs)
  have HNone := hide (@ld_none vs)
  have HText := hide (@ld_text vs)
  have HOk := hide (@ld_ok vs)
  have HWd := hide (@lk_words vs)
  obtain ⟨n, hn⟩ : ∃ n, vs.length = n := ⟨_, rfl⟩
  have HN := hide hn
  have RA : Hid (Res7 w (w.alloc (.cells #[.int .i64 0, .int .i64 0, .int .i64 0, .int .i64 0, .int .i64 0, .slice none 0 0, .slice none 0 0] 43)) w.heap.size) := ⟨below_alloc _ _, Var7_new w _ _ _ _ _ _ _ _, fun o => by simp [go_sem], Nat.le_refl _⟩
  rw [hn] at HF HV hvm ⊢
  obtain ⟨C, hC⟩ : ∃ C, ldC vs = C := ⟨_, rfl⟩
  obtain ⟨R, hR⟩ : ∃ R, ldR vs = R := ⟨_, rfl⟩
  rw [hC, hR] at HBad HNone HText HOk ⊢
  obtain ⟨Z, hZ⟩ : ∃ Z, vF vs = Z := ⟨_, rfl⟩
  have HZ := hide hZ
  rw [hZ] at HF HBad HNone HText HOk
  clear hv hn hC hR hZ hF
  go_enter Tryz.func16, Tryz.ntmps16
  go_wp2_with fail
  refine HF.out.mono ?_
  rintro e w1 ⟨zu, rfl, hb1, hou⟩
  obtain ⟨au, cu, hzu, _⟩ := hou.rd.shape
  subst hzu
  obtain ⟨nu, hnu⟩ : ∃ l, (apR vs []).length = l := ⟨_, rfl⟩
  rw [hnu]
  have RB := hide (RA.out.later hb1)
  clear RA HF hb1 hou hnu
  go_upto_region 2 with fail
  obtain ⟨W2, hW2⟩ : ∃ W2, w1.alloc (.cells #[.int .i64 Z, .slice au nu cu] 29) = W2 := ⟨_, rfl⟩
  have hb2 : Below w1.heap.size w1 W2 := by rw [← hW2]; exact below_alloc _ _
  have p0 : W2.cell? ⟨w1.heap.size, 0, none⟩ = some (.int .i64 Z) := by rw [← hW2]; simp [go_sem]
  have RC := hide (RB.out.later hb2)
  rw [hW2]
  clear hW2 hb2 RB
  by_cases h0 : Z = 0
  · subst h0
    by_cases hn0 : n = 0
    · subst hn0
      have hnil : vs = [] := List.eq_nil_of_length_eq_zero HN.out
      obtain ⟨rfl, rfl⟩ := HNone.out rfl hnil
      obtain ⟨c0, c1, c2, c3, c4, c5, c6⟩ := RC.out.v
      have F := RC.out.fr
      have f0 := F 0
      have f1 := F 1
      have f2 := F 2
      have f3 := F 3
      have f4 := F 4
      have f5 := F 5
      have f6 := F 6
      clear F
      have HFn := hide (ret_none (r := w.heap.size) (x0 := .int .i64 0) (x1 := .int .i64 0) (x2 := .int .i64 0) (x3 := .int .i64 0) (x4 := .int .i64 0) RC.out.below (Nat.le_refl _))
      go_wp2
      refine bodyPost_ret (v := .agg #[.int .i64 0, .int .i64 0, .int .i64 0, .int .i64 0, .int .i64 0, .slice none 0 0, .slice none 0 0]) (by simp [results, Tryz.results16, go_sem, c0, c1, c2, c3, c4, c5, c6]) rfl ⟨_, _, rfl, HFn.out.1, HFn.out.2⟩
    · have hnn : (n : Int) ≠ 0 := by omega
      have hne : vs ≠ [] := fun e => hn0 (by rw [← HN.out, e]; rfl)
      have hhp := vF_zero HZ.out
      have HLd := hide (l11LoadP (HV.out.later RC.out.below) (fun b hb => Nat.lt_of_lt_of_le hb RC.out.below.size) (HWd.out hhp))
      have hlo : w.heap.size < W2.heap.size := RC.out.lt
      unfold EndsLm at HLd
      obtain ⟨P, hP⟩ : ∃ P, ldO (lkP vs) = P := ⟨_, rfl⟩
      obtain ⟨r, hr⟩ : ∃ r, ldA (lkP vs) = r := ⟨_, rfl⟩
      have HR := hide hr
      have HP := hide hP
      rw [hP] at HLd
      rw [hr] at HLd
      clear hP hr HBad HNone
      go_wp2_with fail
      refine HLd.out.mono ?_
      rintro e w3 ⟨hb3, hend⟩
      have RD := hide (RC.out.later hb3)
      clear HLd RC hb3
      rcases hend with ⟨rfl, y, z, rfl, hiv⟩ | ⟨rfl, rfl⟩
      · obtain ⟨rfl, hRr⟩ := HOk.out (by first | trivial | rfl) hne HP.out
        rw [HR.out] at hRr
        have HRr := hide hRr
        obtain ⟨ay, cy, az, cz, rfl, rfl⟩ := hiv.shape
        go_upto_region 7 with fail
        obtain ⟨W4, hW4⟩ : ∃ W4, w3.alloc (.cells #[.int .i64 r.tm, .int .i64 r.vt, .int .i64 r.si, .int .i64 r.st, .slice ay r.sn.length cy, .slice az r.lg.length cz] 33) = W4 := ⟨_, rfl⟩
        have hb4 : Below w3.heap.size w3 W4 := by rw [← hW4]; exact below_alloc _ _
        have V4 : Var6 W4 w3.heap.size (.int .i64 r.tm) (.int .i64 r.vt) (.int .i64 r.si) (.int .i64 r.st) (.slice ay r.sn.length cy) (.slice az r.lg.length cz) := by rw [← hW4]; exact Var6_new _ _ _ _ _ _ _ _
        have RG := hide (RD.out.later hb4)
        have HI7 := hide (IvR.up (hiv.later hb4) (Nat.le_refl _) hb4.size)
        rw [hW4]
        clear hW4 hb4 hiv RD hRr HOk HText
        obtain ⟨v0, v1, v2, v3, v4, v5⟩ := V4
        obtain ⟨c0, c1, c2, c3, c4, c5, c6⟩ := RG.out.v
        have F := RG.out.fr
        have f0 := F 0
        have f1 := F 1
        have f2 := F 2
        have f3 := F 3
        have f4 := F 4
        have f5 := F 5
        have f6 := F 6
        clear F
        have HFn := hide (ret_raft (r := w.heap.size) (x0 := .int .i64 0) (x1 := .int .i64 r.tm) (x2 := .int .i64 r.vt) (x3 := .int .i64 r.si) (x4 := .int .i64 r.st) RG.out.below (Nat.le_refl _) HI7.out hlo)
        have hfin : ∀ W, (Below w.heap.size w W ∧ IvR w.heap.size W.heap.size W (.slice ay r.sn.length cy) (.slice az r.lg.length cz) r.sn r.lg) → EndsRf 0 R w (.returned (.agg #[.int .i64 0, .int .i64 r.tm, .int .i64 r.vt, .int .i64 r.si, .int .i64 r.st, .slice ay r.sn.length cy, .slice az r.lg.length cz])) W := fun W h => by
          rw [HRr.out]
          exact ⟨_, _, rfl, h.1, h.2⟩
        have HFin := hide hfin
        clear hfin RG HI7
        go_wp2
        refine bodyPost_ret (v := .agg #[.int .i64 0, .int .i64 r.tm, .int .i64 r.vt, .int .i64 r.si, .int .i64 r.st, .slice ay r.sn.length cy, .slice az r.lg.length cz]) (by simp [results, Tryz.results16, go_sem, c0, c1, c2, c3, c4, c5, c6]) rfl (HFin.out _ HFn.out)
      · obtain ⟨rfl, rfl⟩ := HText.out (by first | trivial | rfl) hne HP.out
        go_upto_region 8 with fail
        obtain ⟨W4, hW4⟩ : ∃ W4, w3.alloc (.cells #[.int .i64 0, .int .i64 0, .int .i64 0, .int .i64 0, .slice none 0 0, .slice none 0 0] 33) = W4 := ⟨_, rfl⟩
        have hb4 : Below w3.heap.size w3 W4 := by rw [← hW4]; exact below_alloc _ _
        have RG := hide (RD.out.later hb4)
        rw [hW4]
        clear hW4 hb4 RD HOk HText
        go_wp2_with fail
        refine (l10BadI 5 _).mono ?_
        rintro e w5 ⟨rfl, hb5⟩
        have RH := hide (RG.out.later hb5)
        clear hb5 RG
        obtain ⟨c0, c1, c2, c3, c4, c5, c6⟩ := RH.out.v
        have F := RH.out.fr
        have f0 := F 0
        have f1 := F 1
        have f2 := F 2
        have f3 := F 3
        have f4 := F 4
        have f5 := F 5
        have f6 := F 6
        clear F
        have HFn := hide (ret_none (r := w.heap.size) (x0 := .int .i64 5) (x1 := .int .i64 0) (x2 := .int .i64 0) (x3 := .int .i64 0) (x4 := .int .i64 0) RH.out.below (Nat.le_refl _))
        go_wp2
        refine bodyPost_ret (v := .agg #[.int .i64 5, .int .i64 0, .int .i64 0, .int .i64 0, .int .i64 0, .slice none 0 0, .slice none 0 0]) (by simp [results, Tryz.results16, go_sem, c0, c1, c2, c3, c4, c5, c6]) rfl ⟨_, _, rfl, HFn.out.1, HFn.out.2⟩
  · obtain ⟨rfl, rfl⟩ := HBad.out h0
    have h0b : (C == 0) = false := by simpa using h0
    have h0c : (C != 0) = true := by simpa using h0
    go_wp2_with fail
    refine (l10BadI C _).mono ?_
    rintro e w5 ⟨rfl, hb5⟩
    have RH := hide (RC.out.later hb5)
    clear hb5 RC
    obtain ⟨c0, c1, c2, c3, c4, c5, c6⟩ := RH.out.v
    have F := RH.out.fr
    have f0 := F 0
    have f1 := F 1
    have f2 := F 2
    have f3 := F 3
    have f4 := F 4
    have f5 := F 5
    have f6 := F 6
    clear F
    have HFn := hide (ret_none (r := w.heap.size) (x0 := .int .i64 C) (x1 := .int .i64 0) (x2 := .int .i64 0) (x3 := .int .i64 0) (x4 := .int .i64 0) RH.out.below (Nat.le_refl _))
    go_wp2
    refine bodyPost_ret (v := .agg #[.int .i64 C, .int .i64 0, .int .i64 0, .int .i64 0, .int .i64 0, .slice none 0 0, .slice none 0 0]) (by simp [results, Tryz.results16, go_sem, c0, c1, c2, c3, c4, c5, c6]) rfl ⟨_, _, rfl, HFn.out.1, HFn.out.2⟩
end Go.Proofs.YtlmaopljihbdkaaGreat
