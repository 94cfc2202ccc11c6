/- Ap1 in one text: what each says stands at its head below. -/
import Derived.Test.YtncgpfapepminaaDoorG20
import Derived.Test.YtncgpfapepminaaDoorG12
import Derived.Test.YtncgpfapepminaaDoorG11
/- Chapter 10: what 'AppendRaft' asks ahead of all, of the program. Made by program (genap1.py). -/
namespace Go.Proofs.YtncgpfapepminaaDoor
open Go.RowKit

/-- The code of an append but for what is too long. -/
def apRF (r : Rf) (i t : Int) (l : List Oj) : Int :=
  if rfF r ≠ 0 then rfF r else if logF l ≠ 0 then logF l else if ¬ fitR r i t l then 1 else if tmC r i ≠ 0 then tmC r i else if tmV r i ≠ t then 10 else 0
theorem af_bad {r : Rf} {i t : Int} {l : List Oj} (h : rfF r ≠ 0) : apRF r i t l = rfF r := by unfold apRF; rw [if_pos h]
theorem af_log {r : Rf} {i t : Int} {l : List Oj} (h : rfF r = 0) (h1 : logF l ≠ 0) : apRF r i t l = logF l := by unfold apRF; rw [if_neg (by simp [h]), if_pos h1]
theorem af_fit {r : Rf} {i t : Int} {l : List Oj} (h : rfF r = 0) (h1 : logF l = 0) (h2 : decide (gon l i t r.tm) = false) : apRF r i t l = 1 := by
  unfold apRF; rw [if_neg (by simp [h]), if_neg (by simp [h1]), if_pos (fun h3 => of_decide_eq_false h2 ((gon_fit r i t l).2 h3))]
theorem af_term {r : Rf} {i t : Int} {l : List Oj} (h : rfF r = 0) (h1 : logF l = 0) (h2 : decide (gon l i t r.tm) = true) : apRF r i t l = if tmC r i ≠ 0 then tmC r i else if tmV r i ≠ t then 10 else 0 := by
  unfold apRF; rw [if_neg (by simp [h]), if_neg (by simp [h1]), if_neg (fun h3 => h3 ((gon_fit r i t l).1 (of_decide_eq_true h2)))]
theorem log_head {l : List Oj} (h : logF l = 0) (hne : l ≠ []) : 1 ≤ (l.getD 0 oj0).1 ∧ (l.getD 0 oj0).1 ≤ 9999 :=
  (entF_zero ((logF_iff.1 h).2.1 0 (List.length_pos_iff.2 hne))).1.1

set_option maxHeartbeats 4000000 in
set_option maxRecDepth 4000 in
theorem appendFaultI {S T U : Nat → Prop} {w : World} {y z v : Value} {ls : List Oj} (r : Rf) (i t : Int) (hg : Gl w) (hy : RdI S w y r.sn) (hz : RdJ T w z r.lg) (hv : RdJ U w v ls) :
    Calls Tryd.prog 48 #[.agg #[.int .i64 r.tm, .int .i64 r.vt, .int .i64 r.si, .int .i64 r.st, y, z], .int .i64 i, .int .i64 t, v] w fun e w' => e = .returned (.int .i64 (apRF r i t ls)) ∧ Below w.heap.size w w' := by
  obtain ⟨ay, cy, rfl⟩ := hy.shape
  obtain ⟨az, cz, rfl, _⟩ := hz.shape
  obtain ⟨av, cv, rfl, _⟩ := hv.shape
  have HG := hide hg
  have HF := hide (fun (w' : World) (hb : Below w.heap.size w w') => implRaftFault r (hy.later hb) (hz.later hb))
  have HLf := hide (fun (w' : World) (hb : Below w.heap.size w w') => implLogFault (hv.later hb))
  have HGo := hide (fun (h : logF ls = 0) (w' : World) (hb : Below w.heap.size w w') => goesOnB i t r.tm (hv.later hb) (log_head h))
  have HT := hide (fun (hm : r.lg.length ≤ 14) (w' : World) (hb : Below w.heap.size w w') => termsOfI r (hy.later hb) (hz.later hb) hm)
  have HI := hide (fun h => rfF_iff (r := r) |>.1 h)
  have HBad := hide (@af_bad r i t ls)
  have HLog := hide (@af_log r i t ls)
  have HFit := hide (@af_fit r i t ls)
  have HTerm := hide (@af_term r i t ls)
  have HLo := hide (@tm_lo r i)
  have HHi := hide (@tm_hi r i)
  have HIn := hide (@tm_in r i)
  have HAt := hide (@trm_at r i)
  have HTl : Hid ((trmL r).length = r.lg.length + 1) := by simp [Hid, trmL]
  have HLast : Hid (lastR r = r.si + (r.lg.length : Int)) := rfl
  obtain ⟨G, hG⟩ : ∃ x, decide (gon ls i t r.tm) = x := ⟨_, rfl⟩
  simp only [hG] at HGo HFit HTerm
  obtain ⟨A, hA⟩ : ∃ A, apRF r i t ls = A := ⟨_, rfl⟩
  rw [hA] at HBad HLog HFit HTerm ⊢
  obtain ⟨Z, hZ⟩ : ∃ Z, rfF r = Z := ⟨_, rfl⟩
  rw [hZ] at HF HI HBad HLog HFit HTerm
  obtain ⟨D, hD⟩ : ∃ D, logF ls = D := ⟨_, rfl⟩
  simp only [hD] at HLf HGo HLog HFit HTerm
  obtain ⟨TC, hTC⟩ : ∃ x, tmC r i = x := ⟨_, rfl⟩
  obtain ⟨TV, hTV⟩ : ∃ x, tmV r i = x := ⟨_, rfl⟩
  simp only [hTC, hTV] at HTerm HLo HHi HIn HAt
  clear hG hA hZ hD hTC hTV hy hz hv hg
  generalize r.sn.length = l at *
  obtain ⟨m, hm⟩ : ∃ m, r.lg.length = m := ⟨_, rfl⟩
  simp only [hm] at HF HT HTl HLast ⊢
  have HM := hide hm
  clear hm
  have HRs := hide (fun h => (HI.out h).rg.2.1)
  have HLm := hide (fun h => (logF_iff.1 (HI.out h).lo).1)
  simp only [HM.out] at HLm
  generalize ls.length = ll at *
  obtain ⟨a, ha⟩ : ∃ x, r.tm = x := ⟨_, rfl⟩
  obtain ⟨b, hb⟩ : ∃ x, r.vt = x := ⟨_, rfl⟩
  obtain ⟨c, hc⟩ : ∃ x, r.si = x := ⟨_, rfl⟩
  obtain ⟨d, hd⟩ : ∃ x, r.st = x := ⟨_, rfl⟩
  simp only [ha, hb, hc, hd] at HF HT HGo ⊢
  simp only [hc] at HLo HHi HIn HAt HRs HLast
  clear ha hb hc hd
  have BA := hide (below_alloc w (.cells #[.int .i64 a, .int .i64 b, .int .i64 c, .int .i64 d, .slice ay l cy, .slice az m cz] 27))
  have VA := hide (Var6_new w (.int .i64 a) (.int .i64 b) (.int .i64 c) (.int .i64 d) (.slice ay l cy) (.slice az m cz) 27)
  obtain ⟨W, hW⟩ : ∃ W, w.alloc (.cells #[.int .i64 a, .int .i64 b, .int .i64 c, .int .i64 d, .slice ay l cy, .slice az m cz] 27) = W := ⟨_, rfl⟩
  rw [hW] at BA VA
  obtain ⟨v0, v1, v2, v3, v4, v5⟩ := VA.out
  go_enter Tryd.func48, Tryd.ntmps48
  go_wp2_with fail
  (try rw [hW])
  refine (HF.out _ BA.out).mono ?_
  rintro e w1 ⟨rfl, hb⟩
  have BB := hide (below_on BA.out hb)
  have VB := hide (VA.out.later hb)
  clear hb v0 v1 v2 v3 v4 v5 VA
  clear hW
  obtain ⟨v0, v1, v2, v3, v4, v5⟩ := VB.out
  by_cases h0 : Z = 0
  · subst h0
    go_wp2_with fail
    refine (HLf.out _ BB.out).mono ?_
    rintro e w2 ⟨rfl, hb⟩
    have BC := hide (below_on BB.out hb)
    have VC := hide (VB.out.later hb)
    clear hb v0 v1 v2 v3 v4 v5 VB
    obtain ⟨v0, v1, v2, v3, v4, v5⟩ := VC.out
    by_cases h1 : D = 0
    · subst h1
      have HGp := hide (HGo.out (by first | trivial | rfl))
      go_wp2_with fail
      refine (HGp.out _ BC.out).mono ?_
      rintro e w3 ⟨rfl, hb⟩
      have BD := hide (below_on BC.out hb)
      have VD := hide (VC.out.later hb)
      clear hb v0 v1 v2 v3 v4 v5 VC
      obtain ⟨v0, v1, v2, v3, v4, v5⟩ := VD.out
      cases G
      · obtain rfl := HFit.out (by first | trivial | rfl) (by first | trivial | rfl) (by first | trivial | rfl)
        go_wp2
        go_ret
        exact ⟨rfl, BD.out⟩
      · have hAe := HTerm.out (by first | trivial | rfl) (by first | trivial | rfl) (by first | trivial | rfl)
        have hml := HLm.out (by first | trivial | rfl)
        have hrs := HRs.out (by first | trivial | rfl)
        have HTt := hide (HT.out hml)
        go_wp2_with fail
        refine (HTt.out _ BD.out).mono ?_
        rintro e w4 ⟨u, rfl, hb, hu⟩
        have BE := hide (below_on BD.out hb)
        have VE := hide (VD.out.later hb)
        clear hb v0 v1 v2 v3 v4 v5 VD
        have HU := hide hu
        obtain ⟨au, cu, hue⟩ := hu.shape
        rw [HTl.out] at hue
        subst hue
        clear hu
        obtain ⟨⟨pa, hpa⟩, hp2⟩ := HG.out.later BE.out
        have HPa := hide hpa
        clear hpa hp2
        by_cases hlo : i < c
        · obtain ⟨rfl, rfl⟩ := HLo.out hlo
          rw [if_pos (by decide)] at hAe
          subst hAe
          have HAt1 := hide (atLoI c i au (m + 1) cu hlo)
          clear hlo
          go_wp2_with fail
          refine (HAt1.out _).mono ?_
          rintro e w5 ⟨rfl, hb⟩
          have BF := hide (below_on BE.out hb)
          clear hb
          have hne := run_neq_iface_nilR (P := Tryd.prog) w5 104 (.agg #[.int .i64 c]) Tryd.underlying59
          go_wp2_with fail
          refine (codeOver c _ (HG.out.later BF.out)).mono ?_
          rintro e w6 ⟨rfl, hb⟩
          have BH := hide (below_on BF.out hb)
          clear hb hne
          go_wp2
          go_ret
          exact ⟨rfl, BH.out⟩
        · by_cases hhi : c + (m : Int) < i
          · obtain ⟨rfl, rfl⟩ := HHi.out (by omega) (by rw [HLast.out]; omega)
            rw [if_pos (by decide)] at hAe
            subst hAe
            have HAt1 := hide (atHiI c i au (m + 1) cu hrs.1 (by omega) (by omega) (by push_cast; omega) _ pa HPa.out)
            clear hlo hhi
            go_wp2_with fail
            refine (HAt1.out).mono ?_
            rintro e w5 ⟨rfl, hb⟩
            have HPb := hide (cell_later hb HPa.out)
            have BF := hide (below_on BE.out hb)
            clear hb
            have hne := run_neq_iface_nilR (P := Tryd.prog) w5 148 (.pointer (some pa)) Tryd.underlying59
            go_wp2_with fail
            refine (codeYet pa _ (HG.out.later BF.out) HPb.out).mono ?_
            rintro e w6 ⟨rfl, hb⟩
            have BH := hide (below_on BF.out hb)
            clear hb hne
            go_wp2
            go_ret
            exact ⟨rfl, BH.out⟩
          · obtain rfl := HIn.out (by omega) (by rw [HLast.out]; omega)
            have HAt1 := hide (atInI c i HU.out hrs.1 (by omega) (by rw [HTl.out]; omega) (by omega) (by rw [HTl.out]; push_cast; omega))
            rw [HAt.out (by omega) (by rw [HLast.out]; omega)] at HAt1
            rw [if_neg (by simp)] at hAe
            clear hlo hhi
            go_wp2_with fail
            refine (HAt1.out).mono ?_
            rintro e w5 ⟨rfl, hb⟩
            have BF := hide (below_on BE.out hb)
            clear hb
            have hne := run_neq_nil_nilR (P := Tryd.prog) w5 Tryd.underlying59
            by_cases hte : TV = t
            · subst hte
              rw [if_neg (by simp)] at hAe
              subst hAe
              go_wp2
              go_ret
              exact ⟨rfl, BF.out⟩
            · rw [if_pos hte] at hAe
              subst hAe
              have ht1 : (TV == t) = false := by simpa using hte
              have ht2 : (TV != t) = true := by simp [hte]
              clear hte
              go_wp2
              go_ret
              exact ⟨rfl, BF.out⟩
    · obtain rfl := HLog.out (by first | trivial | rfl) h1
      have h0b : (A == 0) = false := by simpa using h1
      have h0c : (A != 0) = true := by simp [h1]
      clear h1
      go_wp2
      go_ret
      exact ⟨rfl, BC.out⟩
  · obtain rfl := HBad.out h0
    have h0b : (A == 0) = false := by simpa using h0
    have h0c : (A != 0) = true := by simp [h0]
    clear h0
    go_wp2
    go_ret
    exact ⟨rfl, BB.out⟩
end Go.Proofs.YtncgpfapepminaaDoor
