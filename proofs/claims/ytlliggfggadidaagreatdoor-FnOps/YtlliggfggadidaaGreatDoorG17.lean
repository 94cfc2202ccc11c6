/- Ap1 CatE in one text: what each says stands at its head below. -/
import Derived.Test.YtlliggfggadidaaGreatDoorG12
import Derived.Test.YtlliggfggadidaaGreatDoorG06
import Derived.Test.YtlliggfggadidaaGreatDoorG05
import Derived.Test.YtlliggfggadidaaGreatDoorG02
import Derived.Test.YtlliggfggadidaaGreatDoorG10
import Derived.Deep.AppendLies
import Derived.Laws.AppendOwnNone
namespace Go.Proofs.YtlliggfggadidaaGreatDoor
open Go.RowKit
def apRF (r : Rf) (i t : Int) (l : List Oj) : Int :=
  if rfF r ≠ 0 then rfF r else if logF l ≠ 0 then logF l else if ¬ fitR r i t l then 1 else if tmC r i ≠ 0 then tmC r i else if tmV r i ≠ t then 10 else 0
theorem af_bad {r : Rf} {i t : Int} {l : List Oj} (h : rfF r ≠ 0) : apRF r i t l = rfF r := by unfold apRF; rw [if_pos h]
theorem af_log {r : Rf} {i t : Int} {l : List Oj} (h : rfF r = 0) (h1 : logF l ≠ 0) : apRF r i t l = logF l := by unfold apRF; rw [if_neg (by simp [h]), if_pos h1]
theorem af_fit {r : Rf} {i t : Int} {l : List Oj} (h : rfF r = 0) (h1 : logF l = 0) (h2 : decide (gon l i t r.tm) = false) : apRF r i t l = 1 := by
  unfold apRF; rw [if_neg (by simp [h]), if_neg (by simp [h1]), if_pos (fun h3 => of_decide_eq_false h2 ((gon_fit r i t l).2 h3))]
theorem af_term {r : Rf} {i t : Int} {l : List Oj} (h : rfF r = 0) (h1 : logF l = 0) (h2 : decide (gon l i t r.tm) = true) : apRF r i t l = if tmC r i ≠ 0 then tmC r i else if tmV r i ≠ t then 10 else 0 := by
  unfold apRF; rw [if_neg (by simp [h]), if_neg (by simp [h1]), if_neg (fun h3 => h3 ((gon_fit r i t l).1 (of_decide_eq_true h2)))]
theorem log_head {l : List Oj} (h : logF l = 0) (hne : l ≠ []) : 1 ≤ (l.getD 0 oj0).1 ∧ (l.getD 0 oj0).1 ≤ 9999 :=
  (entF_zero ((logF_iff.1 h).2.1 0 (List.length_pos_iff.2 hne))).1.1
set_option maxHeartbeats 4000000 in
set_option maxRecDepth 4000 in
theorem appendFaultI {S T U : Nat → Prop} {w : World} {y z v : Value} {ls : List Oj} (r : Rf) (i t : Int) (hg : Gl w) (hy : RdI S w y r.sn) (hz : RdJ T w z r.lg) (hv : RdJ U w v ls) :
    Calls Tryz.prog 101 #[.agg #[.int .i64 r.tm, .int .i64 r.vt, .int .i64 r.si, .int .i64 r.st, y, z], .int .i64 i, .int .i64 t, v] w fun e w' => e = .returned (.int .i64 (apRF r i t ls)) ∧ Below w.heap.size w w' := by
  obtain ⟨ay, cy, rfl⟩ := hy.shape
  obtain ⟨az, cz, rfl, _⟩ := hz.shape
  obtain ⟨av, cv, rfl, _⟩ := hv.shape
  have HG := hide hg
  have HF := hide (fun (w' : World) (hb : Below w.heap.size w w') => implRaftFault r (hy.later hb) (hz.later hb))
  have HLf := hide (fun (w' : World) (hb : Below w.heap.size w w') => implLogFault (hv.later hb))
  have HGo := hide (fun (h : logF ls = 0) (w' : World) (hb : Below w.heap.size w w') => goesOnB i t r.tm (hv.later hb) (log_head h))
  have HT := hide (fun (hm : r.lg.length ≤ 14) (w' : World) (hb : Below w.heap.size w w') => termsOfI r (hy.later hb) (hz.later hb) hm)
  have HI := hide (fun h => rfF_iff (r := r) |>.1 h)
  have HBad := hide (@af_bad r i t ls)
  have HLog := hide (@af_log r i t ls)
  have HFit := hide (@af_fit r i t ls)
  have HTerm := hide (@af_term r i t ls)
  have HLo := hide (@tm_lo r i)
  have HHi := hide (@tm_hi r i)
  have HIn := hide (@tm_in r i)
  have HAt := hide (@trm_at r i)
  have HTl : Hid ((trmL r).length = r.lg.length + 1) := by simp [Hid, trmL]
  have HLast : Hid (lastR r = r.si + (r.lg.length : Int)) := rfl
  obtain ⟨G, hG⟩ : ∃ x, decide (gon ls i t r.tm) = x := ⟨_, rfl⟩
  simp only [hG] at HGo HFit HTerm
  obtain ⟨A, hA⟩ : ∃ A, apRF r i t ls = A := ⟨_, rfl⟩
  rw [hA] at HBad HLog HFit HTerm ⊢
  obtain ⟨Z, hZ⟩ : ∃ Z, rfF r = Z := ⟨_, rfl⟩
  rw [hZ] at HF HI HBad HLog HFit HTerm
  obtain ⟨D, hD⟩ : ∃ D, logF ls = D := ⟨_, rfl⟩
  simp only [hD] at HLf HGo HLog HFit HTerm
  obtain ⟨TC, hTC⟩ : ∃ x, tmC r i = x := ⟨_, rfl⟩
  obtain ⟨TV, hTV⟩ : ∃ x, tmV r i = x := ⟨_, rfl⟩
  simp only [hTC, hTV] at HTerm HLo HHi HIn HAt
  clear hG hA hZ hD hTC hTV hy hz hv hg
  generalize r.sn.length = l at *
  obtain ⟨m, hm⟩ : ∃ m, r.lg.length = m := ⟨_, rfl⟩
  simp only [hm] at HF HT HTl HLast ⊢
  have HM := hide hm
  clear hm
  have HRs := hide (fun h => (HI.out h).rg.2.1)
  have HLm := hide (fun h => (logF_iff.1 (HI.out h).lo).1)
  simp only [HM.out] at HLm
  generalize ls.length = ll at *
  obtain ⟨a, ha⟩ : ∃ x, r.tm = x := ⟨_, rfl⟩
  obtain ⟨b, hb⟩ : ∃ x, r.vt = x := ⟨_, rfl⟩
  obtain ⟨c, hc⟩ : ∃ x, r.si = x := ⟨_, rfl⟩
  obtain ⟨d, hd⟩ : ∃ x, r.st = x := ⟨_, rfl⟩
  simp only [ha, hb, hc, hd] at HF HT HGo ⊢
  simp only [hc] at HLo HHi HIn HAt HRs HLast
  clear ha hb hc hd
  have BA := hide (below_alloc w (.cells #[.int .i64 a, .int .i64 b, .int .i64 c, .int .i64 d, .slice ay l cy, .slice az m cz] 27))
  have VA := hide (Var6_new w (.int .i64 a) (.int .i64 b) (.int .i64 c) (.int .i64 d) (.slice ay l cy) (.slice az m cz) 27)
  obtain ⟨W, hW⟩ : ∃ W, w.alloc (.cells #[.int .i64 a, .int .i64 b, .int .i64 c, .int .i64 d, .slice ay l cy, .slice az m cz] 27) = W := ⟨_, rfl⟩
  rw [hW] at BA VA
  obtain ⟨v0, v1, v2, v3, v4, v5⟩ := VA.out
  go_enter Tryz.func101, Tryz.ntmps101
  go_wp2_with fail
  (try rw [hW])
  refine (HF.out _ BA.out).mono ?_
  rintro e w1 ⟨rfl, hb⟩
  have BB := hide (below_on BA.out hb)
  have VB := hide (VA.out.later hb)
  clear hb v0 v1 v2 v3 v4 v5 VA
  clear hW
  obtain ⟨v0, v1, v2, v3, v4, v5⟩ := VB.out
  by_cases h0 : Z = 0
  · subst h0
    go_wp2_with fail
    refine (HLf.out _ BB.out).mono ?_
    rintro e w2 ⟨rfl, hb⟩
    have BC := hide (below_on BB.out hb)
    have VC := hide (VB.out.later hb)
    clear hb v0 v1 v2 v3 v4 v5 VB
    obtain ⟨v0, v1, v2, v3, v4, v5⟩ := VC.out
    by_cases h1 : D = 0
    · subst h1
      have HGp := hide (HGo.out (by first | trivial | rfl))
      go_wp2_with fail
      refine (HGp.out _ BC.out).mono ?_
      rintro e w3 ⟨rfl, hb⟩
      have BD := hide (below_on BC.out hb)
      have VD := hide (VC.out.later hb)
      clear hb v0 v1 v2 v3 v4 v5 VC
      obtain ⟨v0, v1, v2, v3, v4, v5⟩ := VD.out
      cases G
      · obtain rfl := HFit.out (by first | trivial | rfl) (by first | trivial | rfl) (by first | trivial | rfl)
        go_wp2
        go_ret
        exact ⟨rfl, BD.out⟩
      · have hAe := HTerm.out (by first | trivial | rfl) (by first | trivial | rfl) (by first | trivial | rfl)
        have hml := HLm.out (by first | trivial | rfl)
        have hrs := HRs.out (by first | trivial | rfl)
        have HTt := hide (HT.out hml)
        go_wp2_with fail
        refine (HTt.out _ BD.out).mono ?_
        rintro e w4 ⟨u, rfl, hb, hu⟩
        have BE := hide (below_on BD.out hb)
        have VE := hide (VD.out.later hb)
        clear hb v0 v1 v2 v3 v4 v5 VD
        have HU := hide hu
        obtain ⟨au, cu, hue⟩ := hu.shape
        rw [HTl.out] at hue
        subst hue
        clear hu
        obtain ⟨⟨pa, hpa⟩, hp2⟩ := HG.out.later BE.out
        have HPa := hide hpa
        clear hpa hp2
        by_cases hlo : i < c
        · obtain ⟨rfl, rfl⟩ := HLo.out hlo
          rw [if_pos (by decide)] at hAe
          subst hAe
          have HAt1 := hide (atLoI c i au (m + 1) cu hlo)
          clear hlo
          go_wp2_with fail
          refine (HAt1.out _).mono ?_
          rintro e w5 ⟨rfl, hb⟩
          have BF := hide (below_on BE.out hb)
          clear hb
          have hne := run_neq_iface_nilR (P := Tryz.prog) w5 107 (.agg #[.int .i64 c]) Tryz.underlying72
          go_wp2_with fail
          refine (codeOver c _ (HG.out.later BF.out)).mono ?_
          rintro e w6 ⟨rfl, hb⟩
          have BH := hide (below_on BF.out hb)
          clear hb hne
          go_wp2
          go_ret
          exact ⟨rfl, BH.out⟩
        · by_cases hhi : c + (m : Int) < i
          · obtain ⟨rfl, rfl⟩ := HHi.out (by omega) (by rw [HLast.out]; omega)
            rw [if_pos (by decide)] at hAe
            subst hAe
            have HAt1 := hide (atHiI c i au (m + 1) cu hrs.1 (by omega) (by omega) (by push_cast; omega) _ pa HPa.out)
            clear hlo hhi
            go_wp2_with fail
            refine (HAt1.out).mono ?_
            rintro e w5 ⟨rfl, hb⟩
            have HPb := hide (cell_later hb HPa.out)
            have BF := hide (below_on BE.out hb)
            clear hb
            have hne := run_neq_iface_nilR (P := Tryz.prog) w5 191 (.pointer (some pa)) Tryz.underlying72
            go_wp2_with fail
            refine (codeYet pa _ (HG.out.later BF.out) HPb.out).mono ?_
            rintro e w6 ⟨rfl, hb⟩
            have BH := hide (below_on BF.out hb)
            clear hb hne
            go_wp2
            go_ret
            exact ⟨rfl, BH.out⟩
          · obtain rfl := HIn.out (by omega) (by rw [HLast.out]; omega)
            have HAt1 := hide (atInI c i HU.out hrs.1 (by omega) (by rw [HTl.out]; omega) (by omega) (by rw [HTl.out]; push_cast; omega))
            rw [HAt.out (by omega) (by rw [HLast.out]; omega)] at HAt1
            rw [if_neg (by simp)] at hAe
            clear hlo hhi
            go_wp2_with fail
            refine (HAt1.out).mono ?_
            rintro e w5 ⟨rfl, hb⟩
            have BF := hide (below_on BE.out hb)
            clear hb
            have hne := run_neq_nil_nilR (P := Tryz.prog) w5 Tryz.underlying72
            by_cases hte : TV = t
            · subst hte
              rw [if_neg (by simp)] at hAe
              subst hAe
              go_wp2
              go_ret
              exact ⟨rfl, BF.out⟩
            · rw [if_pos hte] at hAe
              subst hAe
              have ht1 : (TV == t) = false := by simpa using hte
              have ht2 : (TV != t) = true := by simp [hte]
              clear hte
              go_wp2
              go_ret
              exact ⟨rfl, BF.out⟩
    · obtain rfl := HLog.out (by first | trivial | rfl) h1
      have h0b : (A == 0) = false := by simpa using h1
      have h0c : (A != 0) = true := by simp [h1]
      clear h1
      go_wp2
      go_ret
      exact ⟨rfl, BC.out⟩
  · obtain rfl := HBad.out h0
    have h0b : (A == 0) = false := by simpa using h0
    have h0c : (A != 0) = true := by simp [h0]
    clear h0
    go_wp2
    go_ret
    exact ⟨rfl, BB.out⟩
end Go.Proofs.YtlliggfggadidaaGreatDoor
namespace Go.Proofs.YtlliggfggadidaaGreatDoor
open Go.RowKit
def RowE (M B : Nat) (w : World) (v : Value) (L : List Oj) : Prop :=
  ∃ V, w.ownsRow B 58 3 v L.length (cellsEn L L.length V) ∧ ∀ i, i < L.length → RdI (fun b => b < M) w (V i) (L.getD i oj0).2.2
theorem RdJ_mono {S T : Nat → Prop} {w : World} {v : Value} {ps : List Oj} (h : RdJ S w v ps) (hT : ∀ b, S b → T b) : RdJ T w v ps := by
  obtain ⟨ao, c, e1, e2, e3⟩ := h
  refine ⟨ao, c, e1, e2, fun hne => ?_⟩
  obtain ⟨b, off, V, f1, f2, f3⟩ := e3 hne
  exact ⟨b, off, V, f1, hT _ f2, fun i hi => ⟨(f3 i hi).1, (f3 i hi).2.1, (f3 i hi).2.2.1, (f3 i hi).2.2.2.narrow fun _ b hb => hT b hb⟩⟩
theorem RdI.underE {M B : Nat} {w w' : World} {v : Value} {xs : List Int} (h : RdI (fun b => b < M) w v xs) (hM : M ≤ B) (hb : Below B w w') : RdI (fun b => b < M) w' v xs := by
  obtain ⟨ao, c, h1, h2, h3⟩ := h
  refine ⟨ao, c, h1, h2, fun hne => ?_⟩
  obtain ⟨b, off, e, hs, hc⟩ := h3 hne
  exact ⟨b, off, e, hs, fun i hi => (hb.cell (p := ⟨b, off + i, none⟩) (Nat.lt_of_lt_of_le hs hM)).trans (hc i hi)⟩
theorem RowE.rd {M B : Nat} {w : World} {v : Value} {L : List Oj} (h : RowE M B w v L) (hm : L.length ≤ 9223372036854775807) : RdJ (fun b => b < M ∨ B ≤ b) w v L := by
  obtain ⟨V, h1, h2⟩ := h
  rcases h1.2 with ⟨rfl, e⟩ | ⟨g, cap, cur, rfl, hg, hh, hnc, _⟩
  · have : L = [] := List.eq_nil_of_length_eq_zero e
    subst this
    exact ⟨none, 0, rfl, hm, fun h => absurd rfl h⟩
  · refine ⟨_, cap, rfl, hm, fun _ => ⟨g, 0, V, rfl, Or.inr hg, fun i hi => ⟨?_, ?_, ?_, (h2 i hi).narrow (fun _ b hb => Or.inl hb)⟩⟩⟩
    · rw [Nat.zero_add, h1.cellAt (i * 3) (by omega), cellsEn_flg _ _ _ _ hi]
    · rw [Nat.zero_add, h1.cellAt (i * 3 + 1) (by omega), cellsEn_num _ _ _ _ hi]
    · rw [Nat.zero_add, h1.cellAt (i * 3 + 2) (by omega), cellsEn_words _ _ _ _ hi]
theorem RdJ_old {S : Nat → Prop} {w : World} {v : Value} {ps : List Oj} (h : RdJ S w v ps) : RdJ (fun b => b < w.heap.size) w v ps := by
  obtain ⟨ao, c, e1, e2, e3⟩ := h
  refine ⟨ao, c, e1, e2, fun hne => ?_⟩
  obtain ⟨b, off, V, f1, f2, f3⟩ := e3 hne
  refine ⟨b, off, V, f1, World.block_lt_of_cell? _ _ (f3 0 (List.length_pos_iff.2 hne)).1, fun i hi => ⟨(f3 i hi).1, (f3 i hi).2.1, (f3 i hi).2.2.1, ?_⟩⟩
  obtain ⟨ao', c', k1, k2, k3⟩ := (f3 i hi).2.2.2
  refine ⟨ao', c', k1, k2, fun hn => ?_⟩
  obtain ⟨b', off', m1, m2, m3⟩ := k3 hn
  exact ⟨b', off', m1, World.block_lt_of_cell? _ _ (m3 0 (List.length_pos_iff.2 hn)), m3⟩
set_option maxHeartbeats 2000000 in
set_option maxRecDepth 4000 in
theorem growE {w : World} (n : Nat) (hn : n ≤ 120) :
    Calls Tryz.prog 132 #[.slice none 0 0, .int .i64 (n : Int)] w fun e w' => ∃ z, e = .returned z ∧ Below w.heap.size w w' ∧ w'.ownsRow w.heap.size 58 3 z 0 [] := by
  by_cases h0 : n = 0
  · subst h0
    go_enter Tryz.func132, Tryz.ntmps132
    go_wp2
    go_ret
    exact ⟨_, rfl, Below.refl _ _, World.ownsRow_nil _ _ _ _⟩
  · have hn0 : ¬ ((n : Int) < 0) := by omega
    have hn1 : (0 : Int) < (n : Int) := by omega
    have hwr : IntKind.i64.wrap ((n : Int) - 0) = (n : Int) := by simp [IntKind.wrap, IntKind.bits, IntKind.signed]; omega
    go_enter Tryz.func132, Tryz.ntmps132
    have hby : Tryz.t58.bytes = 40 := by kernel_rfl
    have hnx : Builtin.nextslicecap n 0 = n := by unfold Builtin.nextslicecap; rw [if_pos (by omega)]
    have hb2 : ¬ 281474976710656 < n * 40 := by omega
    have hb3 : ¬ (281474976710656 < (n : Int) * 40) := by omega
    have hb4 : (n : Int) ≤ 9223372036854775807 := by omega
    have hb5 : (n : Int) * 40 ≤ 281474976710656 := by omega
    have hcp : n ≤ grownCap w n 0 58 ∧ grownCap w n 0 58 ≤ maxLen := ⟨grownCap_ge _ _ _ _, grownCap_le_maxLen _ _ _ _ (by unfold maxLen; omega)⟩
    have HCp := hide hcp
    unfold grownCap at HCp
    clear hcp
    go_wp2
    go_ret
    refine ⟨_, rfl, below_on (below_alloc w _) (below_drewN _ 1), by rfl, Or.inr ⟨w.heap.size, _, _, rfl, Nat.le_refl _, heap_alloc_new w _, Nat.zero_le _, HCp.out.2, ?_, rfl⟩⟩
    rw [Array.size_append, size_zeroCells, size_zeroCells]
    have := HCp.out.1
    show n * 3 + (_ - n) * 3 = _
    omega
theorem cellsEn_any (ps : List Oj) (k : Nat) (V : Nat → Value) (j : Nat) (h : j < k * 3) : (cellsEn ps k V)[j]? = some (if j % 3 = 0 then .int .i64 (ps.getD (j / 3) oj0).1 else if j % 3 = 1 then .int .i64 (ps.getD (j / 3) oj0).2.1 else V (j / 3)) := by
  unfold cellsEn
  rw [List.getElem?_map, List.getElem?_range h]
  rfl
theorem cellsEn_append (L M : List Oj) (V V' : Nat → Value) : cellsEn (L ++ M) (L.length + M.length) (fun i => if i < L.length then V i else V' (i - L.length)) = cellsEn L L.length V ++ cellsEn M M.length V' := by
  apply List.ext_getElem?
  intro j
  by_cases h1 : j < L.length * 3
  · rw [List.getElem?_append_left (by rw [cellsEn_len]; exact h1), cellsEn_any _ _ _ _ h1, cellsEn_any _ _ _ _ (by omega)]
    have h2 : j / 3 < L.length := by omega
    have e : (L ++ M).getD (j / 3) oj0 = L.getD (j / 3) oj0 := by simp [List.getD, List.getElem?_append_left h2]
    rw [e, if_pos h2]
  · rw [List.getElem?_append_right (by rw [cellsEn_len]; omega), cellsEn_len]
    by_cases h3 : j < (L.length + M.length) * 3
    · rw [cellsEn_any _ _ _ _ h3, cellsEn_any _ _ _ _ (by omega)]
      have h2 : ¬ j / 3 < L.length := by omega
      have e1 : (j - L.length * 3) / 3 = j / 3 - L.length := by omega
      have e2 : (j - L.length * 3) % 3 = j % 3 := by omega
      have e : (L ++ M).getD (j / 3) oj0 = M.getD (j / 3 - L.length) oj0 := by simp [List.getD, List.getElem?_append_right (show L.length ≤ j / 3 by omega)]
      rw [e, if_neg h2, e1, e2]
    · rw [List.getElem?_eq_none (by rw [cellsEn_len]; omega), List.getElem?_eq_none (by rw [cellsEn_len]; omega)]
theorem cellsEn_oneC {S : Nat → Prop} {w : World} {M : List Oj} {V : Nat → Value} (h : ∀ i, i < M.length → RdI S w (V i) (M.getD i oj0).2.2) : ∀ u ∈ cellsEn M M.length V, u.oneCell' = true := by
  intro u hu
  obtain ⟨j, hj⟩ := List.mem_iff_getElem?.1 hu
  have hlt : j < M.length * 3 := by
    have := (List.getElem?_eq_some_iff.1 hj).1
    rwa [cellsEn_len] at this
  rw [cellsEn_any _ _ _ _ hlt] at hj
  injection hj with hj
  subst hj
  by_cases e : j % 3 = 0
  · rw [if_pos e]; rfl
  · rw [if_neg e]
    by_cases e1 : j % 3 = 1
    · rw [if_pos e1]; rfl
    · rw [if_neg e1]
      obtain ⟨a, c, e'⟩ := (h (j / 3) (by omega)).shape
      rw [e']; rfl
theorem cellsEn_atC {w : World} {M : List Oj} {V : Nat → Value} {b off : Nat} (h : ∀ i, i < M.length → w.cell? ⟨b, off + i * 3, none⟩ = some (.int .i64 (M.getD i oj0).1) ∧ w.cell? ⟨b, off + i * 3 + 1, none⟩ = some (.int .i64 (M.getD i oj0).2.1) ∧ w.cell? ⟨b, off + i * 3 + 2, none⟩ = some (V i)) :
    ∀ j u, (cellsEn M M.length V)[j]? = some u → w.cell? ((⟨b, off, none⟩ : Addr).add j) = some u := by
  intro j u hj
  have hlt : j < M.length * 3 := by
    have := (List.getElem?_eq_some_iff.1 hj).1
    rwa [cellsEn_len] at this
  rw [cellsEn_any _ _ _ _ hlt] at hj
  injection hj with hj
  subst hj
  have := h (j / 3) (by omega)
  have ea : ((⟨b, off, none⟩ : Addr).add j) = ⟨b, off + j, none⟩ := by unfold Addr.add; split <;> simp_all
  rw [ea]
  by_cases e : j % 3 = 0
  · rw [if_pos e, ← this.1, show off + j / 3 * 3 = off + j by omega]
  · rw [if_neg e]
    by_cases e1 : j % 3 = 1
    · rw [if_pos e1, ← this.2.1, show off + j / 3 * 3 + 1 = off + j by omega]
    · rw [if_neg e1, ← this.2.2, show off + j / 3 * 3 + 2 = off + j by omega]
theorem RowE.join {Mm B : Nat} {w w3 : World} {v v3 : Value} {L M : List Oj} {V V' : Nat → Value} {k : Nat} (hk : M.length = k) (h1 : w.ownsRow B 58 3 v L.length (cellsEn L L.length V)) (h2 : ∀ i, i < L.length → RdI (fun b => b < Mm) w (V i) (L.getD i oj0).2.2) (hM : Mm ≤ B) (hB : B ≤ w.heap.size)
    (hz : ∀ i, i < M.length → RdI (fun b => b < Mm) w (V' i) (M.getD i oj0).2.2) (hown : w3.ownsRow B 58 3 v3 (L.length + k) (cellsEn L L.length V ++ cellsEn M M.length V')) (hg : w.grownBy w3 v.ownBlock) :
    RowE Mm B w3 v3 (L ++ M) ∧ Below B w w3 := by
  subst hk
  have hb : Below B w w3 := ((Below.refl B w)).grown hg hB (fun r hr => (h1.lt r hr).1)
  refine ⟨⟨fun i => if i < L.length then V i else V' (i - L.length), ?_, fun i hi => ?_⟩, hb⟩
  · rw [List.length_append, cellsEn_append]
    exact hown
  · rw [List.length_append] at hi
    by_cases h : i < L.length
    · have e : (L ++ M).getD i oj0 = L.getD i oj0 := by simp [List.getD, List.getElem?_append_left h]
      rw [e]
      simp only [if_pos h]
      exact (h2 i h).underE hM hb
    · have e : (L ++ M).getD i oj0 = M.getD (i - L.length) oj0 := by simp [List.getD, List.getElem?_append_right (show L.length ≤ i by omega)]
      rw [e]
      simp only [if_neg h]
      exact (hz _ (by omega)).underE hM hb
theorem run_append_zeroE {w : World} (base : Nat) (t ty e : TypeId) (i : TypeInfo) (size : Nat) (ht : Tryz.prog.underlying t = some (.slice e)) (hi : Tryz.prog.info? e = some i)
    (v : Value) (n : Nat) (xs : List Value) (hown : w.ownsRow base e size v n xs) (ao : Option Addr) (c : Nat) :
    (Builtin.append_ #[t, t] ty #[v, .slice ao 0 c]).run Tryz.prog w = .ok v w := by
  rcases hown.2 with ⟨rfl, rfl⟩ | ⟨g, cap, cur, rfl, _, _, hnc, _⟩
  · exact run_append_zero w t ty e i ht hi none 0 0 (Nat.le_refl _) ao c
  · exact run_append_zero w t ty e i ht hi _ n cap hnc ao c
theorem wpList_append_zeroE {w : World} {ops : Array Oper} {rest : List Oper} {o : Oper} {a : Act} {Q : Exit → Act → World → Prop} (hgd : o.guard = none) (s x : Operand) (t : TypeId)
    (ho : o.op = .call { callee := .builtin .append, args := #[s, x], argTypes := #[t, t] })
    (base : Nat) (e : TypeId) (i : TypeInfo) (size : Nat) (ht : Tryz.prog.underlying t = some (.slice e)) (hi : Tryz.prog.info? e = some i)
    (v : Value) (n : Nat) (xs : List Value) (hs : a.eval s = v) (hown : w.ownsRow base e size v n xs) (ao : Option Addr) (c : Nat) (hx : a.eval x = .slice ao 0 c)
    (h : wpList Tryz.prog ops Q rest (a.put o.dst v) w) : wpList Tryz.prog ops Q (o :: rest) a w := by
  refine wpList_plain hgd fun K hK => ?_
  have hrun := run_append_zeroE (w := w) base t o.type e i size ht hi v n xs hown ao c
  unfold Oper.wp
  simp [execOp, ho, resolve, invoke, builtin, hs, hx, hrun, Result.andThen]
  exact hK _ _ h
set_option maxHeartbeats 2000000 in
set_option maxRecDepth 4000 in
theorem concatE {w : World} {u v : Value} {ps qs : List Oj} {B Mm : Nat} (hu : RdJ (fun b => b < Mm) w u ps) (hv : RdJ (fun b => b < Mm) w v qs) (hM : Mm ≤ w.heap.size) (q0 : w.cell? ⟨B, 0, none⟩ = some u) (q1 : w.cell? ⟨B, 1, none⟩ = some v) (h60 : ps.length + qs.length ≤ 60) :
    Calls Tryz.prog 119 #[.slice (some ⟨B, 0, none⟩) 2 2] w fun e w' => ∃ z, e = .returned z ∧ Below w.heap.size w w' ∧ RdJ (fun b => b < Mm ∨ w.heap.size ≤ b) w' z (ps ++ qs) := by
  obtain ⟨i0, hi, hz0, hz1, hz2⟩ := info_parts Tryz.infoEn
  have HU := hide hu
  have HV := hide hv
  obtain ⟨au, cu, rfl, _⟩ := hu.shape
  obtain ⟨av, cv, rfl, _⟩ := hv.shape
  have HG := hide (fun (n : Nat) (w' : World) (hn : n ≤ 120) => growE (w := w') n hn)
  clear hu hv
  go_enter Tryz.func119, Tryz.ntmps119
  obtain ⟨n, hn⟩ : ∃ n, ps.length = n := ⟨_, rfl⟩
  obtain ⟨m, hm⟩ : ∃ m, qs.length = m := ⟨_, rfl⟩
  have HN := hide hn
  have HM := hide hm
  rw [hn] at HU q0 h60
  rw [hm] at HV q1 h60
  clear hn hm
  have s1 : IntKind.i64.wrap (n : Int) = (n : Int) := by simp [IntKind.wrap, IntKind.bits, IntKind.signed]; omega
  obtain ⟨N, hN⟩ : ∃ N, n + m = N := ⟨_, rfl⟩
  have HNm := hide hN
  have s2 : IntKind.i64.wrap ((n : Int) + (m : Int)) = (N : Int) := by simp [IntKind.wrap, IntKind.bits, IntKind.signed]; omega
  rw [hN] at h60
  clear hN
  have s3 : ¬ ((n : Int) < 0) := by omega
  have s4 : ¬ ((N : Int) < 0) := by omega
  go_wp2
  go_loopw [3, 5, 11] (fun z _ i wr => wr = w ∧ ((i = .int .i64 0 ∧ z = .int .i64 0) ∨ (i = .int .i64 1 ∧ z = .int .i64 (n : Int)) ∨ (i = .int .i64 2 ∧ z = .int .i64 (N : Int)))) (fun _ _ i _ => 2 - (RowKit.intOf i).toNat)
  case atStart => exact ⟨rfl, Or.inl ⟨rfl, rfl⟩⟩
  case round =>
    obtain ⟨rfl, h | h | h⟩ := hrel
    · obtain ⟨rfl, rfl⟩ := h
      go_wp2
      go_roundw
      case rel => exact ⟨trivial, Or.inr (Or.inl ⟨rfl, rfl⟩)⟩
      case measure => simp [RowKit.intOf]
    · obtain ⟨rfl, rfl⟩ := h
      go_wp2
      go_roundw
      case rel => exact ⟨trivial, Or.inr (Or.inr ⟨rfl, rfl⟩)⟩
      case measure => simp [RowKit.intOf]
    · obtain ⟨rfl, rfl⟩ := h
      go_wp2_with fail
      refine (HG.out N _ (by omega)).mono ?_
      rintro e w2 ⟨z2, rfl, hb2, ho2⟩
      have HB2 := hide hb2
      have HR2 : Hid (RowE Mm wr.heap.size w2 z2 []) := ⟨fun _ => .bool false, ho2, fun i hi => absurd hi (Nat.not_lt_zero _)⟩
      have hs2 := hb2.size
      obtain ⟨w, hw⟩ : ∃ w, w = wr := ⟨_, rfl⟩
      subst hw
      have r0 := cell_later hb2 q0
      have r1 := cell_later hb2 q1
      have HQ0 := hide q0
      have HQ1 := hide q1
      clear hb2 ho2 HG q0 q1 r0 r1
      clear s1 s2 s3 s4
      obtain ⟨L0, hL0⟩ : ∃ L0 : List Oj, L0 = [] := ⟨_, rfl⟩
      obtain ⟨L1, hL1⟩ : ∃ L1, L0 ++ ps = L1 := ⟨_, rfl⟩
      rw [← hL0] at HR2
      have HL0l : Hid (L0.length = 0) := by rw [hL0]; rfl
      have HL1l : Hid (L1.length = n) := by rw [← hL1, hL0]; exact HN.out
      have HL0 := hide hL0
      have HL1 := hide hL1
      clear hL0 hL1
      go_wp2
      go_loopw [6, 8, 27] (fun z _ i wr => Hid (Below w.heap.size w wr) ∧ ((i = .int .i64 0 ∧ Hid (RowE Mm w.heap.size wr z L0)) ∨ (i = .int .i64 1 ∧ Hid (RowE Mm w.heap.size wr z L1)) ∨ (i = .int .i64 2 ∧ Hid (RowE Mm w.heap.size wr z (L1 ++ qs))))) (fun _ _ i _ => 2 - (RowKit.intOf i).toNat)
      case atStart => exact ⟨HB2.out, Or.inl ⟨rfl, HR2.out⟩⟩
      case round =>
        obtain ⟨HB, h | h | h⟩ := hrel
        · obtain ⟨rfl, HR⟩ := h
          clear HR2 HB2
          obtain ⟨z, hz⟩ : ∃ z, z = u6 := ⟨_, rfl⟩
          subst hz
          have hnN := HNm.out
          have g0 := cell_later HB.out HQ0.out
          have hsz := HB.out.size
          obtain ⟨V, hv1, hv2⟩ := HR.out
          have HO := hide hv1
          have HI := hide hv2
          clear hv1 hv2
          by_cases hm0 : n = 0
          · subst hm0
            have hM : ps = [] := List.eq_nil_of_length_eq_zero HN.out
            have HRn : Hid (RowE Mm w.heap.size wr z (L0 ++ ps)) := by rw [Hid, hM, List.append_nil]; exact HR.out
            clear hM
            go_wp2_with (at_builtin; refine wpList_append_zeroE rfl _ _ _ rfl w.heap.size 58 i0 3 Tryz.underlying25 hi _ _ _ (by rfl) HO.out _ _ (by rfl) ?_)
            go_wp2
            go_roundw
            case rel => exact ⟨HB.out, Or.inr (Or.inl ⟨rfl, HL1.out ▸ HRn.out⟩)⟩
            case measure => simp [RowKit.intOf]
          · obtain ⟨ao', c', ee, _, hh⟩ := HU.out
            rw [HN.out] at ee
            injection ee with e1 e2 e3
            subst e1
            obtain ⟨b, off, V', rfl, hbl, hcs⟩ := hh (by intro h; exact hm0 (by rw [← HN.out, h]; rfl))
            have HCs : Hid (∀ i, i < ps.length → wr.cell? ⟨b, off + i * 3, none⟩ = some (.int .i64 (ps.getD i oj0).1) ∧ wr.cell? ⟨b, off + i * 3 + 1, none⟩ = some (.int .i64 (ps.getD i oj0).2.1) ∧ wr.cell? ⟨b, off + i * 3 + 2, none⟩ = some (V' i)) := fun i hi => ⟨cell_later HB.out (hcs i hi).1, cell_later HB.out (hcs i hi).2.1, cell_later HB.out (hcs i hi).2.2.1⟩
            have HWs : Hid (∀ i, i < ps.length → RdI (fun b => b < Mm) wr (V' i) (ps.getD i oj0).2.2) := fun i hi => (hcs i hi).2.2.2.later HB.out
            clear hcs hh hbl
            have hL0 : L0.length ≤ 60 := by (rw [HL0l.out]; omega)
            go_wp2_with (at_builtin; refine wpList_append_lies _ rfl _ _ _ rfl w.heap.size 58 i0 (.agg #[.int .i64 0, .int .i64 0, .slice none 0 0]) 3 40 Tryz.underlying25 hi hz0 hz1 hz2 rfl (by omega) _ _ _ (by rfl) HO.out ⟨b, off, none⟩ n _ (cellsEn ps ps.length V') (by rfl) (by rw [cellsEn_len, HN.out]) (cellsEn_atC HCs.out) (cellsEn_oneC HWs.out) (by omega) (by unfold maxLen; omega) (by omega) hsz wr.heap.size rfl ?_)
            intro g cap w3 hown hgrow hat hlt
            have hst := RowE.join (L := L0) (M := ps) HN.out HO.out HI.out hM hsz HWs.out hown hgrow
            have HRn := hide hst.1
            have HBn := hide (HB.out.trans hst.2)
            clear hst hown hgrow hat hlt HO HI HCs HWs g0
            go_wp2
            go_roundw
            case rel => exact ⟨HBn.out, Or.inr (Or.inl ⟨rfl, HL1.out ▸ HRn.out⟩)⟩
            case measure => simp [RowKit.intOf]
        · obtain ⟨rfl, HR⟩ := h
          clear HR2 HB2
          obtain ⟨z, hz⟩ : ∃ z, z = u6 := ⟨_, rfl⟩
          subst hz
          have hnN := HNm.out
          have g0 := cell_later HB.out HQ1.out
          have hsz := HB.out.size
          obtain ⟨V, hv1, hv2⟩ := HR.out
          have HO := hide hv1
          have HI := hide hv2
          clear hv1 hv2
          by_cases hm0 : m = 0
          · subst hm0
            have hM : qs = [] := List.eq_nil_of_length_eq_zero HM.out
            have HRn : Hid (RowE Mm w.heap.size wr z (L1 ++ qs)) := by rw [Hid, hM, List.append_nil]; exact HR.out
            clear hM
            go_wp2_with (at_builtin; refine wpList_append_zeroE rfl _ _ _ rfl w.heap.size 58 i0 3 Tryz.underlying25 hi _ _ _ (by rfl) HO.out _ _ (by rfl) ?_)
            go_wp2
            go_roundw
            case rel => exact ⟨HB.out, Or.inr (Or.inr ⟨rfl, HRn.out⟩)⟩
            case measure => simp [RowKit.intOf]
          · obtain ⟨ao', c', ee, _, hh⟩ := HV.out
            rw [HM.out] at ee
            injection ee with e1 e2 e3
            subst e1
            obtain ⟨b, off, V', rfl, hbl, hcs⟩ := hh (by intro h; exact hm0 (by rw [← HM.out, h]; rfl))
            have HCs : Hid (∀ i, i < qs.length → wr.cell? ⟨b, off + i * 3, none⟩ = some (.int .i64 (qs.getD i oj0).1) ∧ wr.cell? ⟨b, off + i * 3 + 1, none⟩ = some (.int .i64 (qs.getD i oj0).2.1) ∧ wr.cell? ⟨b, off + i * 3 + 2, none⟩ = some (V' i)) := fun i hi => ⟨cell_later HB.out (hcs i hi).1, cell_later HB.out (hcs i hi).2.1, cell_later HB.out (hcs i hi).2.2.1⟩
            have HWs : Hid (∀ i, i < qs.length → RdI (fun b => b < Mm) wr (V' i) (qs.getD i oj0).2.2) := fun i hi => (hcs i hi).2.2.2.later HB.out
            clear hcs hh hbl
            have hL0 : L1.length ≤ 60 := by (rw [HL1l.out]; omega)
            go_wp2_with (at_builtin; refine wpList_append_lies _ rfl _ _ _ rfl w.heap.size 58 i0 (.agg #[.int .i64 0, .int .i64 0, .slice none 0 0]) 3 40 Tryz.underlying25 hi hz0 hz1 hz2 rfl (by omega) _ _ _ (by rfl) HO.out ⟨b, off, none⟩ m _ (cellsEn qs qs.length V') (by rfl) (by rw [cellsEn_len, HM.out]) (cellsEn_atC HCs.out) (cellsEn_oneC HWs.out) (by omega) (by unfold maxLen; omega) (by omega) hsz wr.heap.size rfl ?_)
            intro g cap w3 hown hgrow hat hlt
            have hst := RowE.join (L := L1) (M := qs) HM.out HO.out HI.out hM hsz HWs.out hown hgrow
            have HRn := hide hst.1
            have HBn := hide (HB.out.trans hst.2)
            clear hst hown hgrow hat hlt HO HI HCs HWs g0
            go_wp2
            go_roundw
            case rel => exact ⟨HBn.out, Or.inr (Or.inr ⟨rfl, HRn.out⟩)⟩
            case measure => simp [RowKit.intOf]
        · obtain ⟨rfl, HR⟩ := h
          have HF := hide (HR.out.rd (by rw [List.length_append, HL1l.out, HM.out, HNm.out]; omega))
          rw [← HL1.out, HL0.out, List.nil_append] at HF
          go_wp2
          go_ret
          exact ⟨_, rfl, HB.out, HF.out⟩
end Go.Proofs.YtlliggfggadidaaGreatDoor
