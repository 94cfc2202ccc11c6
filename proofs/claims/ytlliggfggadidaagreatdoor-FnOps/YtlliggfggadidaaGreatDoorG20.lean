/- Ap5 in one text: what each says stands at its head below. -/
import Derived.Test.YtlliggfggadidaaGreatDoorG19
import Derived.Test.YtlliggfggadidaaGreatDoorG07
namespace Go.Proofs.YtlliggfggadidaaGreatDoor
open Go.RowKit
theorem aq_of {r : Rf} {i t : Int} {l : List Oj} {c : Int} (e : apRF r i t l = c) (h : c ≠ 0) : apRC r i t l = c ∧ apRR r i t l = rf0 := by
  have := ap_bad (r := r) (i := i) (t := t) (l := l) (by rw [e]; exact h)
  rw [e] at this
  exact this
theorem aq_bad {r : Rf} {i t : Int} {l : List Oj} (h : rfF r ≠ 0) : apRC r i t l = rfF r ∧ apRR r i t l = rf0 := aq_of (af_bad h) h
theorem aq_log {r : Rf} {i t : Int} {l : List Oj} (h : rfF r = 0) (h1 : logF l ≠ 0) : apRC r i t l = logF l ∧ apRR r i t l = rf0 := aq_of (af_log h h1) h1
theorem aq_fit {r : Rf} {i t : Int} {l : List Oj} (h : rfF r = 0) (h1 : logF l = 0) (h2 : decide (gon l i t r.tm) = false) : apRC r i t l = 1 ∧ apRR r i t l = rf0 := aq_of (af_fit h h1 h2) (by decide)
theorem aq_tm {r : Rf} {i t : Int} {l : List Oj} (h : rfF r = 0) (h1 : logF l = 0) (h2 : decide (gon l i t r.tm) = true) (h3 : tmC r i ≠ 0) : apRC r i t l = tmC r i ∧ apRR r i t l = rf0 := aq_of (by rw [af_term h h1 h2, if_pos h3]) h3
theorem aq_st {r : Rf} {i t : Int} {l : List Oj} (h : rfF r = 0) (h1 : logF l = 0) (h2 : decide (gon l i t r.tm) = true) (h3 : tmC r i = 0) (h4 : tmV r i ≠ t) : apRC r i t l = 10 ∧ apRR r i t l = rf0 := aq_of (by rw [af_term h h1 h2, if_neg (by simp [h3]), if_pos h4]) (by decide)
theorem aq_all {r : Rf} {i t : Int} {l : List Oj} (h : rfF r = 0) (h1 : logF l = 0) (h2 : decide (gon l i t r.tm) = true) (h3 : tmC r i = 0) (h4 : tmV r i = t) :
    ∃ p : Nat, i - r.si = (p : Int) ∧ (0 ≤ r.si ∧ r.si ≤ 9999) ∧ l.length ≤ 14 ∧ p ≤ r.lg.length ∧ (jnL r.lg p l).length ≤ 28 ∧ (∀ j, j < (jnL r.lg p l).length → ((jnL r.lg p l).getD j oj0).2.2.length ≤ 1048576) ∧
      (14 < (jnL r.lg p l).length → apRC r i t l = 8 ∧ apRR r i t l = rf0) ∧ (¬ 14 < (jnL r.lg p l).length → apRC r i t l = 0 ∧ apRR r i t l = ⟨r.tm, r.vt, r.si, r.st, r.sn, jnL r.lg p l⟩) := by
  have h0 : apRF r i t l = 0 := by rw [af_term h h1 h2, if_neg (by simp [h3]), if_neg (by simp [h4])]
  obtain ⟨k1, k2, k3, k4, k5, k6, k7, k8⟩ := ap_know h0
  have hlo : r.si ≤ i := by
    unfold tmC at h3
    by_cases e1 : i < r.si
    · rw [if_pos e1] at h3; cases h3
    · omega
  exact ⟨(i - r.si).toNat, by omega, k1, k4, k5, k7, k8, ap_full h0, ap_ok h0⟩
theorem rowE_new (M : Nat) (w : World) : RowE M w.heap.size (w.alloc (.cells #[] 58)) (.slice (some ⟨w.heap.size, 0, none⟩) 0 0) [] :=
  ⟨fun _ => .bool false, ⟨by simp [cellsEn], .inr ⟨w.heap.size, 0, #[], rfl, Nat.le_refl _, heap_alloc_new w _, Nat.le_refl _, by unfold maxLen; omega, by simp, by simp [cellsEn]⟩⟩, fun i hi => absurd hi (Nat.not_lt_zero _)⟩
theorem step_append_en {Mm B : Nat} (w : World) {ops : Array Oper} {o : Oper} {a : Act} {K : Act → World → Prop} {Q : Exit → Act → World → Prop} {E : Prop} {v u : Value} {L M : List Oj} (hgd : o.guard = none) (s x : Operand)
    (ho : o.op = .call { callee := .builtin .append, args := #[s, x], argTypes := #[25, 25] }) (hs : a.eval s = v) (hx : a.eval x = u) (hR : RowE Mm B w v L) (hU : RdJ (fun b => b < Mm) w u M) (hM : Mm ≤ B) (hB : B ≤ w.heap.size) (hlen : L.length + M.length ≤ 120)
    (h : ∀ v' w', RowE Mm B w' v' (L ++ M) → Below B w w' → K (a.put o.dst v') w') : if Region.wanted o (yielded ops a.tmps) = true then Oper.wp Tryz.prog o a w K Q else E := by
  obtain ⟨i0, hi, hz0, hz1, hz2⟩ := info_parts Tryz.infoEn
  obtain ⟨V, hO, hI⟩ := hR
  obtain ⟨ao, c, rfl, hml, hh⟩ := hU
  by_cases hne : M = []
  · subst hne
    refine step_append_fi w hgd s x 25 ho B 58 i0 (.agg #[.int .i64 0, .int .i64 0, .slice none 0 0]) 3 40 Tryz.underlying25 hi hz0 hz1 hz2 rfl (by omega) v L.length _ hs hO ao 0 c [] hx (by simp) (fun h => absurd rfl h) (by simp) (by unfold maxLen; omega) (by simp at hlen; omega) hB ?_
    intro v' w' hown hg
    have hst := RowE.join (L := L) (M := []) (V' := fun _ => .bool false) (k := 0) rfl hO hI hM hB (fun i hi => absurd hi (Nat.not_lt_zero _)) (by simpa [cellsEn] using hown) hg
    exact h v' w' hst.1 hst.2
  · obtain ⟨b, off, V', rfl, hbl, hcs⟩ := hh hne
    refine step_append_fi w hgd s x 25 ho B 58 i0 (.agg #[.int .i64 0, .int .i64 0, .slice none 0 0]) 3 40 Tryz.underlying25 hi hz0 hz1 hz2 rfl (by omega) v L.length _ hs hO (some ⟨b, off, none⟩) M.length c (cellsEn M M.length V') hx (by rw [cellsEn_len]) (fun _ => ⟨_, rfl, cellsEn_atC (fun i hi => ⟨(hcs i hi).1, (hcs i hi).2.1, (hcs i hi).2.2.1⟩)⟩) (cellsEn_oneC (fun i hi => (hcs i hi).2.2.2)) (by unfold maxLen; omega) (by omega) hB ?_
    intro v' w' hown hg
    have hst := RowE.join (L := L) (M := M) rfl hO hI hM hB (fun i hi => (hcs i hi).2.2.2) hown hg
    exact h v' w' hst.1 hst.2
theorem forgetX {F : Exit → Act → World → Prop} {e : Exit} {a : Act} {w0 : World} (R : World → Prop) (h0 : R w0) (h : ∀ w, R w → F e a w) : F e a w0 := h _ h0
theorem RdJ.later0 {M : Nat} {w w' : World} {v : Value} {ps : List Oj} (h : RdJ (fun b => b < M) w v ps) (hb : Below w.heap.size w w') : RdJ (fun b => b < M) w' v ps := h.later hb
theorem cell_belowE {B : Nat} {w w' : World} {b o : Nat} {x : Value} (hb : Below B w w') (h : w.cell? ⟨b, o, none⟩ = some x) (hlt : b < B) : w'.cell? ⟨b, o, none⟩ = some x := (hb.cell (p := ⟨b, o, none⟩) hlt).trans h
theorem IvR_put {lo hi A : Nat} {c0 : Nat} {w w' : World} {y z z' : Value} {xs : List Int} {ps qs : List Oj} (h : IvR lo hi w y z xs ps) (hj : OwJ (fun b => A ≤ b ∧ b < w.heap.size) w z' qs) (hw : Wr (fun x => x = c0) w w') (h1 : hi ≤ A) (h2 : lo ≤ A) (h3 : hi ≤ c0) (h4 : c0 < A) : IvR lo w'.heap.size w' y z' xs qs := by
  obtain ⟨b, S, k1, k2, k3, k4, k5⟩ := h
  refine ⟨b, fun x => A ≤ x ∧ x < w.heap.size, k1.wr hw (fun hn x hx e => ?_), fun hn => ?_, Nat.le_refl _, fun x hx => ⟨by omega, Nat.lt_of_lt_of_le hx.2 hw.size⟩, hj.wr hw (fun x hx e => by omega)⟩
  · have := (k2 hn).2.1
    have e2 : x = b := hx
    omega
  · obtain ⟨g1, g2, g3, g4⟩ := k2 hn
    exact ⟨g1, Nat.lt_of_lt_of_le g2 (Nat.le_trans k3 hw.size), fun h => by omega, fun o => (hw.frz _ _ (Nat.lt_of_lt_of_le g2 k3)).trans (g4 o)⟩
set_option linter.unusedSimpArgs false in
set_option maxHeartbeats 16000000 in
set_option maxRecDepth 4000 in
theorem specAppendRaft {S T U : Nat → Prop} {w : World} {y z v : Value} {ls : List Oj} (r : Rf) (i t : Int) (hy : RdI S w y r.sn) (hz : RdJ T w z r.lg) (hcp : capE z) (hv : RdJ U w v ls) (hcvv : capE v) :
    Calls Tryz.prog 51 #[.agg #[.int .i64 r.tm, .int .i64 r.vt, .int .i64 r.si, .int .i64 r.st, y, z], .int .i64 i, .int .i64 t, v] w (EndsRf (apRC r i t ls) (apRR r i t ls) w) := by
  obtain ⟨ay, cy, rfl⟩ := hy.shape
  obtain ⟨az, cz, rfl, _⟩ := hz.shape
  obtain ⟨av, cv, rfl, _⟩ := hv.shape
  have hcz : r.lg.length ≤ cz := hcp
  have hcv : ls.length ≤ cv := hcvv
  clear hcp hcvv
  have BA0 := below_on (below_alloc w (.cells #[.int .i64 r.tm, .int .i64 r.vt, .int .i64 r.si, .int .i64 r.st, .slice ay r.sn.length cy, .slice az r.lg.length cz] 27)) (below_alloc _ (.cells #[.int .i64 0, .int .i64 0, .int .i64 0, .int .i64 0, .int .i64 0, .slice none 0 0, .slice none 0 0] 79))
  have VA0 := (Var6_new w (.int .i64 r.tm) (.int .i64 r.vt) (.int .i64 r.si) (.int .i64 r.st) (.slice ay r.sn.length cy) (.slice az r.lg.length cz) 27).later (below_alloc _ (.cells #[.int .i64 0, .int .i64 0, .int .i64 0, .int .i64 0, .int .i64 0, .slice none 0 0, .slice none 0 0] 79))
  have RA := hide (Res7.start w (.cells #[.int .i64 r.tm, .int .i64 r.vt, .int .i64 r.si, .int .i64 r.st, .slice ay r.sn.length cy, .slice az r.lg.length cz] 27) 79)
  have HF := hide (l10Fault r VA0 (hy.later BA0) (hz.later BA0))
  have BA := hide BA0
  have VA := hide VA0
  clear BA0 VA0
  have HLg := hide (fun (w' : World) (hb : Below w.heap.size w w') => l9Log (hv.later hb))
  have HFt := hide (fun (h : logF ls = 0) (w' : World) (hb : Below w.heap.size w w') (h6 : Var6 w' w.heap.size (.int .i64 r.tm) (.int .i64 r.vt) (.int .i64 r.si) (.int .i64 r.st) (.slice ay r.sn.length cy) (.slice az r.lg.length cz)) => l10FitsI i t r.tm h6 (hv.later hb) (fun hne => (entF_zero ((logF_iff.1 h).2.1 0 (List.length_pos_iff.2 hne))).1.1))
  have HTm := hide (fun (h : rfF r = 0) (w' : World) (hb : Below w.heap.size w w') (h6 : Var6 w' w.heap.size (.int .i64 r.tm) (.int .i64 r.vt) (.int .i64 r.si) (.int .i64 r.st) (.slice ay r.sn.length cy) (.slice az r.lg.length cz)) => l10TermI r i (rfF_iff.1 h) h6 ⟨ay, _, cy, rfl⟩ (hz.later hb))
  have HCp := hide (fun (h : rfF r = 0) (w' : World) (hb : Below w.heap.size w w') => l10CopyI r.tm r.vt r.si r.st (hy.later hb) (hz.later hb) (Nat.le_trans (rf_room h).1 (by decide)) (Nat.le_trans (rf_room h).2.1 (by decide)) (rf_room h).2.2)
  have HZ := hide (RdJ_old hz)
  have HV := hide (RdJ_old hv)
  have HRm := hide (@rf_room r)
  have HBad := hide (@aq_bad r i t ls)
  have HLog := hide (@aq_log r i t ls)
  have HFit := hide (@aq_fit r i t ls)
  have HTmc := hide (@aq_tm r i t ls)
  have HSt := hide (@aq_st r i t ls)
  have HAll := hide (@aq_all r i t ls)
  obtain ⟨C, hC⟩ : ∃ C, apRC r i t ls = C := ⟨_, rfl⟩
  obtain ⟨R, hR⟩ : ∃ R, apRR r i t ls = R := ⟨_, rfl⟩
  rw [hC, hR] at HBad HLog HFit HTmc HSt HAll ⊢
  obtain ⟨TV, hTV⟩ : ∃ x, tmV r i = x := ⟨_, rfl⟩
  obtain ⟨TC, hTC⟩ : ∃ x, tmC r i = x := ⟨_, rfl⟩
  rw [hTV, hTC] at HTm
  simp only [hTV, hTC] at HTmc HSt HAll
  clear hTV hTC
  obtain ⟨Z, hZ⟩ : ∃ Z, rfF r = Z := ⟨_, rfl⟩
  rw [hZ] at HF HTm HCp HRm HBad HLog HFit HTmc HSt HAll
  obtain ⟨G, hG⟩ : ∃ G, logF ls = G := ⟨_, rfl⟩
  rw [hG] at HLg HFt HLog HFit HTmc HSt HAll
  obtain ⟨B, hB⟩ : ∃ B, decide (gon ls i t r.tm) = B := ⟨_, rfl⟩
  rw [hB] at HFt HFit HTmc HSt HAll
  clear hC hR hZ hG hB hy hz hv
  obtain ⟨ps, hps⟩ : ∃ ps, r.lg = ps := ⟨_, rfl⟩
  rw [hps] at HF HTm HCp HZ HRm BA VA RA HFt hcz ⊢
  simp only [hps] at HAll
  clear hps
  obtain ⟨m, hme⟩ : ∃ m, ps.length = m := ⟨_, rfl⟩
  have HME := hide hme
  rw [hme] at HF HTm HCp HZ HRm BA VA RA HFt hcz ⊢
  simp only [hme] at HAll
  clear hme
  generalize r.sn.length = l at *
  obtain ⟨q, hq⟩ : ∃ x, ls.length = x := ⟨_, rfl⟩
  have HQ := hide hq
  rw [hq] at HLg HFt HV hcv ⊢
  simp only [hq] at HAll
  clear hq
  generalize r.tm = a at *
  generalize r.vt = b at *
  generalize r.si = c at *
  generalize r.st = d at *
  obtain ⟨W, hW⟩ : ∃ W, ((w.alloc (.cells #[.int .i64 a, .int .i64 b, .int .i64 c, .int .i64 d, .slice ay l cy, .slice az m cz] 27)).alloc (.cells #[.int .i64 0, .int .i64 0, .int .i64 0, .int .i64 0, .int .i64 0, .slice none 0 0, .slice none 0 0] 79)) = W := ⟨_, rfl⟩
  rw [hW] at BA VA RA HF
  obtain ⟨v0, v1, v2, v3, v4, v5⟩ := VA.out
  go_enter Tryz.func51, Tryz.ntmps51
  go_wp2_with fail
  clear hW
  refine HF.out.mono ?_
  rintro e w1 ⟨rfl, hb⟩
  have BB := hide (below_on BA.out hb)
  have VB := hide (VA.out.later hb)
  have RB := hide (RA.out.later hb)
  clear hb v0 v1 v2 v3 v4 v5 VA RA BA
  by_cases h0 : Z = 0
  · subst h0
    have H2 := hide (HLg.out _ BB.out)
    obtain ⟨v0, v1, v2, v3, v4, v5⟩ := VB.out
    go_wp2_with fail
    refine H2.out.mono ?_
    rintro e w2 ⟨rfl, hb⟩
    have BC := hide (below_on BB.out hb)
    have VC := hide (VB.out.later hb)
    have RC := hide (RB.out.later hb)
    clear hb v0 v1 v2 v3 v4 v5 VB RB BB H2
    by_cases h0 : G = 0
    · subst h0
      have H3 := hide (HFt.out (by first | trivial | rfl) _ BC.out VC.out)
      obtain ⟨v0, v1, v2, v3, v4, v5⟩ := VC.out
      go_wp2_with fail
      refine H3.out.mono ?_
      rintro e w3 ⟨rfl, qd, hwd⟩
      have hb : Below w2.heap.size w2 w3 := by rw [hwd]; exact below_drewN _ _
      clear hwd
      have BD := hide (below_on BC.out hb)
      have VD := hide (VC.out.later hb)
      have RD := hide (RC.out.later hb)
      clear hb v0 v1 v2 v3 v4 v5 VC RC BC H3
      cases B
      · obtain ⟨rfl, rfl⟩ := HFit.out (by first | trivial | rfl) (by first | trivial | rfl) (by first | trivial | rfl)
        go_wp2_with fail
        refine (l10BadI 1 _).mono ?_
        rintro e wb ⟨rfl, hb⟩
        have RZ := hide (RD.out.later hb)
        clear hb
        have HFn := hide (ret_none (x0 := .int .i64 1) (x1 := .int .i64 0) (x2 := .int .i64 0) (x3 := .int .i64 0) (x4 := .int .i64 0) RZ.out.below RZ.out.ge)
        obtain ⟨_, ⟨c0, c1, c2, c3, c4, c5, c6⟩, F, _⟩ := RZ.out
        have f0 := F 0
        have f1 := F 1
        have f2 := F 2
        have f3 := F 3
        have f4 := F 4
        have f5 := F 5
        have f6 := F 6
        clear F
        go_wp2
        refine bodyPost_ret (v := .agg #[.int .i64 1, .int .i64 0, .int .i64 0, .int .i64 0, .int .i64 0, .slice none 0 0, .slice none 0 0]) (by simp [results, Tryz.results51, go_sem, c0, c1, c2, c3, c4, c5, c6]) rfl ⟨_, _, rfl, HFn.out.1, HFn.out.2⟩
      · have H4 := hide (HTm.out (by first | trivial | rfl) _ BD.out VD.out)
        obtain ⟨v0, v1, v2, v3, v4, v5⟩ := VD.out
        go_wp2_with fail
        refine H4.out.mono ?_
        rintro e w4 ⟨rfl, qd, hwd⟩
        have hb : Below w3.heap.size w3 w4 := by rw [hwd]; exact below_drewN _ _
        clear hwd
        have BE := hide (below_on BD.out hb)
        have VE := hide (VD.out.later hb)
        have RE := hide (RD.out.later hb)
        clear hb v0 v1 v2 v3 v4 v5 VD RD BD H4
        by_cases h0 : TC = 0
        · subst h0
          by_cases ht : TV = t
          · subst ht
            obtain ⟨p, hp, hs01, hq14, hpm, hjl, hjw, hFl, hOk⟩ := HAll.out (by first | trivial | rfl) (by first | trivial | rfl) (by first | trivial | rfl) (by first | trivial | rfl) (by first | trivial | rfl)
            have HJl := hide hjl
            have HJw := hide hjw
            have HFl := hide hFl
            have HOk := hide hOk
            obtain ⟨hl40, hm14, _⟩ := HRm.out (by first | trivial | rfl)
            clear hjl hjw hFl hOk HAll HBad HLog HFit HTmc HSt HRm HLg HFt HTm HF
            obtain ⟨v0, v1, v2, v3, v4, v5⟩ := VE.out
            have HCq := hide (HCp.out (by first | trivial | rfl) _ BE.out)
            go_wp2_with fail
            refine HCq.out.mono ?_
            rintro e w5 ⟨y5, z5, rfl, hb, ho⟩
            obtain ⟨a5, k5, g5, j5, hy5, hz5⟩ := ho.shape
            obtain ⟨l5, hl5⟩ : ∃ x, r.sn.length = x := ⟨_, rfl⟩
            rw [hl5] at hy5
            rw [HME.out] at hz5
            clear hl5
            subst hy5
            subst hz5
            have hbe := below_on hb (below_alloc w5 (.cells #[.int .i64 a, .int .i64 b, .int .i64 c, .int .i64 d, .slice a5 l5 k5, .slice g5 m j5] 27))
            have BF := hide (below_on BE.out hbe)
            have VF := hide (VE.out.later hbe)
            have RF := hide (RE.out.later hbe)
            have hr4 : w.heap.size + 1 < w4.heap.size := RE.out.lt
            have hr5 := hb.size
            have NV := hide (Var6_new w5 (.int .i64 a) (.int .i64 b) (.int .i64 c) (.int .i64 d) (.slice a5 l5 k5) (.slice g5 m j5) 27)
            have NF : Hid (∀ o, (w5.alloc (.cells #[.int .i64 a, .int .i64 b, .int .i64 c, .int .i64 d, .slice a5 l5 k5, .slice g5 m j5] 27)).frozen? ⟨w5.heap.size, o, none⟩ = false) := fun o => by simp [go_sem]
            have OF := hide (ho.later (below_alloc w5 (.cells #[.int .i64 a, .int .i64 b, .int .i64 c, .int .i64 d, .slice a5 l5 k5, .slice g5 m j5] 27)))
            obtain ⟨W5, hW5⟩ : ∃ x, w5.alloc (.cells #[.int .i64 a, .int .i64 b, .int .i64 c, .int .i64 d, .slice a5 l5 k5, .slice g5 m j5] 27) = x := ⟨_, rfl⟩
            rw [hW5] at BF VF RF NV NF OF
            have hs5 : W5.heap.size = w5.heap.size + 1 := by rw [← hW5]; simp
            clear hb hbe ho v0 v1 v2 v3 v4 v5 HCq VE RE BE HCp
            obtain ⟨v0, v1, v2, v3, v4, v5⟩ := VF.out
            have e1 : IntKind.i64.wrap (i - c) = (p : Int) := by rw [hp]; simp [IntKind.wrap, IntKind.bits, IntKind.signed]; omega
            go_wp2
            (try rw [hW5])
            go_loopw [15] (fun i wr => ∃ k : Nat, k ≤ q ∧ i = .int .i64 k ∧ Hid (∀ j, j < k → p + j < m ∧ (ps.getD (p + j) oj0).2.1 = (ls.getD j oj0).2.1) ∧ Hid (Below W5.heap.size W5 wr)) (fun i _ => q - (RowKit.intOf i).toNat)
            case atStart => exact ⟨0, Nat.zero_le _, rfl, fun j hj => absurd hj (Nat.not_lt_zero _), Below.refl _ _⟩
            case round =>
              obtain ⟨k, hk, rfl, HM, HB⟩ := hrel
              clear v0 v1 v2 v3 v4 v5 e1 hW5
              have VL := hide (VF.out.later HB.out)
              obtain ⟨v0, v1, v2, v3, v4, v5⟩ := VL.out
              by_cases hlt : k < q
              · obtain ⟨b1, off, rfl, y1, q0, q1, q2, q3⟩ := HV.out.file (k := k) (by rw [HQ.out]; exact hlt)
                have g1 := cell_later (below_on BF.out HB.out) q1
                have hbl1 := World.block_lt_of_cell? _ _ g1
                obtain ⟨tk, htk⟩ : ∃ x, (ls.getD k oj0).2.1 = x := ⟨_, rfl⟩
                rw [htk] at g1
                have HTk := hide htk
                clear q0 q1 q2 q3 htk
                have hk0 : (0 : Int) ≤ (k : Int) := by omega
                have hk1 : (k : Int) < (q : Int) := by omega
                have hk2 : (k : Int) ≤ (q : Int) := by omega
                have d1 : decide ((k : Int) < (q : Int)) = true := decide_eq_true hk1
                have hpk : p + k ≤ m := by
                  rcases Nat.eq_zero_or_pos k with h | h
                  · omega
                  · have := (HM.out (k - 1) (by omega)).1
                    omega
                obtain ⟨pk, hpe⟩ : ∃ x, p + k = x := ⟨_, rfl⟩
                have eadd : IntKind.i64.wrap ((p : Int) + (k : Int)) = (pk : Int) := by simp [IntKind.wrap, IntKind.bits, IntKind.signed]; omega
                have hpk0 : (0 : Int) ≤ (pk : Int) := by omega
                have hpk1 : (pk : Int) ≤ (m : Int) := by omega
                have hpk2 : (pk : Int) ≤ (cz : Int) := by omega
                by_cases hin : pk < m
                · obtain ⟨b2, off2, rfl, y2, s0, s1, s2, s3⟩ := HZ.out.file (k := pk) (by rw [HME.out]; exact hin)
                  have g2 := cell_later (below_on BF.out HB.out) s1
                  have hbl2 := World.block_lt_of_cell? _ _ g2
                  obtain ⟨xt, hxt⟩ : ∃ x, (ps.getD pk oj0).2.1 = x := ⟨_, rfl⟩
                  rw [hxt] at g2
                  have HXt := hide hxt
                  clear s0 s1 s2 s3 hxt
                  have hpk3 : (pk : Int) < (m : Int) := by omega
                  have d2 : decide ((pk : Int) < (m : Int)) = true := decide_eq_true hpk3
                  by_cases hte : xt = tk
                  · subst hte
                    have HM2 : Hid (∀ j, j < k + 1 → p + j < m ∧ (ps.getD (p + j) oj0).2.1 = (ls.getD j oj0).2.1) := fun j hj => by
                      by_cases hjk : j = k
                      · subst hjk; exact ⟨by omega, by rw [hpe, HXt.out, HTk.out]⟩
                      · exact HM.out j (by omega)
                    (try go_wp2_with fail)
                    go_quiet (fail)
                    have HBq := hide (below_on HB.out (below_drewN _ nq))
                    go_wp2
                    go_roundw
                    case rel => exact ⟨k + 1, hlt, by go_num, HM2.out, HBq.out⟩
                    case measure => simp [RowKit.intOf]; omega
                  · have hte1 : (xt == tk) = false := by simpa using hte
                    have hte2 : (xt != tk) = true := by simp [hte]
                    have HRa := hide (HZ.out.uptoE pk (by omega))
                    have HRf := hide (HV.out.fromE k (by omega) hcv)
                    have HJ := hide (jn_cut (ps := ps) (ls := ls) (p := p) k (by rw [HQ.out]; exact hlt) (by rw [HME.out]; exact HM.out) (fun _ => by rw [hpe, HXt.out, HTk.out]; exact hte))
                    rw [hpe] at HJ
                    have hck : ¬ cv = k := by omega
                    have hA2 : slE (some (⟨b1, off, none⟩ : Addr)) cv k = some ⟨b1, off + k * 3, none⟩ := by simp [slE, hck, Addr.add_lit]
                    rw [hA2] at HRf
                    clear hA2
                    have HLen : Hid ((ps.take pk).length + (ls.drop k).length ≤ 60) := by have h1 := HME.out; have h2 := HQ.out; show (ps.take pk).length + (ls.drop k).length ≤ 60; simp; omega
                    rw [HJ.out] at HJl HJw HFl HOk
                    obtain ⟨PA, hPA⟩ : ∃ x, ps.take pk = x := ⟨_, rfl⟩
                    obtain ⟨PB, hPB⟩ : ∃ x, ls.drop k = x := ⟨_, rfl⟩
                    rw [hPA] at HRa HJ HLen HJl HJw HFl HOk
                    rw [hPB] at HRf HJ HLen HJl HJw HFl HOk
                    clear hPA hPB
                    (try go_wp2_with fail)
                    go_quiet (fail)
                    have HBq := hide (below_on HB.out (below_drewN wr nq))
                    have VQ := hide (VF.out.later HBq.out)
                    obtain ⟨wq, hwq⟩ : ∃ x, wr.drewN nq = x := ⟨_, rfl⟩
                    (try rw [hwq])
                    rw [hwq] at HBq VQ
                    have HWq := hide hwq
                    clear hwq v0 v1 v2 v3 v4 v5 VL
                    have hbq : ((k : Int) == (q : Int)) = false := by simp; omega
                    obtain ⟨v0, v1, v2, v3, v4, v5⟩ := VQ.out
                    go_upto_region 21 with fail
                    (try rw [HWq.out])
                    refine wp_region_held_drew (S := fun w' => w'.cell? ⟨w.heap.size, 5, none⟩ = some (.slice (some ⟨b2, off2, none⟩) m cz)) (by kernel_rfl) v5 (fun hHeld0 => ?_)
                    refine forgetH (fun wx => (wx.cell? ⟨w.heap.size, 5, none⟩ = some (.slice (some ⟨b2, off2, none⟩) m cz)) ∧ Below wq.heap.size wq wx) ⟨hHeld0, below_drewN wq 1⟩ ?_
                    clear hHeld0
                    rintro X0 ⟨P0, hbx⟩
                    have HB0 := hide (below_on HBq.out hbx)
                    clear hbx v0 v1 v2 v3 v4 v5
                    refine wpAnyH_take (i := 1) (v := ?v21n1x1) rfl (by kernel_rfl) (by kernel_rfl) (by kernel_rfl) (fun _ _ _ h => h) (Or.inl ⟨by rfl, ?h21n1x1⟩) P0 ?r21n1x1
                    case h21n1x1 => intro w9 hSw; (try dsimp only at hSw); first | (go_simp; done) | (go_simp; with_reducible rfl)
                    try simp only [Act.put, List.setIfInBounds_toArray, List.set_cons_zero, List.set_cons_succ, List.getElem_toArray, List.getElem_cons_zero, List.getElem_cons_succ]
                    refine wpAnyH_take (i := 2) (v := ?v21n1x2) rfl (by kernel_rfl) (by kernel_rfl) (by kernel_rfl) (fun _ _ _ h => h) (Or.inl ⟨by rfl, ?h21n1x2⟩) P0 ?r21n1x2
                    case h21n1x2 => intro w9 hSw; (try dsimp only at hSw); first | (go_simp; done) | (go_simp; with_reducible rfl)
                    try simp only [Act.put, List.setIfInBounds_toArray, List.set_cons_zero, List.set_cons_succ, List.getElem_toArray, List.getElem_cons_zero, List.getElem_cons_succ]
                    refine wpAnyH_take (i := 3) (v := ?v21n1x3) rfl (by kernel_rfl) (by kernel_rfl) (by kernel_rfl) (fun _ _ _ h => h) (Or.inl ⟨by rfl, ?h21n1x3⟩) P0 ?r21n1x3
                    case h21n1x3 => intro w9 hSw; (try dsimp only at hSw); first | (go_simp; done) | (go_simp; with_reducible rfl)
                    try simp only [Act.put, List.setIfInBounds_toArray, List.set_cons_zero, List.set_cons_succ, List.getElem_toArray, List.getElem_cons_zero, List.getElem_cons_succ]
                    refine wpAnyH_take (i := 4) (v := ?v21n1x4) rfl (by kernel_rfl) (by kernel_rfl) (by kernel_rfl) (fun _ _ _ h => h) (Or.inl ⟨by rfl, ?h21n1x4⟩) P0 ?r21n1x4
                    case h21n1x4 => intro w9 hSw; (try dsimp only at hSw); first | (go_simp; done) | (go_simp; with_reducible rfl)
                    try simp only [Act.put, List.setIfInBounds_toArray, List.set_cons_zero, List.set_cons_succ, List.getElem_toArray, List.getElem_cons_zero, List.getElem_cons_succ]
                    refine wpAnyH_take (i := 5) (v := ?v21n1x5) rfl (by kernel_rfl) (by kernel_rfl) (by kernel_rfl) (fun _ _ _ h => h) (Or.inl ⟨by rfl, ?h21n1x5⟩) P0 ?r21n1x5
                    case h21n1x5 => intro w9 hSw; (try dsimp only at hSw); first | (go_simp; done) | (go_simp; with_reducible rfl)
                    try simp only [Act.put, List.setIfInBounds_toArray, List.set_cons_zero, List.set_cons_succ, List.getElem_toArray, List.getElem_cons_zero, List.getElem_cons_succ]
                    refine wpAnyH_take (i := 6) (v := ?v21n1x6) rfl (by kernel_rfl) (by kernel_rfl) (by kernel_rfl) (fun _ _ _ h => h) (Or.inl ⟨by rfl, ?h21n1x6⟩) P0 ?r21n1x6
                    case h21n1x6 => intro w9 hSw; (try dsimp only at hSw); first | (go_simp; done) | (go_simp; with_reducible rfl)
                    try simp only [Act.put, List.setIfInBounds_toArray, List.set_cons_zero, List.set_cons_succ, List.getElem_toArray, List.getElem_cons_zero, List.getElem_cons_succ]
                    refine wpAnyH_take (i := 8) (v := ?v21n1x8) rfl (by kernel_rfl) (by kernel_rfl) (by kernel_rfl) (fun _ _ _ h => h) (Or.inl ⟨by rfl, ?h21n1x8⟩) P0 ?r21n1x8
                    case h21n1x8 => intro w9 hSw; (try dsimp only at hSw); first | (go_simp; done) | (go_simp; with_reducible rfl)
                    try simp only [Act.put, List.setIfInBounds_toArray, List.set_cons_zero, List.set_cons_succ, List.getElem_toArray, List.getElem_cons_zero, List.getElem_cons_succ]
                    refine wpAnyH_take (i := 9) (v := ?v21n1x9) rfl (by kernel_rfl) (by kernel_rfl) (by kernel_rfl) (fun _ _ _ h => h) (Or.inl ⟨by rfl, ?h21n1x9⟩) P0 ?r21n1x9
                    case h21n1x9 => intro w9 hSw; (try dsimp only at hSw); first | (go_simp; done) | (go_simp; with_reducible rfl)
                    try simp only [Act.put, List.setIfInBounds_toArray, List.set_cons_zero, List.set_cons_succ, List.getElem_toArray, List.getElem_cons_zero, List.getElem_cons_succ]
                    refine wpAnyH_take (i := 10) (v := ?v21n1x10) rfl (by kernel_rfl) (by kernel_rfl) (by kernel_rfl) (fun _ _ _ h => h) (Or.inl ⟨by rfl, ?h21n1x10⟩) P0 ?r21n1x10
                    case h21n1x10 => intro w9 hSw; (try dsimp only at hSw); first | (go_simp; done) | (go_simp; with_reducible rfl)
                    try simp only [Act.put, List.setIfInBounds_toArray, List.set_cons_zero, List.set_cons_succ, List.getElem_toArray, List.getElem_cons_zero, List.getElem_cons_succ]
                    refine wpAnyH_ready (rs := [0]) (by kernel_rfl) (by simp) (AllReadyH.cons rfl (fun K hK => ?_) (AllReadyH.nil))
                    go_simp
                    have hb := below_alloc X0 (.cells #[] 58)
                    have P1 := cell_later hb P0
                    refine hK.out _ _ P1 (fun _ => ?_)
                    clear hK K P0
                    try simp only [Act.put, List.setIfInBounds_toArray, List.set_cons_zero, List.set_cons_succ, List.getElem_toArray, List.getElem_cons_zero, List.getElem_cons_succ]
                    have HR1 := hide (rowE_new w.heap.size X0)
                    have HB1 := hide hb
                    obtain ⟨X1, hX1⟩ : ∃ x, X0.alloc (.cells #[] 58) = x := ⟨_, rfl⟩
                    refine forgetH (fun wx => wx = X1) hX1 ?_
                    rw [hX1] at P1 HR1 HB1
                    clear hX1 hb
                    rintro _ rfl
                    have hx0 : w.heap.size ≤ X0.heap.size := (below_on BF.out HB0.out).size
                    have hx1 := HB1.out.size
                    have hx05 := HB0.out.size
                    have hx0s : w.heap.size < X0.heap.size := by omega
                    refine wpAnyH_ready (rs := [7]) (by kernel_rfl) (by simp) (AllReadyH.cons rfl (fun K hK => ?_) (AllReadyH.nil))
                    refine step_append_en _ rfl _ _ rfl (by rfl) (by rfl) HR1.out ((HRa.out.later (below_on BF.out HB0.out)).later0 HB1.out) hx0 (by omega) (by have := HLen.out; simp only [List.length_append, List.length_nil] at this ⊢; omega) ?_
                    intro z2 X2 hrow hbr
                    have P2 := cell_belowE hbr P1 (by omega)
                    refine hK.out _ _ P2 (fun _ => ?_)
                    clear hK K
                    try simp only [Act.put, List.setIfInBounds_toArray, List.set_cons_zero, List.set_cons_succ, List.getElem_toArray, List.getElem_cons_zero, List.getElem_cons_succ]
                    have HR2 := hide hrow
                    have HB2 := hide (HB1.out.trans hbr)
                    have hx2 := hbr.size
                    clear hrow hbr
                    refine wpAnyH_ready (rs := [11]) (by kernel_rfl) (by simp) (AllReadyH.cons rfl (fun K hK => ?_) (AllReadyH.nil))
                    refine step_append_en _ rfl _ _ rfl (by rfl) (by rfl) HR2.out ((HRf.out.later (below_on BF.out HB0.out)).later0 HB2.out) hx0 (by omega) (by have := HLen.out; simp only [List.length_append, List.length_nil] at this ⊢; omega) ?_
                    intro z3 X3 hrow hbr
                    have P3 := cell_belowE hbr P2 (by omega)
                    refine hK.out _ _ P3 (fun _ => ?_)
                    clear hK K
                    try simp only [Act.put, List.setIfInBounds_toArray, List.set_cons_zero, List.set_cons_succ, List.getElem_toArray, List.getElem_cons_zero, List.getElem_cons_succ]
                    have HR3 := hide hrow
                    have HB3 := hide (HB2.out.trans hbr)
                    have hx3 := hbr.size
                    clear hrow hbr
                    simp only [List.nil_append] at HR3
                    have HRd := hide (HR3.out.rd (by have := HLen.out; simp only [List.length_append]; omega))
                    obtain ⟨J, hJ⟩ : ∃ x, PA ++ PB = x := ⟨_, rfl⟩
                    rw [hJ] at HRd HJl HJw HJ HFl HOk
                    clear hJ HR3 HR2 HR1 HRa HRf
                    have HCl := hide (l9Copy HRd.out (by have := HJl.out; omega) HJw.out)
                    refine wpAnyH_ready (rs := [12]) (by kernel_rfl) (by simp) (AllReadyH.cons rfl (fun K hK => ?_) (AllReadyH.nil))
                    go_simp
                    go_at_call 72
                    refine HCl.out.mono ?_
                    rintro e X4 ⟨u, rfl, hb, hbu⟩
                    have P4 := cell_later hb P3
                    have HOJ := hide (hbu.ow rfl (by have := HJl.out; omega))
                    obtain ⟨g6, j6, hu⟩ := hbu.shape
                    obtain ⟨lj, hlj⟩ : ∃ x, J.length = x := ⟨_, rfl⟩
                    have HLj := hide hlj
                    rw [hlj] at hu
                    clear hlj
                    subst hu
                    refine hK.out _ _ P4 (fun _ => ?_)
                    clear hK K HCl
                    try simp only [Act.put, List.setIfInBounds_toArray, List.set_cons_zero, List.set_cons_succ, List.getElem_toArray, List.getElem_cons_zero, List.getElem_cons_succ]
                    have HB4 := hide (below_on HB0.out (HB3.out.trans (hb.mono (by omega))))
                    have hx4 := hb.size
                    clear hb hbu
                    have NQ := hide (NV.out.later HB4.out)
                    have FQ : Hid (∀ o, X4.frozen? ⟨w5.heap.size, o, none⟩ = false) := fun o => ((bcell HB4.out).2 _ _ NV.out.lt).trans (NF.out o)
                    obtain ⟨n0, n1, n2, n3, n4, n5⟩ := NQ.out
                    have fq5 := FQ.out 5
                    refine wpAnyH_take (i := 13) (v := ?v21n1x13) rfl (by kernel_rfl) (by kernel_rfl) (by kernel_rfl) (fun _ _ _ h => h) (Or.inl ⟨by rfl, ?h21n1x13⟩) P4 ?r21n1x13
                    case h21n1x13 => intro w9 hSw; (try dsimp only at hSw); first | (go_simp; done) | (go_simp; with_reducible rfl)
                    try simp only [Act.put, List.setIfInBounds_toArray, List.set_cons_zero, List.set_cons_succ, List.getElem_toArray, List.getElem_cons_zero, List.getElem_cons_succ]
                    refine wpAnyH_ready (rs := [14]) (by kernel_rfl) (by simp) (AllReadyH.cons rfl (fun K hK => ?_) (AllReadyH.nil))
                    go_simp
                    refine hK.out _ _ (by rw [World.cell?_setCell_other _ _ _ _ (by first | (simp; done) | (simp; omega) | omega)]; exact P4) (fun _ => ?_)
                    clear hK K
                    try simp only [Act.put, List.setIfInBounds_toArray, List.set_cons_zero, List.set_cons_succ, List.getElem_toArray, List.getElem_cons_zero, List.getElem_cons_succ]
                    refine wpAnyH_done (by kernel_rfl) ?_ _
                    refine forgetX (fun W7 => Var6 W7 w5.heap.size (.int .i64 a) (.int .i64 b) (.int .i64 c) (.int .i64 d) (.slice a5 l5 k5) (.slice g6 lj j6) ∧ Res7 w W7 (w.heap.size + 1) ∧ (∃ lo, w.heap.size + 1 < lo ∧ IvR lo W7.heap.size W7 (.slice a5 l5 k5) (.slice g6 lj j6) r.sn J)) ?s71 ?_
                    case s71 =>
                      have hw7 : Wr (fun x => x = w5.heap.size) X4 (X4.setCell ⟨w5.heap.size, 5, none⟩ (.slice g6 lj j6)) := (Wr.refl (fun x => x = w5.heap.size) _).setCell (p := ⟨w5.heap.size, 5, none⟩) rfl _
                      have hRX := RF.out.later HB4.out
                      refine ⟨⟨by simp [go_sem, n0], by simp [go_sem, n1], by simp [go_sem, n2], by simp [go_sem, n3], by simp [go_sem, n4], by simp [go_sem, n5]⟩, hRX.wr hw7 (by omega) (fun b hb => by omega), w4.heap.size, by omega, ?_⟩
                      exact IvR_put (OF.out.later HB4.out) HOJ.out hw7 (by omega) (by omega) (by omega) (by omega)
                    clear n0 n1 n2 n3 n4 n5 fq5
                    rintro W7 ⟨N7, R7, lo, hlo, I7⟩
                    have HR7 := hide R7
                    have HI7 := hide I7
                    have HN7 := hide N7
                    obtain ⟨n0, n1, n2, n3, n4, n5⟩ := N7
                    clear R7 I7
                    by_cases h14 : 14 < lj
                    · have h14' : (14 : Int) < (lj : Int) := by omega
                      obtain ⟨rfl, rfl⟩ := HFl.out (by rw [HLj.out]; exact h14)
                      go_wp2_with fail
                      refine (l10BadI 8 _).mono ?_
                      rintro e wb ⟨rfl, hb⟩
                      have RZ := hide (HR7.out.later hb)
                      clear hb
                      have HFn := hide (ret_none (x0 := .int .i64 8) (x1 := .int .i64 0) (x2 := .int .i64 0) (x3 := .int .i64 0) (x4 := .int .i64 0) RZ.out.below RZ.out.ge)
                      obtain ⟨_, ⟨c0, c1, c2, c3, c4, c5, c6⟩, F, _⟩ := RZ.out
                      have f0 := F 0
                      have f1 := F 1
                      have f2 := F 2
                      have f3 := F 3
                      have f4 := F 4
                      have f5 := F 5
                      have f6 := F 6
                      clear F
                      go_wp2
                      refine bodyPost_ret (v := .agg #[.int .i64 8, .int .i64 0, .int .i64 0, .int .i64 0, .int .i64 0, .slice none 0 0, .slice none 0 0]) (by simp [results, Tryz.results51, go_sem, c0, c1, c2, c3, c4, c5, c6]) rfl ⟨_, _, rfl, HFn.out.1, HFn.out.2⟩
                    · have h14' : ¬ (14 : Int) < (lj : Int) := by omega
                      obtain ⟨rfl, rfl⟩ := HOk.out (by rw [HLj.out]; exact h14)
                      have HFn := hide (ret_raft (r := w.heap.size + 1) (x0 := .int .i64 0) (x1 := .int .i64 a) (x2 := .int .i64 b) (x3 := .int .i64 c) (x4 := .int .i64 d) HR7.out.below HR7.out.ge HI7.out hlo)
                      obtain ⟨_, ⟨c0, c1, c2, c3, c4, c5, c6⟩, F, _⟩ := HR7.out
                      have f0 := F 0
                      have f1 := F 1
                      have f2 := F 2
                      have f3 := F 3
                      have f4 := F 4
                      have f5 := F 5
                      have f6 := F 6
                      clear F
                      go_wp2
                      refine bodyPost_ret (v := .agg #[.int .i64 0, .int .i64 a, .int .i64 b, .int .i64 c, .int .i64 d, .slice a5 l5 k5, .slice g6 lj j6]) (by simp [results, Tryz.results51, go_sem, c0, c1, c2, c3, c4, c5, c6]) rfl ⟨_, _, rfl, HFn.out.1, HFn.out.2⟩
                · have hpk3 : ¬ (pk : Int) < (m : Int) := by omega
                  have d2 : decide ((pk : Int) < (m : Int)) = false := decide_eq_false hpk3
                  have HRa := hide (HZ.out.uptoE pk (by omega))
                  have HRf := hide (HV.out.fromE k (by omega) hcv)
                  have HJ := hide (jn_cut (ps := ps) (ls := ls) (p := p) k (by rw [HQ.out]; exact hlt) (by rw [HME.out]; exact HM.out) (fun h => absurd h (by rw [HME.out]; omega)))
                  rw [hpe] at HJ
                  have hck : ¬ cv = k := by omega
                  have hA2 : slE (some (⟨b1, off, none⟩ : Addr)) cv k = some ⟨b1, off + k * 3, none⟩ := by simp [slE, hck, Addr.add_lit]
                  rw [hA2] at HRf
                  clear hA2
                  have HLen : Hid ((ps.take pk).length + (ls.drop k).length ≤ 60) := by have h1 := HME.out; have h2 := HQ.out; show (ps.take pk).length + (ls.drop k).length ≤ 60; simp; omega
                  rw [HJ.out] at HJl HJw HFl HOk
                  obtain ⟨PA, hPA⟩ : ∃ x, ps.take pk = x := ⟨_, rfl⟩
                  obtain ⟨PB, hPB⟩ : ∃ x, ls.drop k = x := ⟨_, rfl⟩
                  rw [hPA] at HRa HJ HLen HJl HJw HFl HOk
                  rw [hPB] at HRf HJ HLen HJl HJw HFl HOk
                  clear hPA hPB
                  (try go_wp2_with fail)
                  go_quiet (fail)
                  have HBq := hide (below_on HB.out (below_drewN wr nq))
                  have VQ := hide (VF.out.later HBq.out)
                  obtain ⟨wq, hwq⟩ : ∃ x, wr.drewN nq = x := ⟨_, rfl⟩
                  (try rw [hwq])
                  rw [hwq] at HBq VQ
                  have HWq := hide hwq
                  clear hwq v0 v1 v2 v3 v4 v5 VL
                  have hbq : ((k : Int) == (q : Int)) = false := by simp; omega
                  obtain ⟨v0, v1, v2, v3, v4, v5⟩ := VQ.out
                  go_upto_region 21 with fail
                  (try rw [HWq.out])
                  refine wp_region_held_drew (S := fun w' => w'.cell? ⟨w.heap.size, 5, none⟩ = some (.slice az m cz)) (by kernel_rfl) v5 (fun hHeld0 => ?_)
                  refine forgetH (fun wx => (wx.cell? ⟨w.heap.size, 5, none⟩ = some (.slice az m cz)) ∧ Below wq.heap.size wq wx) ⟨hHeld0, below_drewN wq 1⟩ ?_
                  clear hHeld0
                  rintro X0 ⟨P0, hbx⟩
                  have HB0 := hide (below_on HBq.out hbx)
                  clear hbx v0 v1 v2 v3 v4 v5
                  refine wpAnyH_take (i := 1) (v := ?v21n2x1) rfl (by kernel_rfl) (by kernel_rfl) (by kernel_rfl) (fun _ _ _ h => h) (Or.inl ⟨by rfl, ?h21n2x1⟩) P0 ?r21n2x1
                  case h21n2x1 => intro w9 hSw; (try dsimp only at hSw); first | (go_simp; done) | (go_simp; with_reducible rfl)
                  try simp only [Act.put, List.setIfInBounds_toArray, List.set_cons_zero, List.set_cons_succ, List.getElem_toArray, List.getElem_cons_zero, List.getElem_cons_succ]
                  refine wpAnyH_take (i := 2) (v := ?v21n2x2) rfl (by kernel_rfl) (by kernel_rfl) (by kernel_rfl) (fun _ _ _ h => h) (Or.inl ⟨by rfl, ?h21n2x2⟩) P0 ?r21n2x2
                  case h21n2x2 => intro w9 hSw; (try dsimp only at hSw); first | (go_simp; done) | (go_simp; with_reducible rfl)
                  try simp only [Act.put, List.setIfInBounds_toArray, List.set_cons_zero, List.set_cons_succ, List.getElem_toArray, List.getElem_cons_zero, List.getElem_cons_succ]
                  refine wpAnyH_take (i := 3) (v := ?v21n2x3) rfl (by kernel_rfl) (by kernel_rfl) (by kernel_rfl) (fun _ _ _ h => h) (Or.inl ⟨by rfl, ?h21n2x3⟩) P0 ?r21n2x3
                  case h21n2x3 => intro w9 hSw; (try dsimp only at hSw); first | (go_simp; done) | (go_simp; with_reducible rfl)
                  try simp only [Act.put, List.setIfInBounds_toArray, List.set_cons_zero, List.set_cons_succ, List.getElem_toArray, List.getElem_cons_zero, List.getElem_cons_succ]
                  refine wpAnyH_take (i := 4) (v := ?v21n2x4) rfl (by kernel_rfl) (by kernel_rfl) (by kernel_rfl) (fun _ _ _ h => h) (Or.inl ⟨by rfl, ?h21n2x4⟩) P0 ?r21n2x4
                  case h21n2x4 => intro w9 hSw; (try dsimp only at hSw); first | (go_simp; done) | (go_simp; with_reducible rfl)
                  try simp only [Act.put, List.setIfInBounds_toArray, List.set_cons_zero, List.set_cons_succ, List.getElem_toArray, List.getElem_cons_zero, List.getElem_cons_succ]
                  refine wpAnyH_take (i := 5) (v := ?v21n2x5) rfl (by kernel_rfl) (by kernel_rfl) (by kernel_rfl) (fun _ _ _ h => h) (Or.inl ⟨by rfl, ?h21n2x5⟩) P0 ?r21n2x5
                  case h21n2x5 => intro w9 hSw; (try dsimp only at hSw); first | (go_simp; done) | (go_simp; with_reducible rfl)
                  try simp only [Act.put, List.setIfInBounds_toArray, List.set_cons_zero, List.set_cons_succ, List.getElem_toArray, List.getElem_cons_zero, List.getElem_cons_succ]
                  refine wpAnyH_take (i := 6) (v := ?v21n2x6) rfl (by kernel_rfl) (by kernel_rfl) (by kernel_rfl) (fun _ _ _ h => h) (Or.inl ⟨by rfl, ?h21n2x6⟩) P0 ?r21n2x6
                  case h21n2x6 => intro w9 hSw; (try dsimp only at hSw); first | (go_simp; done) | (go_simp; with_reducible rfl)
                  try simp only [Act.put, List.setIfInBounds_toArray, List.set_cons_zero, List.set_cons_succ, List.getElem_toArray, List.getElem_cons_zero, List.getElem_cons_succ]
                  refine wpAnyH_take (i := 8) (v := ?v21n2x8) rfl (by kernel_rfl) (by kernel_rfl) (by kernel_rfl) (fun _ _ _ h => h) (Or.inl ⟨by rfl, ?h21n2x8⟩) P0 ?r21n2x8
                  case h21n2x8 => intro w9 hSw; (try dsimp only at hSw); first | (go_simp; done) | (go_simp; with_reducible rfl)
                  try simp only [Act.put, List.setIfInBounds_toArray, List.set_cons_zero, List.set_cons_succ, List.getElem_toArray, List.getElem_cons_zero, List.getElem_cons_succ]
                  refine wpAnyH_take (i := 9) (v := ?v21n2x9) rfl (by kernel_rfl) (by kernel_rfl) (by kernel_rfl) (fun _ _ _ h => h) (Or.inl ⟨by rfl, ?h21n2x9⟩) P0 ?r21n2x9
                  case h21n2x9 => intro w9 hSw; (try dsimp only at hSw); first | (go_simp; done) | (go_simp; with_reducible rfl)
                  try simp only [Act.put, List.setIfInBounds_toArray, List.set_cons_zero, List.set_cons_succ, List.getElem_toArray, List.getElem_cons_zero, List.getElem_cons_succ]
                  refine wpAnyH_take (i := 10) (v := ?v21n2x10) rfl (by kernel_rfl) (by kernel_rfl) (by kernel_rfl) (fun _ _ _ h => h) (Or.inl ⟨by rfl, ?h21n2x10⟩) P0 ?r21n2x10
                  case h21n2x10 => intro w9 hSw; (try dsimp only at hSw); first | (go_simp; done) | (go_simp; with_reducible rfl)
                  try simp only [Act.put, List.setIfInBounds_toArray, List.set_cons_zero, List.set_cons_succ, List.getElem_toArray, List.getElem_cons_zero, List.getElem_cons_succ]
                  refine wpAnyH_ready (rs := [0]) (by kernel_rfl) (by simp) (AllReadyH.cons rfl (fun K hK => ?_) (AllReadyH.nil))
                  go_simp
                  have hb := below_alloc X0 (.cells #[] 58)
                  have P1 := cell_later hb P0
                  refine hK.out _ _ P1 (fun _ => ?_)
                  clear hK K P0
                  try simp only [Act.put, List.setIfInBounds_toArray, List.set_cons_zero, List.set_cons_succ, List.getElem_toArray, List.getElem_cons_zero, List.getElem_cons_succ]
                  have HR1 := hide (rowE_new w.heap.size X0)
                  have HB1 := hide hb
                  obtain ⟨X1, hX1⟩ : ∃ x, X0.alloc (.cells #[] 58) = x := ⟨_, rfl⟩
                  refine forgetH (fun wx => wx = X1) hX1 ?_
                  rw [hX1] at P1 HR1 HB1
                  clear hX1 hb
                  rintro _ rfl
                  have hx0 : w.heap.size ≤ X0.heap.size := (below_on BF.out HB0.out).size
                  have hx1 := HB1.out.size
                  have hx05 := HB0.out.size
                  have hx0s : w.heap.size < X0.heap.size := by omega
                  refine wpAnyH_ready (rs := [7]) (by kernel_rfl) (by simp) (AllReadyH.cons rfl (fun K hK => ?_) (AllReadyH.nil))
                  refine step_append_en _ rfl _ _ rfl (by rfl) (by rfl) HR1.out ((HRa.out.later (below_on BF.out HB0.out)).later0 HB1.out) hx0 (by omega) (by have := HLen.out; simp only [List.length_append, List.length_nil] at this ⊢; omega) ?_
                  intro z2 X2 hrow hbr
                  have P2 := cell_belowE hbr P1 (by omega)
                  refine hK.out _ _ P2 (fun _ => ?_)
                  clear hK K
                  try simp only [Act.put, List.setIfInBounds_toArray, List.set_cons_zero, List.set_cons_succ, List.getElem_toArray, List.getElem_cons_zero, List.getElem_cons_succ]
                  have HR2 := hide hrow
                  have HB2 := hide (HB1.out.trans hbr)
                  have hx2 := hbr.size
                  clear hrow hbr
                  refine wpAnyH_ready (rs := [11]) (by kernel_rfl) (by simp) (AllReadyH.cons rfl (fun K hK => ?_) (AllReadyH.nil))
                  refine step_append_en _ rfl _ _ rfl (by rfl) (by rfl) HR2.out ((HRf.out.later (below_on BF.out HB0.out)).later0 HB2.out) hx0 (by omega) (by have := HLen.out; simp only [List.length_append, List.length_nil] at this ⊢; omega) ?_
                  intro z3 X3 hrow hbr
                  have P3 := cell_belowE hbr P2 (by omega)
                  refine hK.out _ _ P3 (fun _ => ?_)
                  clear hK K
                  try simp only [Act.put, List.setIfInBounds_toArray, List.set_cons_zero, List.set_cons_succ, List.getElem_toArray, List.getElem_cons_zero, List.getElem_cons_succ]
                  have HR3 := hide hrow
                  have HB3 := hide (HB2.out.trans hbr)
                  have hx3 := hbr.size
                  clear hrow hbr
                  simp only [List.nil_append] at HR3
                  have HRd := hide (HR3.out.rd (by have := HLen.out; simp only [List.length_append]; omega))
                  obtain ⟨J, hJ⟩ : ∃ x, PA ++ PB = x := ⟨_, rfl⟩
                  rw [hJ] at HRd HJl HJw HJ HFl HOk
                  clear hJ HR3 HR2 HR1 HRa HRf
                  have HCl := hide (l9Copy HRd.out (by have := HJl.out; omega) HJw.out)
                  refine wpAnyH_ready (rs := [12]) (by kernel_rfl) (by simp) (AllReadyH.cons rfl (fun K hK => ?_) (AllReadyH.nil))
                  go_simp
                  go_at_call 72
                  refine HCl.out.mono ?_
                  rintro e X4 ⟨u, rfl, hb, hbu⟩
                  have P4 := cell_later hb P3
                  have HOJ := hide (hbu.ow rfl (by have := HJl.out; omega))
                  obtain ⟨g6, j6, hu⟩ := hbu.shape
                  obtain ⟨lj, hlj⟩ : ∃ x, J.length = x := ⟨_, rfl⟩
                  have HLj := hide hlj
                  rw [hlj] at hu
                  clear hlj
                  subst hu
                  refine hK.out _ _ P4 (fun _ => ?_)
                  clear hK K HCl
                  try simp only [Act.put, List.setIfInBounds_toArray, List.set_cons_zero, List.set_cons_succ, List.getElem_toArray, List.getElem_cons_zero, List.getElem_cons_succ]
                  have HB4 := hide (below_on HB0.out (HB3.out.trans (hb.mono (by omega))))
                  have hx4 := hb.size
                  clear hb hbu
                  have NQ := hide (NV.out.later HB4.out)
                  have FQ : Hid (∀ o, X4.frozen? ⟨w5.heap.size, o, none⟩ = false) := fun o => ((bcell HB4.out).2 _ _ NV.out.lt).trans (NF.out o)
                  obtain ⟨n0, n1, n2, n3, n4, n5⟩ := NQ.out
                  have fq5 := FQ.out 5
                  refine wpAnyH_take (i := 13) (v := ?v21n2x13) rfl (by kernel_rfl) (by kernel_rfl) (by kernel_rfl) (fun _ _ _ h => h) (Or.inl ⟨by rfl, ?h21n2x13⟩) P4 ?r21n2x13
                  case h21n2x13 => intro w9 hSw; (try dsimp only at hSw); first | (go_simp; done) | (go_simp; with_reducible rfl)
                  try simp only [Act.put, List.setIfInBounds_toArray, List.set_cons_zero, List.set_cons_succ, List.getElem_toArray, List.getElem_cons_zero, List.getElem_cons_succ]
                  refine wpAnyH_ready (rs := [14]) (by kernel_rfl) (by simp) (AllReadyH.cons rfl (fun K hK => ?_) (AllReadyH.nil))
                  go_simp
                  refine hK.out _ _ (by rw [World.cell?_setCell_other _ _ _ _ (by first | (simp; done) | (simp; omega) | omega)]; exact P4) (fun _ => ?_)
                  clear hK K
                  try simp only [Act.put, List.setIfInBounds_toArray, List.set_cons_zero, List.set_cons_succ, List.getElem_toArray, List.getElem_cons_zero, List.getElem_cons_succ]
                  refine wpAnyH_done (by kernel_rfl) ?_ _
                  refine forgetX (fun W7 => Var6 W7 w5.heap.size (.int .i64 a) (.int .i64 b) (.int .i64 c) (.int .i64 d) (.slice a5 l5 k5) (.slice g6 lj j6) ∧ Res7 w W7 (w.heap.size + 1) ∧ (∃ lo, w.heap.size + 1 < lo ∧ IvR lo W7.heap.size W7 (.slice a5 l5 k5) (.slice g6 lj j6) r.sn J)) ?s72 ?_
                  case s72 =>
                    have hw7 : Wr (fun x => x = w5.heap.size) X4 (X4.setCell ⟨w5.heap.size, 5, none⟩ (.slice g6 lj j6)) := (Wr.refl (fun x => x = w5.heap.size) _).setCell (p := ⟨w5.heap.size, 5, none⟩) rfl _
                    have hRX := RF.out.later HB4.out
                    refine ⟨⟨by simp [go_sem, n0], by simp [go_sem, n1], by simp [go_sem, n2], by simp [go_sem, n3], by simp [go_sem, n4], by simp [go_sem, n5]⟩, hRX.wr hw7 (by omega) (fun b hb => by omega), w4.heap.size, by omega, ?_⟩
                    exact IvR_put (OF.out.later HB4.out) HOJ.out hw7 (by omega) (by omega) (by omega) (by omega)
                  clear n0 n1 n2 n3 n4 n5 fq5
                  rintro W7 ⟨N7, R7, lo, hlo, I7⟩
                  have HR7 := hide R7
                  have HI7 := hide I7
                  have HN7 := hide N7
                  obtain ⟨n0, n1, n2, n3, n4, n5⟩ := N7
                  clear R7 I7
                  by_cases h14 : 14 < lj
                  · have h14' : (14 : Int) < (lj : Int) := by omega
                    obtain ⟨rfl, rfl⟩ := HFl.out (by rw [HLj.out]; exact h14)
                    go_wp2_with fail
                    refine (l10BadI 8 _).mono ?_
                    rintro e wb ⟨rfl, hb⟩
                    have RZ := hide (HR7.out.later hb)
                    clear hb
                    have HFn := hide (ret_none (x0 := .int .i64 8) (x1 := .int .i64 0) (x2 := .int .i64 0) (x3 := .int .i64 0) (x4 := .int .i64 0) RZ.out.below RZ.out.ge)
                    obtain ⟨_, ⟨c0, c1, c2, c3, c4, c5, c6⟩, F, _⟩ := RZ.out
                    have f0 := F 0
                    have f1 := F 1
                    have f2 := F 2
                    have f3 := F 3
                    have f4 := F 4
                    have f5 := F 5
                    have f6 := F 6
                    clear F
                    go_wp2
                    refine bodyPost_ret (v := .agg #[.int .i64 8, .int .i64 0, .int .i64 0, .int .i64 0, .int .i64 0, .slice none 0 0, .slice none 0 0]) (by simp [results, Tryz.results51, go_sem, c0, c1, c2, c3, c4, c5, c6]) rfl ⟨_, _, rfl, HFn.out.1, HFn.out.2⟩
                  · have h14' : ¬ (14 : Int) < (lj : Int) := by omega
                    obtain ⟨rfl, rfl⟩ := HOk.out (by rw [HLj.out]; exact h14)
                    have HFn := hide (ret_raft (r := w.heap.size + 1) (x0 := .int .i64 0) (x1 := .int .i64 a) (x2 := .int .i64 b) (x3 := .int .i64 c) (x4 := .int .i64 d) HR7.out.below HR7.out.ge HI7.out hlo)
                    obtain ⟨_, ⟨c0, c1, c2, c3, c4, c5, c6⟩, F, _⟩ := HR7.out
                    have f0 := F 0
                    have f1 := F 1
                    have f2 := F 2
                    have f3 := F 3
                    have f4 := F 4
                    have f5 := F 5
                    have f6 := F 6
                    clear F
                    go_wp2
                    refine bodyPost_ret (v := .agg #[.int .i64 0, .int .i64 a, .int .i64 b, .int .i64 c, .int .i64 d, .slice a5 l5 k5, .slice g6 lj j6]) (by simp [results, Tryz.results51, go_sem, c0, c1, c2, c3, c4, c5, c6]) rfl ⟨_, _, rfl, HFn.out.1, HFn.out.2⟩
              · have hkq : k = q := by omega
                subst hkq
                have d1 : decide ((k : Int) < (k : Int)) = false := by simp
                have d1b : ¬ (k : Int) < (k : Int) := by omega
                have HJ := hide (jn_all (ps := ps) (p := p) (ls := ls) (by rw [HQ.out, HME.out]; exact HM.out))
                obtain ⟨rfl, rfl⟩ := HOk.out (by rw [HJ.out, HME.out]; omega)
                (try go_wp2_with fail)
                go_quiet (fail)
                have RX := hide (RF.out.later (below_on HB.out (below_drewN wr nq)))
                have NX := hide (NV.out.later (below_on HB.out (below_drewN wr nq)))
                have HIv := hide ((OF.out.later (below_on HB.out (below_drewN wr nq))).up (Nat.le_refl _) (by have := ((below_on HB.out (below_drewN wr nq))).size; omega))
                have HFn := hide (ret_raft (r := w.heap.size + 1) (x0 := .int .i64 0) (x1 := .int .i64 a) (x2 := .int .i64 b) (x3 := .int .i64 c) (x4 := .int .i64 d) RX.out.below RX.out.ge HIv.out (by omega))
                obtain ⟨n0, n1, n2, n3, n4, n5⟩ := NX.out
                obtain ⟨_, ⟨c0, c1, c2, c3, c4, c5, c6⟩, F, _⟩ := RX.out
                have f0 := F 0
                have f1 := F 1
                have f2 := F 2
                have f3 := F 3
                have f4 := F 4
                have f5 := F 5
                have f6 := F 6
                clear F
                clear HIv
                go_wp2
                refine bodyPost_ret (v := .agg #[.int .i64 0, .int .i64 a, .int .i64 b, .int .i64 c, .int .i64 d, .slice a5 l5 k5, .slice g5 m j5]) (by simp [results, Tryz.results51, go_sem, c0, c1, c2, c3, c4, c5, c6]) rfl ⟨_, _, rfl, HFn.out.1, by simp only [HJ.out]; exact HFn.out.2⟩
          · obtain ⟨rfl, rfl⟩ := HSt.out (by first | trivial | rfl) (by first | trivial | rfl) (by first | trivial | rfl) (by first | trivial | rfl) ht
            have h0b : (TV == t) = false := by simpa using ht
            have h0c : (TV != t) = true := by simp [ht]
            go_wp2_with fail
            refine (l10BadI 10 _).mono ?_
            rintro e wb ⟨rfl, hb⟩
            have RZ := hide (RE.out.later hb)
            clear hb
            have HFn := hide (ret_none (x0 := .int .i64 10) (x1 := .int .i64 0) (x2 := .int .i64 0) (x3 := .int .i64 0) (x4 := .int .i64 0) RZ.out.below RZ.out.ge)
            obtain ⟨_, ⟨c0, c1, c2, c3, c4, c5, c6⟩, F, _⟩ := RZ.out
            have f0 := F 0
            have f1 := F 1
            have f2 := F 2
            have f3 := F 3
            have f4 := F 4
            have f5 := F 5
            have f6 := F 6
            clear F
            go_wp2
            refine bodyPost_ret (v := .agg #[.int .i64 10, .int .i64 0, .int .i64 0, .int .i64 0, .int .i64 0, .slice none 0 0, .slice none 0 0]) (by simp [results, Tryz.results51, go_sem, c0, c1, c2, c3, c4, c5, c6]) rfl ⟨_, _, rfl, HFn.out.1, HFn.out.2⟩
        · obtain ⟨rfl, rfl⟩ := HTmc.out (by first | trivial | rfl) (by first | trivial | rfl) (by first | trivial | rfl) h0
          have h0b : (C == 0) = false := by simpa using h0
          have h0c : (C != 0) = true := by simp [h0]
          clear h0
          go_wp2_with fail
          refine (l10BadI C _).mono ?_
          rintro e wb ⟨rfl, hb⟩
          have RZ := hide (RE.out.later hb)
          clear hb
          have HFn := hide (ret_none (x0 := .int .i64 C) (x1 := .int .i64 0) (x2 := .int .i64 0) (x3 := .int .i64 0) (x4 := .int .i64 0) RZ.out.below RZ.out.ge)
          obtain ⟨_, ⟨c0, c1, c2, c3, c4, c5, c6⟩, F, _⟩ := RZ.out
          have f0 := F 0
          have f1 := F 1
          have f2 := F 2
          have f3 := F 3
          have f4 := F 4
          have f5 := F 5
          have f6 := F 6
          clear F
          go_wp2
          refine bodyPost_ret (v := .agg #[.int .i64 C, .int .i64 0, .int .i64 0, .int .i64 0, .int .i64 0, .slice none 0 0, .slice none 0 0]) (by simp [results, Tryz.results51, go_sem, c0, c1, c2, c3, c4, c5, c6]) rfl ⟨_, _, rfl, HFn.out.1, HFn.out.2⟩
    · obtain ⟨rfl, rfl⟩ := HLog.out (by first | trivial | rfl) h0
      have h0b : (C == 0) = false := by simpa using h0
      have h0c : (C != 0) = true := by simp [h0]
      clear h0
      go_wp2_with fail
      refine (l10BadI C _).mono ?_
      rintro e wb ⟨rfl, hb⟩
      have RZ := hide (RC.out.later hb)
      clear hb
      have HFn := hide (ret_none (x0 := .int .i64 C) (x1 := .int .i64 0) (x2 := .int .i64 0) (x3 := .int .i64 0) (x4 := .int .i64 0) RZ.out.below RZ.out.ge)
      obtain ⟨_, ⟨c0, c1, c2, c3, c4, c5, c6⟩, F, _⟩ := RZ.out
      have f0 := F 0
      have f1 := F 1
      have f2 := F 2
      have f3 := F 3
      have f4 := F 4
      have f5 := F 5
      have f6 := F 6
      clear F
      go_wp2
      refine bodyPost_ret (v := .agg #[.int .i64 C, .int .i64 0, .int .i64 0, .int .i64 0, .int .i64 0, .slice none 0 0, .slice none 0 0]) (by simp [results, Tryz.results51, go_sem, c0, c1, c2, c3, c4, c5, c6]) rfl ⟨_, _, rfl, HFn.out.1, HFn.out.2⟩
  · obtain ⟨rfl, rfl⟩ := HBad.out h0
    have h0b : (C == 0) = false := by simpa using h0
    have h0c : (C != 0) = true := by simp [h0]
    clear h0
    go_wp2_with fail
    refine (l10BadI C _).mono ?_
    rintro e wb ⟨rfl, hb⟩
    have RZ := hide (RB.out.later hb)
    clear hb
    have HFn := hide (ret_none (x0 := .int .i64 C) (x1 := .int .i64 0) (x2 := .int .i64 0) (x3 := .int .i64 0) (x4 := .int .i64 0) RZ.out.below RZ.out.ge)
    obtain ⟨_, ⟨c0, c1, c2, c3, c4, c5, c6⟩, F, _⟩ := RZ.out
    have f0 := F 0
    have f1 := F 1
    have f2 := F 2
    have f3 := F 3
    have f4 := F 4
    have f5 := F 5
    have f6 := F 6
    clear F
    go_wp2
    refine bodyPost_ret (v := .agg #[.int .i64 C, .int .i64 0, .int .i64 0, .int .i64 0, .int .i64 0, .slice none 0 0, .slice none 0 0]) (by simp [results, Tryz.results51, go_sem, c0, c1, c2, c3, c4, c5, c6]) rfl ⟨_, _, rfl, HFn.out.1, HFn.out.2⟩
end Go.Proofs.YtlliggfggadidaaGreatDoor
