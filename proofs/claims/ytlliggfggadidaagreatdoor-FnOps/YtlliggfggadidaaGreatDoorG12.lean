/- Rt3 Iv4 in one text: what each says stands at its head below. -/
import Derived.Test.YtlliggfggadidaaGreatDoorG08
import Derived.Test.YtlliggfggadidaaGreatDoorG02
namespace Go.Proofs.YtlliggfggadidaaGreatDoor
open Go.RowKit
theorem trm_at {r : Rf} {i : Int} (h1 : r.si ≤ i) (h2 : i ≤ lastR r) : (trmL r).getD (i - r.si).toNat 0 = tmV r i := by
  have hc : tmC r i = 0 := by unfold tmC; rw [if_neg (by omega), if_neg (by omega)]
  unfold tmV trmL
  rw [if_pos hc]
  by_cases h : i = r.si
  · rw [if_pos h, h]; simp
  · rw [if_neg h]
    obtain ⟨k, hk⟩ : ∃ k, (i - r.si).toNat = k + 1 := ⟨(i - r.si).toNat - 1, by omega⟩
    have hl : lastR r = r.si + (r.lg.length : Int) := rfl
    have hk2 : (i - r.si - 1).toNat = k := by omega
    have hkl : k < r.lg.length := by omega
    rw [hk, hk2]
    simp [List.getD, hkl]
theorem ta_bad {r : Rf} {i : Int} (h : rfF r ≠ 0) : taC r i = rfF r ∧ taV r i = 0 := by unfold taC taV; rw [if_neg h, if_neg h]; exact ⟨rfl, rfl⟩
theorem ta_ok {r : Rf} {i : Int} (h : rfF r = 0) : taC r i = tmC r i ∧ taV r i = tmV r i := by unfold taC taV; rw [if_pos h, if_pos h]; exact ⟨rfl, rfl⟩
theorem tm_lo {r : Rf} {i : Int} (h : i < r.si) : tmC r i = 6 ∧ tmV r i = 0 := by
  have hc : tmC r i = 6 := by unfold tmC; rw [if_pos h]
  refine ⟨hc, ?_⟩
  unfold tmV; rw [hc]; rfl
theorem tm_hi {r : Rf} {i : Int} (h0 : ¬ i < r.si) (h : lastR r < i) : tmC r i = 4 ∧ tmV r i = 0 := by
  have hc : tmC r i = 4 := by unfold tmC; rw [if_neg h0, if_pos h]
  refine ⟨hc, ?_⟩
  unfold tmV; rw [hc]; rfl
theorem tm_in {r : Rf} {i : Int} (h0 : ¬ i < r.si) (h : ¬ lastR r < i) : tmC r i = 0 := by unfold tmC; rw [if_neg h0, if_neg h]
theorem ret_two3 {w w3 : World} {r : Nat} {x y : Value} (hb : Below w.heap.size w w3) (hr : w.heap.size ≤ r) : Below w.heap.size w ((w3.setCell ⟨r, 0, none⟩ x).setCell ⟨r, 1, none⟩ y) :=
  (hb.setCell (p := ⟨r, 0, none⟩) hr _).setCell (p := ⟨r, 1, none⟩) hr _
set_option maxHeartbeats 4000000 in
set_option maxRecDepth 4000 in
theorem implTermAt {S T : Nat → Prop} {w : World} {y z : Value} (r : Rf) (i : Int) (hg : Gl w) (hy : RdI S w y r.sn) (hz : RdJ T w z r.lg) :
    Calls Tryz.prog 85 #[.agg #[.int .i64 r.tm, .int .i64 r.vt, .int .i64 r.si, .int .i64 r.st, y, z], .int .i64 i] w fun e w' => e = .returned (.agg #[.int .i64 (taC r i), .int .i64 (taV r i)]) ∧ Below w.heap.size w w' := by
  obtain ⟨ay, cy, rfl⟩ := hy.shape
  obtain ⟨az, cz, rfl, _⟩ := hz.shape
  have HG := hide hg
  have HF := hide (fun (w' : World) (hb : Below w.heap.size w w') => implRaftFault r (hy.later hb) (hz.later hb))
  have HT := hide (fun (hm : r.lg.length ≤ 14) (w' : World) (hb : Below w.heap.size w w') => termsOfI r (hy.later hb) (hz.later hb) hm)
  have HI := hide (fun h => rfF_iff (r := r) |>.1 h)
  have HBad := hide (@ta_bad r i)
  have HOk := hide (@ta_ok r i)
  have HLo := hide (@tm_lo r i)
  have HHi := hide (@tm_hi r i)
  have HIn := hide (@tm_in r i)
  have HAt := hide (@trm_at r i)
  have HTl : Hid ((trmL r).length = r.lg.length + 1) := by simp [Hid, trmL]
  have HLast : Hid (lastR r = r.si + (r.lg.length : Int)) := rfl
  obtain ⟨Z, hZ⟩ : ∃ Z, rfF r = Z := ⟨_, rfl⟩
  obtain ⟨C, hC⟩ : ∃ C, taC r i = C := ⟨_, rfl⟩
  obtain ⟨V, hV⟩ : ∃ V, taV r i = V := ⟨_, rfl⟩
  rw [hZ] at HF HI HBad HOk
  rw [hC, hV] at HBad HOk ⊢
  clear hZ hC hV hy hz hg
  generalize r.sn.length = l at *
  obtain ⟨m, hm⟩ : ∃ m, r.lg.length = m := ⟨_, rfl⟩
  rw [hm] at HF HT HTl HLast ⊢
  have HM := hide hm
  clear hm
  have HRs := hide (fun h => (HI.out h).rg.2.1)
  obtain ⟨a, ha⟩ : ∃ a, r.tm = a := ⟨_, rfl⟩
  obtain ⟨b, hb⟩ : ∃ b, r.vt = b := ⟨_, rfl⟩
  obtain ⟨c, hc⟩ : ∃ c, r.si = c := ⟨_, rfl⟩
  obtain ⟨d, hd⟩ : ∃ d, r.st = d := ⟨_, rfl⟩
  rw [ha, hb, hc, hd] at HF HT ⊢
  rw [hc] at HLo HHi HIn HAt HRs HLast
  clear ha hb hc hd
  have BA := hide (below_on (below_alloc w (.cells #[.int .i64 a, .int .i64 b, .int .i64 c, .int .i64 d, .slice ay l cy, .slice az m cz] 27)) (below_alloc _ (.cells #[.int .i64 0, .int .i64 0] 60)))
  have VA := hide ((Var6_new w (.int .i64 a) (.int .i64 b) (.int .i64 c) (.int .i64 d) (.slice ay l cy) (.slice az m cz) 27).later (below_alloc _ (.cells #[.int .i64 0, .int .i64 0] 60)))
  have RA : Hid (((w.alloc (.cells #[.int .i64 a, .int .i64 b, .int .i64 c, .int .i64 d, .slice ay l cy, .slice az m cz] 27)).alloc (.cells #[.int .i64 0, .int .i64 0] 60)).cell? ⟨w.heap.size + 1, 0, none⟩ = some (.int .i64 0) ∧ ((w.alloc (.cells #[.int .i64 a, .int .i64 b, .int .i64 c, .int .i64 d, .slice ay l cy, .slice az m cz] 27)).alloc (.cells #[.int .i64 0, .int .i64 0] 60)).cell? ⟨w.heap.size + 1, 1, none⟩ = some (.int .i64 0) ∧ (∀ o, ((w.alloc (.cells #[.int .i64 a, .int .i64 b, .int .i64 c, .int .i64 d, .slice ay l cy, .slice az m cz] 27)).alloc (.cells #[.int .i64 0, .int .i64 0] 60)).frozen? ⟨w.heap.size + 1, o, none⟩ = false) ∧ w.heap.size + 1 < ((w.alloc (.cells #[.int .i64 a, .int .i64 b, .int .i64 c, .int .i64 d, .slice ay l cy, .slice az m cz] 27)).alloc (.cells #[.int .i64 0, .int .i64 0] 60)).heap.size) := by
    refine ⟨?_, ?_, ?_, ?_⟩
    · simp [go_sem]
    · simp [go_sem]
    · intro o; simp [go_sem]
    · simp
  obtain ⟨W, hW⟩ : ∃ W, (w.alloc (.cells #[.int .i64 a, .int .i64 b, .int .i64 c, .int .i64 d, .slice ay l cy, .slice az m cz] 27)).alloc (.cells #[.int .i64 0, .int .i64 0] 60) = W := ⟨_, rfl⟩
  rw [hW] at BA VA RA
  obtain ⟨v0, v1, v2, v3, v4, v5⟩ := VA.out
  go_enter Tryz.func85, Tryz.ntmps85
  go_wp2_with fail
  clear hW
  refine (HF.out _ BA.out).mono ?_
  rintro e w1 ⟨rfl, hb⟩
  have BB := hide (below_on BA.out hb)
  have VB := hide (VA.out.later hb)
  have RB : Hid (w1.cell? ⟨w.heap.size + 1, 0, none⟩ = some (.int .i64 0) ∧ w1.cell? ⟨w.heap.size + 1, 1, none⟩ = some (.int .i64 0) ∧ (∀ o, w1.frozen? ⟨w.heap.size + 1, o, none⟩ = false) ∧ w.heap.size + 1 < w1.heap.size) :=
    ⟨cell_later hb RA.out.1, cell_later hb RA.out.2.1, fun o => ((bcell hb).2 _ _ RA.out.2.2.2).trans (RA.out.2.2.1 o), Nat.lt_of_lt_of_le RA.out.2.2.2 hb.size⟩
  clear hb v0 v1 v2 v3 v4 v5 VA RA BA
  by_cases h0 : Z = 0
  · subst h0
    obtain ⟨hCe, hVe⟩ := HOk.out (by first | trivial | rfl)
    have HCe := hide hCe
    have HVe := hide hVe
    clear hCe hVe
    have hml : m ≤ 14 := by rw [← HM.out]; exact (logF_iff.1 (HI.out (by first | trivial | rfl)).lo).1
    have HRg := hide (HRs.out (by first | trivial | rfl))
    have HTt := hide (HT.out hml)
    obtain ⟨v0, v1, v2, v3, v4, v5⟩ := VB.out
    go_wp2_with fail
    refine (HTt.out _ BB.out).mono ?_
    rintro e w2 ⟨u, rfl, hb, hu⟩
    have BC := hide (below_on BB.out hb)
    have RC : Hid (w2.cell? ⟨w.heap.size + 1, 0, none⟩ = some (.int .i64 0) ∧ w2.cell? ⟨w.heap.size + 1, 1, none⟩ = some (.int .i64 0) ∧ (∀ o, w2.frozen? ⟨w.heap.size + 1, o, none⟩ = false) ∧ w.heap.size + 1 < w2.heap.size) :=
      ⟨cell_later hb RB.out.1, cell_later hb RB.out.2.1, fun o => ((bcell hb).2 _ _ RB.out.2.2.2).trans (RB.out.2.2.1 o), Nat.lt_of_lt_of_le RB.out.2.2.2 hb.size⟩
    have HU := hide hu
    obtain ⟨au, cu, hue⟩ := hu.shape
    rw [HTl.out] at hue
    subst hue
    clear hb hu v0 v1 v2 v3 v4 v5 VB RB BB
    obtain ⟨⟨pa, hpa⟩, hp2⟩ := HG.out.later BC.out
    have HPa := hide hpa
    clear hpa hp2
    by_cases hlo : i < c
    · have HAt1 := hide (atLoI c i au (m + 1) cu hlo)
      have hCV : (6 : Int) = C ∧ (0 : Int) = V := ⟨by rw [HCe.out]; exact (HLo.out hlo).1.symm, by rw [HVe.out]; exact (HLo.out hlo).2.symm⟩
      obtain ⟨rfl, rfl⟩ := hCV
      clear hlo
      go_wp2_with fail
      refine (HAt1.out _).mono ?_
      rintro e w3 ⟨rfl, hb⟩
      have BD := hide (below_on BC.out hb)
      have RD : Hid (w3.cell? ⟨w.heap.size + 1, 0, none⟩ = some (.int .i64 0) ∧ w3.cell? ⟨w.heap.size + 1, 1, none⟩ = some (.int .i64 0) ∧ (∀ o, w3.frozen? ⟨w.heap.size + 1, o, none⟩ = false) ∧ w.heap.size + 1 < w3.heap.size) :=
        ⟨cell_later hb RC.out.1, cell_later hb RC.out.2.1, fun o => ((bcell hb).2 _ _ RC.out.2.2.2).trans (RC.out.2.2.1 o), Nat.lt_of_lt_of_le RC.out.2.2.2 hb.size⟩
      clear hb
      go_wp2_with fail
      refine (codeOver c _ (HG.out.later BD.out)).mono ?_
      rintro e w4 ⟨rfl, hb⟩
      have BE := hide (below_on BD.out hb)
      have RE : Hid (w4.cell? ⟨w.heap.size + 1, 0, none⟩ = some (.int .i64 0) ∧ w4.cell? ⟨w.heap.size + 1, 1, none⟩ = some (.int .i64 0) ∧ (∀ o, w4.frozen? ⟨w.heap.size + 1, o, none⟩ = false) ∧ w.heap.size + 1 < w4.heap.size) :=
        ⟨cell_later hb RD.out.1, cell_later hb RD.out.2.1, fun o => ((bcell hb).2 _ _ RD.out.2.2.2).trans (RD.out.2.2.1 o), Nat.lt_of_lt_of_le RD.out.2.2.2 hb.size⟩
      clear hb
      obtain ⟨e0, e1, ef, el⟩ := RE.out
      have f0 := ef 0
      have f1 := ef 1
      have HN := hide (ret_two3 (r := w.heap.size + 1) (x := .int .i64 6) (y := .int .i64 0) BE.out (Nat.le_succ _))
      go_wp2
      refine bodyPost_ret (v := .agg #[.int .i64 6, .int .i64 0]) (by simp [results, Tryz.results85, go_sem, e0, e1]) rfl ⟨rfl, HN.out⟩
    · by_cases hhi : c + (m : Int) < i
      · have HAt1 := hide (atHiI c i au (m + 1) cu HRg.out.1 (by have := HRg.out.2; omega) (by omega) (by push_cast; omega) _ pa HPa.out)
        have hCV : (4 : Int) = C ∧ (0 : Int) = V := ⟨by rw [HCe.out]; exact (HHi.out (by omega) (by rw [HLast.out]; omega)).1.symm, by rw [HVe.out]; exact (HHi.out (by omega) (by rw [HLast.out]; omega)).2.symm⟩
        obtain ⟨rfl, rfl⟩ := hCV
        clear hlo hhi
        go_wp2_with fail
        refine HAt1.out.mono ?_
        rintro e w3 ⟨rfl, hb⟩
        have HPb := hide (cell_later hb HPa.out)
        have BD := hide (below_on BC.out hb)
        have RD : Hid (w3.cell? ⟨w.heap.size + 1, 0, none⟩ = some (.int .i64 0) ∧ w3.cell? ⟨w.heap.size + 1, 1, none⟩ = some (.int .i64 0) ∧ (∀ o, w3.frozen? ⟨w.heap.size + 1, o, none⟩ = false) ∧ w.heap.size + 1 < w3.heap.size) :=
          ⟨cell_later hb RC.out.1, cell_later hb RC.out.2.1, fun o => ((bcell hb).2 _ _ RC.out.2.2.2).trans (RC.out.2.2.1 o), Nat.lt_of_lt_of_le RC.out.2.2.2 hb.size⟩
        clear hb
        go_wp2_with fail
        refine (codeYet pa _ (HG.out.later BD.out) HPb.out).mono ?_
        rintro e w4 ⟨rfl, hb⟩
        have BE := hide (below_on BD.out hb)
        have RE : Hid (w4.cell? ⟨w.heap.size + 1, 0, none⟩ = some (.int .i64 0) ∧ w4.cell? ⟨w.heap.size + 1, 1, none⟩ = some (.int .i64 0) ∧ (∀ o, w4.frozen? ⟨w.heap.size + 1, o, none⟩ = false) ∧ w.heap.size + 1 < w4.heap.size) :=
          ⟨cell_later hb RD.out.1, cell_later hb RD.out.2.1, fun o => ((bcell hb).2 _ _ RD.out.2.2.2).trans (RD.out.2.2.1 o), Nat.lt_of_lt_of_le RD.out.2.2.2 hb.size⟩
        clear hb
        obtain ⟨e0, e1, ef, el⟩ := RE.out
        have f0 := ef 0
        have f1 := ef 1
        have HN := hide (ret_two3 (r := w.heap.size + 1) (x := .int .i64 4) (y := .int .i64 0) BE.out (Nat.le_succ _))
        go_wp2
        refine bodyPost_ret (v := .agg #[.int .i64 4, .int .i64 0]) (by simp [results, Tryz.results85, go_sem, e0, e1]) rfl ⟨rfl, HN.out⟩
      · have HAt1 := hide (atInI c i HU.out HRg.out.1 (by have := HRg.out.2; omega) (by rw [HTl.out]; omega) (by omega) (by rw [HTl.out]; push_cast; omega))
        have hCV : (0 : Int) = C := by rw [HCe.out]; exact (HIn.out (by omega) (by rw [HLast.out]; omega)).symm
        subst hCV
        rw [HAt.out (by omega) (by rw [HLast.out]; omega), ← HVe.out] at HAt1
        clear hlo hhi
        go_wp2_with fail
        refine HAt1.out.mono ?_
        rintro e w3 ⟨rfl, hb⟩
        have BD := hide (below_on BC.out hb)
        have RD : Hid (w3.cell? ⟨w.heap.size + 1, 0, none⟩ = some (.int .i64 0) ∧ w3.cell? ⟨w.heap.size + 1, 1, none⟩ = some (.int .i64 0) ∧ (∀ o, w3.frozen? ⟨w.heap.size + 1, o, none⟩ = false) ∧ w.heap.size + 1 < w3.heap.size) :=
          ⟨cell_later hb RC.out.1, cell_later hb RC.out.2.1, fun o => ((bcell hb).2 _ _ RC.out.2.2.2).trans (RC.out.2.2.1 o), Nat.lt_of_lt_of_le RC.out.2.2.2 hb.size⟩
        clear hb
        go_wp2_with fail
        refine (codeNil _ (HG.out.later BD.out)).mono ?_
        rintro e w4 ⟨rfl, hb⟩
        have BE := hide (below_on BD.out hb)
        have RE : Hid (w4.cell? ⟨w.heap.size + 1, 0, none⟩ = some (.int .i64 0) ∧ w4.cell? ⟨w.heap.size + 1, 1, none⟩ = some (.int .i64 0) ∧ (∀ o, w4.frozen? ⟨w.heap.size + 1, o, none⟩ = false) ∧ w.heap.size + 1 < w4.heap.size) :=
          ⟨cell_later hb RD.out.1, cell_later hb RD.out.2.1, fun o => ((bcell hb).2 _ _ RD.out.2.2.2).trans (RD.out.2.2.1 o), Nat.lt_of_lt_of_le RD.out.2.2.2 hb.size⟩
        clear hb
        obtain ⟨e0, e1, ef, el⟩ := RE.out
        have f0 := ef 0
        have f1 := ef 1
        have HN := hide (ret_two3 (r := w.heap.size + 1) (x := .int .i64 0) (y := .int .i64 V) BE.out (Nat.le_succ _))
        go_wp2
        refine bodyPost_ret (v := .agg #[.int .i64 0, .int .i64 V]) (by simp [results, Tryz.results85, go_sem, e0, e1]) rfl ⟨rfl, HN.out⟩
  · obtain ⟨hCe, hVe⟩ := HBad.out h0
    subst hCe
    subst hVe
    have h0b : (C == 0) = false := by simpa using h0
    obtain ⟨e0, e1, ef, el⟩ := RB.out
    have f0 := ef 0
    have f1 := ef 1
    have HN := hide (ret_two3 (r := w.heap.size + 1) (x := .int .i64 C) (y := .int .i64 0) BB.out (Nat.le_succ _))
    go_wp2
    refine bodyPost_ret (v := .agg #[.int .i64 C, .int .i64 0]) (by simp [results, Tryz.results85, go_sem, e0, e1]) rfl ⟨rfl, HN.out⟩
set_option maxHeartbeats 1000000 in
theorem l10LastI {w : World} {bk : Nat} {a b c d : Int} {ay az : Option Addr} {l m cy cz : Nat} (hv : Var6 w bk (.int .i64 a) (.int .i64 b) (.int .i64 c) (.int .i64 d) (.slice ay l cy) (.slice az m cz)) (h0 : 0 ≤ c) (h1 : c ≤ 9999) (h2 : m ≤ 14) :
    Calls Tryz.prog 44 #[.pointer (some ⟨bk, 0, none⟩)] w fun e w' => e = .returned (.int .i64 (c + m)) ∧ ∃ q, w' = w.drewN q := by
  obtain ⟨v0, v1, v2, v3, v4, v5⟩ := hv
  have hw : IntKind.i64.wrap (c + (m : Int)) = c + m := by simp [IntKind.wrap, IntKind.bits, IntKind.signed]; omega
  go_enter Tryz.func44, Tryz.ntmps44
  go_wp2_with fail
  go_quiet (fail)
  go_wp2
  go_ret
  exact ⟨rfl, nq, rfl⟩
set_option maxHeartbeats 4000000 in
set_option maxRecDepth 4000 in
theorem l10TermI {T : Nat → Prop} {w : World} {bk : Nat} {y z : Value} (r : Rf) (i : Int) (hr : IsRf r) (hv : Var6 w bk (.int .i64 r.tm) (.int .i64 r.vt) (.int .i64 r.si) (.int .i64 r.st) y z) (hyl : ∃ ao l c, y = .slice ao l c) (hz : RdJ T w z r.lg) :
    Calls Tryz.prog 50 #[.pointer (some ⟨bk, 0, none⟩), .int .i64 i] w fun e w' => e = .returned (.tuple #[.int .i64 (tmV r i), .int .i64 (tmC r i)]) ∧ ∃ q, w' = w.drewN q := by
  obtain ⟨ay, l, cy, rfl⟩ := hyl
  have HZ := hide hz
  have hml : r.lg.length ≤ 14 := (logF_iff.1 hr.lo).1
  have hsi := hr.rg.2.1
  have HLo := hide (@tm_lo r i)
  have HHi := hide (@tm_hi r i)
  have HIn := hide (@tm_in r i)
  have HAt : Hid (tmC r i = 0 → tmV r i = if i = r.si then r.st else (r.lg.getD (i - r.si - 1).toNat oj0).2.1) := fun h => by unfold tmV; rw [if_pos h]
  have HLast : Hid (lastR r = r.si + (r.lg.length : Int)) := rfl
  obtain ⟨az, cz, rfl, _⟩ := hz.shape
  obtain ⟨C, hC⟩ : ∃ C, tmC r i = C := ⟨_, rfl⟩
  obtain ⟨V, hV⟩ : ∃ V, tmV r i = V := ⟨_, rfl⟩
  rw [hC] at HLo HHi HIn HAt
  rw [hV] at HLo HHi HAt
  rw [hC, hV]
  obtain ⟨m, hm⟩ : ∃ m, r.lg.length = m := ⟨_, rfl⟩
  rw [hm] at hv hml HLast HZ
  have HM := hide hm
  have VA := hide hv
  clear hm hv hz hC hV hr
  obtain ⟨c, hc⟩ : ∃ c, r.si = c := ⟨_, rfl⟩
  rw [hc] at VA HLo HHi HIn HAt HLast hsi
  clear hc
  generalize r.tm = a at *
  generalize r.vt = b at *
  obtain ⟨d, hd⟩ : ∃ d, r.st = d := ⟨_, rfl⟩
  rw [hd] at VA HAt
  clear hd
  have HL := hide (fun (w' : World) (hb : Below w.heap.size w w') => l10LastI (VA.out.later hb) hsi.1 hsi.2 hml)
  obtain ⟨v0, v1, v2, v3, v4, v5⟩ := VA.out
  by_cases hlo : i < c
  · have hCV : (6 : Int) = C ∧ (0 : Int) = V := ⟨(HLo.out hlo).1.symm, (HLo.out hlo).2.symm⟩
    obtain ⟨rfl, rfl⟩ := hCV
    go_enter Tryz.func50, Tryz.ntmps50
    go_wp2
    refine bodyPost_ret (v := .tuple #[.int .i64 0, .int .i64 6]) (by simp [results, Tryz.results50, go_sem]) rfl ⟨rfl, 0, rfl⟩
  · obtain ⟨s, hs⟩ : ∃ s, c + (m : Int) = s := ⟨_, rfl⟩
    rw [hs] at HL HLast
    by_cases hhi : s < i
    · have hCV : (4 : Int) = C ∧ (0 : Int) = V := ⟨(HHi.out hlo (by rw [HLast.out]; exact hhi)).1.symm, (HHi.out hlo (by rw [HLast.out]; exact hhi)).2.symm⟩
      obtain ⟨rfl, rfl⟩ := hCV
      go_enter Tryz.func50, Tryz.ntmps50
      go_wp2_with fail
      refine (HL.out _ (Below.refl _ _)).mono ?_
      rintro e w1 ⟨rfl, q, rfl⟩
      go_wp2
      refine bodyPost_ret (v := .tuple #[.int .i64 0, .int .i64 4]) (by simp [results, Tryz.results50, go_sem]) rfl ⟨rfl, q, rfl⟩
    · have hC0 : (0 : Int) = C := (HIn.out hlo (by rw [HLast.out]; exact hhi)).symm
      subst hC0
      have hVe := HAt.out rfl
      by_cases he : i = c
      · rw [if_pos he] at hVe
        subst hVe
        subst he
        go_enter Tryz.func50, Tryz.ntmps50
        go_wp2_with fail
        refine (HL.out _ (Below.refl _ _)).mono ?_
        rintro e w1 ⟨rfl, q, rfl⟩
        go_wp2
        refine bodyPost_ret (v := .tuple #[.int .i64 V, .int .i64 0]) (by simp [results, Tryz.results50, go_sem]) rfl ⟨rfl, q, rfl⟩
      · rw [if_neg he] at hVe
        obtain ⟨j, hj⟩ : ∃ j, (i - c - 1).toNat = j := ⟨_, rfl⟩
        have hjm : j < m := by omega
        obtain ⟨bb, off, rfl, y0, q0, q1, q2, q3⟩ := HZ.out.file (k := j) (by rw [HM.out]; exact hjm)
        rw [hj] at hVe
        rw [← hVe] at q1
        have hw1 : IntKind.i64.wrap (i - c) = i - c := by simp [IntKind.wrap, IntKind.bits, IntKind.signed]; omega
        have hw2 : IntKind.i64.wrap (i - c - 1) = (j : Int) := by simp [IntKind.wrap, IntKind.bits, IntKind.signed]; omega
        have hj0 : (0 : Int) ≤ (j : Int) := by omega
        have hj1 : (j : Int) < (m : Int) := by omega
        have heb : (i == c) = false := by simpa using he
        have hec : decide (i = c) = false := by simpa using he
        clear q0 q2 q3 hVe hj hjm he hsi hml
        go_enter Tryz.func50, Tryz.ntmps50
        go_wp2_with fail
        refine (HL.out _ (Below.refl _ _)).mono ?_
        rintro e w1 ⟨rfl, q, rfl⟩
        go_wp2_with fail
        go_quiet (fail)
        go_wp2
        refine bodyPost_ret (v := .tuple #[.int .i64 V, .int .i64 0]) (by simp [results, Tryz.results50, go_sem]) rfl ⟨rfl, _, World.drewN_drewN _ _ _⟩
set_option maxHeartbeats 4000000 in
set_option maxRecDepth 4000 in
theorem specTermAt {S T : Nat → Prop} {w : World} {y z : Value} (r : Rf) (i : Int) (hy : RdI S w y r.sn) (hz : RdJ T w z r.lg) :
    Calls Tryz.prog 60 #[.agg #[.int .i64 r.tm, .int .i64 r.vt, .int .i64 r.si, .int .i64 r.st, y, z], .int .i64 i] w fun e w' => e = .returned (.agg #[.int .i64 (taC r i), .int .i64 (taV r i)]) ∧ Below w.heap.size w w' := by
  obtain ⟨ay, cy, rfl⟩ := hy.shape
  obtain ⟨az, cz, rfl, _⟩ := hz.shape
  have BA0 := below_on (below_alloc w (.cells #[.int .i64 r.tm, .int .i64 r.vt, .int .i64 r.si, .int .i64 r.st, .slice ay r.sn.length cy, .slice az r.lg.length cz] 27)) (below_alloc _ (.cells #[.int .i64 0, .int .i64 0] 60))
  have VA0 := (Var6_new w (.int .i64 r.tm) (.int .i64 r.vt) (.int .i64 r.si) (.int .i64 r.st) (.slice ay r.sn.length cy) (.slice az r.lg.length cz) 27).later (below_alloc _ (.cells #[.int .i64 0, .int .i64 0] 60))
  have HF := hide (l10Fault r VA0 (hy.later BA0) (hz.later BA0))
  have HT := hide (fun (w' : World) (hb : Below ((w.alloc (.cells #[.int .i64 r.tm, .int .i64 r.vt, .int .i64 r.si, .int .i64 r.st, .slice ay r.sn.length cy, .slice az r.lg.length cz] 27)).alloc (.cells #[.int .i64 0, .int .i64 0] 60)).heap.size ((w.alloc (.cells #[.int .i64 r.tm, .int .i64 r.vt, .int .i64 r.si, .int .i64 r.st, .slice ay r.sn.length cy, .slice az r.lg.length cz] 27)).alloc (.cells #[.int .i64 0, .int .i64 0] 60)) w') (h : rfF r = 0) => l10TermI r i (rfF_iff.1 h) (VA0.later hb) ⟨_, _, _, rfl⟩ (hz.later (below_on BA0 hb)))
  have BA := hide BA0
  clear BA0 VA0
  have HBad := hide (@ta_bad r i)
  have HOk := hide (@ta_ok r i)
  obtain ⟨Z, hZ⟩ : ∃ Z, rfF r = Z := ⟨_, rfl⟩
  obtain ⟨C, hC⟩ : ∃ C, taC r i = C := ⟨_, rfl⟩
  obtain ⟨V, hV⟩ : ∃ V, taV r i = V := ⟨_, rfl⟩
  obtain ⟨C', hC'⟩ : ∃ C, tmC r i = C := ⟨_, rfl⟩
  obtain ⟨V', hV'⟩ : ∃ V, tmV r i = V := ⟨_, rfl⟩
  rw [hZ] at HF HT HBad HOk
  rw [hC, hV] at HBad HOk ⊢
  rw [hC', hV'] at HOk HT
  clear hZ hC hV hC' hV' hy hz
  generalize r.sn.length = l at *
  generalize r.lg.length = m at *
  generalize r.tm = a at *
  generalize r.vt = b at *
  generalize r.si = c at *
  generalize r.st = d at *
  have RA : Hid (((w.alloc (.cells #[.int .i64 a, .int .i64 b, .int .i64 c, .int .i64 d, .slice ay l cy, .slice az m cz] 27)).alloc (.cells #[.int .i64 0, .int .i64 0] 60)).cell? ⟨w.heap.size + 1, 0, none⟩ = some (.int .i64 0) ∧ ((w.alloc (.cells #[.int .i64 a, .int .i64 b, .int .i64 c, .int .i64 d, .slice ay l cy, .slice az m cz] 27)).alloc (.cells #[.int .i64 0, .int .i64 0] 60)).cell? ⟨w.heap.size + 1, 1, none⟩ = some (.int .i64 0) ∧ (∀ o, ((w.alloc (.cells #[.int .i64 a, .int .i64 b, .int .i64 c, .int .i64 d, .slice ay l cy, .slice az m cz] 27)).alloc (.cells #[.int .i64 0, .int .i64 0] 60)).frozen? ⟨w.heap.size + 1, o, none⟩ = false) ∧ w.heap.size + 1 < ((w.alloc (.cells #[.int .i64 a, .int .i64 b, .int .i64 c, .int .i64 d, .slice ay l cy, .slice az m cz] 27)).alloc (.cells #[.int .i64 0, .int .i64 0] 60)).heap.size) := by
    refine ⟨?_, ?_, ?_, ?_⟩
    · simp [go_sem]
    · simp [go_sem]
    · intro o; simp [go_sem]
    · simp
  obtain ⟨W, hW⟩ : ∃ W, (w.alloc (.cells #[.int .i64 a, .int .i64 b, .int .i64 c, .int .i64 d, .slice ay l cy, .slice az m cz] 27)).alloc (.cells #[.int .i64 0, .int .i64 0] 60) = W := ⟨_, rfl⟩
  rw [hW] at BA RA HF HT
  go_enter Tryz.func60, Tryz.ntmps60
  go_wp2_with fail
  clear hW
  refine HF.out.mono ?_
  rintro e w1 ⟨rfl, hb⟩
  have HB1 := hide hb
  have BB := hide (below_on BA.out hb)
  have RB : Hid (w1.cell? ⟨w.heap.size + 1, 0, none⟩ = some (.int .i64 0) ∧ w1.cell? ⟨w.heap.size + 1, 1, none⟩ = some (.int .i64 0) ∧ (∀ o, w1.frozen? ⟨w.heap.size + 1, o, none⟩ = false) ∧ w.heap.size + 1 < w1.heap.size) :=
    ⟨cell_later hb RA.out.1, cell_later hb RA.out.2.1, fun o => ((bcell hb).2 _ _ RA.out.2.2.2).trans (RA.out.2.2.1 o), Nat.lt_of_lt_of_le RA.out.2.2.2 hb.size⟩
  clear hb
  by_cases h0 : Z = 0
  · subst h0
    obtain ⟨hCe, hVe⟩ := HOk.out (by first | trivial | rfl)
    subst hCe
    subst hVe
    have HTt := hide (HT.out _ HB1.out (by first | trivial | rfl))
    go_wp2_with fail
    refine HTt.out.mono ?_
    rintro e w2 ⟨rfl, q, hw2⟩
    have hb : Below w1.heap.size w1 w2 := by rw [hw2]; exact below_drewN _ _
    clear hw2
    have BE := hide (below_on BB.out hb)
    have RE : Hid (w2.cell? ⟨w.heap.size + 1, 0, none⟩ = some (.int .i64 0) ∧ w2.cell? ⟨w.heap.size + 1, 1, none⟩ = some (.int .i64 0) ∧ (∀ o, w2.frozen? ⟨w.heap.size + 1, o, none⟩ = false) ∧ w.heap.size + 1 < w2.heap.size) :=
      ⟨cell_later hb RB.out.1, cell_later hb RB.out.2.1, fun o => ((bcell hb).2 _ _ RB.out.2.2.2).trans (RB.out.2.2.1 o), Nat.lt_of_lt_of_le RB.out.2.2.2 hb.size⟩
    clear hb
    obtain ⟨e0, e1, ef, el⟩ := RE.out
    have f0 := ef 0
    have f1 := ef 1
    have HN := hide (ret_two3 (r := w.heap.size + 1) (x := .int .i64 C) (y := .int .i64 V) BE.out (Nat.le_succ _))
    go_wp2
    refine bodyPost_ret (v := .agg #[.int .i64 C, .int .i64 V]) (by simp [results, Tryz.results60, go_sem, e0, e1]) rfl ⟨rfl, HN.out⟩
  · obtain ⟨hCe, hVe⟩ := HBad.out h0
    subst hCe
    subst hVe
    have h0b : (C == 0) = false := by simpa using h0
    obtain ⟨e0, e1, ef, el⟩ := RB.out
    have f0 := ef 0
    have f1 := ef 1
    have HN := hide (ret_two3 (r := w.heap.size + 1) (x := .int .i64 C) (y := .int .i64 0) BB.out (Nat.le_succ _))
    go_wp2
    refine bodyPost_ret (v := .agg #[.int .i64 C, .int .i64 0]) (by simp [results, Tryz.results60, go_sem, e0, e1]) rfl ⟨rfl, HN.out⟩
end Go.Proofs.YtlliggfggadidaaGreatDoor
namespace Go.Proofs.YtlliggfggadidaaGreatDoor
open Go.RowKit
theorem IvI.mono {lo hi lo' hi' : Nat} {w : World} {v : Value} {xs : List Int} (h : IvI lo hi w v xs) (h1 : lo' ≤ lo) (h2 : hi ≤ hi') : IvI lo' hi' w v xs := by
  obtain ⟨b, k1, k2⟩ := h
  exact ⟨b, k1, fun hne => ⟨Nat.le_trans h1 (k2 hne).1, Nat.lt_of_lt_of_le (k2 hne).2.1 h2, (k2 hne).2.2⟩⟩
theorem forgetH {P : Program} {md : Region.Mode} {ops : Array Oper} {Q : Exit → Act → World → Prop} {S : World → Prop} {fuel : Nat} {listed : Array Bool} {a : Act} {w0 : World} (R : World → Prop) (h0 : R w0) (h : ∀ w, R w → wpAnyH P md ops Q S fuel listed a w) : wpAnyH P md ops Q S fuel listed a w0 := h _ h0
end Go.Proofs.YtlliggfggadidaaGreatDoor
