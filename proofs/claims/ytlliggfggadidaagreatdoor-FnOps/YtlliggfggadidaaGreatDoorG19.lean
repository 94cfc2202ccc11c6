/- Ap3 Ap3t Ap4 in one text: what each says stands at its head below. -/
import Derived.Test.YtlliggfggadidaaGreatDoorG17
import Derived.Test.YtlliggfggadidaaGreatDoorG18
import Derived.Test.YtlliggfggadidaaGreatDoorG14
import Derived.Test.YtlliggfggadidaaGreatDoorG06
import Derived.Test.YtlliggfggadidaaGreatDoorG03
import Derived.BigQuiet
namespace Go.Proofs.YtlliggfggadidaaGreatDoor
open Go.RowKit
theorem ap_bad {r : Rf} {i t : Int} {l : List Oj} (h : apRF r i t l ≠ 0) : apRC r i t l = apRF r i t l ∧ apRR r i t l = rf0 := by
  have hc : apRC r i t l = apRF r i t l := by
    unfold apRC apRF
    unfold apRF at h
    by_cases h0 : rfF r ≠ 0
    · rw [if_pos h0, if_pos h0]
    · rw [if_neg h0] at h ⊢
      rw [if_neg h0]
      by_cases h1 : logF l ≠ 0
      · rw [if_pos h1, if_pos h1]
      · rw [if_neg h1] at h ⊢
        rw [if_neg h1]
        by_cases h2 : ¬ fitR r i t l
        · rw [if_pos h2, if_pos h2]
        · rw [if_neg h2] at h ⊢
          rw [if_neg h2]
          by_cases h3 : tmC r i ≠ 0
          · rw [if_pos h3, if_pos h3]
          · rw [if_neg h3] at h ⊢
            rw [if_neg h3]
            by_cases h4 : tmV r i ≠ t
            · rw [if_pos h4, if_pos h4]
            · rw [if_neg h4] at h; exact absurd rfl h
  exact ⟨hc, by unfold apRR; rw [if_neg (by rw [hc]; exact h)]⟩
theorem af_zero {r : Rf} {i t : Int} {l : List Oj} (h : apRF r i t l = 0) : rfF r = 0 ∧ logF l = 0 ∧ fitR r i t l ∧ tmC r i = 0 ∧ tmV r i = t := by
  unfold apRF at h
  by_cases h0 : rfF r = 0
  · rw [if_neg (by simp [h0])] at h
    by_cases h1 : logF l = 0
    · rw [if_neg (by simp [h1])] at h
      by_cases h2 : fitR r i t l
      · rw [if_neg (fun k => k h2)] at h
        by_cases h3 : tmC r i = 0
        · rw [if_neg (by simp [h3])] at h
          by_cases h4 : tmV r i = t
          · exact ⟨h0, h1, h2, h3, h4⟩
          · rw [if_pos h4] at h; cases h
        · rw [if_pos h3] at h; exact absurd h h3
      · rw [if_pos h2] at h; cases h
    · rw [if_pos h1] at h; exact absurd h h1
  · rw [if_pos h0] at h; exact absurd h h0
theorem apRC_ok {r : Rf} {i t : Int} {l : List Oj} (h : apRF r i t l = 0) : apRC r i t l = if 14 < (apL r i l).length then 8 else 0 := by
  obtain ⟨h0, h1, h2, h3, h4⟩ := af_zero h
  unfold apRC
  rw [if_neg (by simp [h0]), if_neg (by simp [h1]), if_neg (fun k => k h2), if_neg (by simp [h3]), if_neg (by simp [h4])]
theorem apL_jn (r : Rf) (i : Int) (l : List Oj) : apL r i l = jnL r.lg (i - r.si).toNat l := rfl
theorem ap_full {r : Rf} {i t : Int} {l : List Oj} (h : apRF r i t l = 0) (h1 : 14 < (jnL r.lg (i - r.si).toNat l).length) : apRC r i t l = 8 ∧ apRR r i t l = rf0 := by
  have hc : apRC r i t l = 8 := by rw [apRC_ok h, apL_jn, if_pos h1]
  exact ⟨hc, by unfold apRR; rw [if_neg (by rw [hc]; decide)]⟩
theorem ap_ok {r : Rf} {i t : Int} {l : List Oj} (h : apRF r i t l = 0) (h1 : ¬ 14 < (jnL r.lg (i - r.si).toNat l).length) : apRC r i t l = 0 ∧ apRR r i t l = ⟨r.tm, r.vt, r.si, r.st, r.sn, jnL r.lg (i - r.si).toNat l⟩ := by
  have hc : apRC r i t l = 0 := by rw [apRC_ok h, apL_jn, if_neg h1]
  exact ⟨hc, by unfold apRR; rw [if_pos hc, apL_jn]⟩
theorem ap_know {r : Rf} {i t : Int} {l : List Oj} (h : apRF r i t l = 0) : (0 ≤ r.si ∧ r.si ≤ 9999) ∧ r.sn.length ≤ 40 ∧ r.lg.length ≤ 14 ∧ l.length ≤ 14 ∧ (i - r.si).toNat ≤ r.lg.length ∧ (∀ j, j < l.length → (l.getD j oj0).1 = r.si + 1 + ((i - r.si).toNat : Int) + j) ∧ (jnL r.lg (i - r.si).toNat l).length ≤ 28 ∧ (∀ j, j < (jnL r.lg (i - r.si).toNat l).length → ((jnL r.lg (i - r.si).toNat l).getD j oj0).2.2.length ≤ 1048576) := by
  obtain ⟨h0, h1, h2, h3, _⟩ := af_zero h
  have hi := rfF_iff.1 h0
  obtain ⟨g1, g2, g3⟩ := rf_room h0
  obtain ⟨k1, k2, _⟩ := logF_iff.1 h1
  have hl : lastR r = r.si + (r.lg.length : Int) := rfl
  have hb : r.si ≤ i ∧ i ≤ lastR r := by
    unfold tmC at h3
    by_cases e1 : i < r.si
    · rw [if_pos e1] at h3; cases h3
    · rw [if_neg e1] at h3
      by_cases e2 : lastR r < i
      · rw [if_pos e2] at h3; cases h3
      · omega
  refine ⟨hi.rg.2.1, g1, g2, k1, by omega, fun j hj => ?_, ?_, ?_⟩
  · have e1 := log_at h1 j hj
    have e2 := (h2 (by rintro rfl; simp at hj)).1
    rw [e1]; omega
  · unfold jnL
    split
    · omega
    · simp; omega
  · have hm : ∀ x ∈ jnL r.lg (i - r.si).toNat l, x.2.2.length ≤ 1048576 := by
      have a1 : ∀ x ∈ r.lg, x.2.2.length ≤ 1048576 := fun x hx => by
        obtain ⟨j, hj, e⟩ := List.mem_iff_getElem.1 hx
        have := g3 j hj
        simpa [List.getD, List.getElem?_eq_getElem hj, e] using this
      have a2 : ∀ x ∈ l, x.2.2.length ≤ 1048576 := fun x hx => by
        obtain ⟨j, hj, e⟩ := List.mem_iff_getElem.1 hx
        have := (entF_zero (k2 j hj)).2.1
        simp [List.getD, List.getElem?_eq_getElem hj, e] at this
        omega
      intro x hx
      unfold jnL at hx
      split at hx
      · exact a1 x hx
      · rcases List.mem_append.1 hx with hx | hx
        · exact a1 x (List.mem_of_mem_take hx)
        · exact a2 x (List.mem_of_mem_drop hx)
    intro j hj
    have : (jnL r.lg (i - r.si).toNat l).getD j oj0 = (jnL r.lg (i - r.si).toNat l)[j] := by simp [List.getD, List.getElem?_eq_getElem hj]
    rw [this]
    exact hm _ (List.getElem_mem hj)
set_option linter.unusedSimpArgs false in
set_option maxHeartbeats 4000000 in
set_option maxRecDepth 4000 in
theorem implAppendRaft {S T U : Nat → Prop} {w : World} {y z v : Value} {ls : List Oj} (r : Rf) (i t : Int) (hg : Gl w) (hy : RdI S w y r.sn) (hz : RdJ T w z r.lg) (hcp : capE z) (hv : RdJ U w v ls) (hcv : capE v) :
    Calls Tryz.prog 79 #[.agg #[.int .i64 r.tm, .int .i64 r.vt, .int .i64 r.si, .int .i64 r.st, y, z], .int .i64 i, .int .i64 t, v] w (EndsRf (apRC r i t ls) (apRR r i t ls) w) := by
  obtain ⟨ay, cy, rfl⟩ := hy.shape
  obtain ⟨az, cz, rfl, _⟩ := hz.shape
  obtain ⟨av, cv, rfl, _⟩ := hv.shape
  have hcz : r.lg.length ≤ cz := hcp
  clear hcp
  have BA0 := below_on (below_alloc w (.cells #[.int .i64 r.tm, .int .i64 r.vt, .int .i64 r.si, .int .i64 r.st, .slice ay r.sn.length cy, .slice az r.lg.length cz] 27)) (below_alloc _ (.cells #[.int .i64 0, .int .i64 0, .int .i64 0, .int .i64 0, .int .i64 0, .slice none 0 0, .slice none 0 0] 79))
  have VA0 := (Var6_new w (.int .i64 r.tm) (.int .i64 r.vt) (.int .i64 r.si) (.int .i64 r.st) (.slice ay r.sn.length cy) (.slice az r.lg.length cz) 27).later (below_alloc _ (.cells #[.int .i64 0, .int .i64 0, .int .i64 0, .int .i64 0, .int .i64 0, .slice none 0 0, .slice none 0 0] 79))
  have RA := hide (Res7.start w (.cells #[.int .i64 r.tm, .int .i64 r.vt, .int .i64 r.si, .int .i64 r.st, .slice ay r.sn.length cy, .slice az r.lg.length cz] 27) 79)
  have HF := hide (appendFaultI r i t (hg.later BA0) (hy.later BA0) (hz.later BA0) (hv.later BA0))
  have BA := hide BA0
  have VA := hide VA0
  clear BA0 VA0
  have HJn := hide (fun (h : apRF r i t ls = 0) (w' : World) (hb : Below w.heap.size w w') => joinedI (Mm := w.heap.size) (r.si + 1) (i - r.si).toNat (hg.later hb) hb.size ((RdJ_old hz).later hb) rfl hcz ((RdJ_old hv).later hb) hcv (by have := (ap_know h).1; omega) (by have := (ap_know h).1; omega) (ap_know h).2.2.1 (ap_know h).2.2.2.1 (ap_know h).2.2.2.2.1 (ap_know h).2.2.2.2.2.1)
  have HCp := hide (fun (h : apRF r i t ls = 0) (w' : World) (hb : Below w.heap.size w w') (u : Value) (Q : Nat → Prop) (hu : RdJ Q w' u (jnL r.lg (i - r.si).toNat ls)) => copyRaftI r.tm r.vt r.si r.st (hy.later hb) hu (Nat.le_trans (ap_know h).2.1 (by decide)) (Nat.le_trans (ap_know h).2.2.2.2.2.2.1 (by decide)) (ap_know h).2.2.2.2.2.2.2)
  have HRs := hide (fun h : apRF r i t ls = 0 => (ap_know h).1)
  have HJl := hide (fun h : apRF r i t ls = 0 => (ap_know h).2.2.2.2.2.2.1)
  have HBad := hide (@ap_bad r i t ls)
  have HFull := hide (@ap_full r i t ls)
  have HOk := hide (@ap_ok r i t ls)
  obtain ⟨C, hC⟩ : ∃ C, apRC r i t ls = C := ⟨_, rfl⟩
  obtain ⟨R, hR⟩ : ∃ R, apRR r i t ls = R := ⟨_, rfl⟩
  rw [hC, hR] at HBad HFull HOk ⊢
  obtain ⟨Z, hZ⟩ : ∃ Z, apRF r i t ls = Z := ⟨_, rfl⟩
  rw [hZ] at HF HJn HCp HRs HJl HBad HFull HOk
  obtain ⟨J, hJ⟩ : ∃ x, jnL r.lg (i - r.si).toNat ls = x := ⟨_, rfl⟩
  simp only [hJ] at HJn HCp HJl HFull HOk
  clear hC hR hZ hJ hy hz hv hg hcv
  obtain ⟨lx, hlx⟩ : ∃ x, r.sn.length = x := ⟨_, rfl⟩
  have HLx := hide hlx
  rw [hlx] at HF HCp BA VA RA ⊢
  clear hlx
  obtain ⟨m, hme⟩ : ∃ m, r.lg.length = m := ⟨_, rfl⟩
  rw [hme] at HF HJn BA VA RA hcz ⊢
  clear hme
  generalize ls.length = q at *
  generalize r.tm = a at *
  generalize r.vt = b at *
  generalize r.si = c at *
  generalize r.st = d at *
  obtain ⟨W, hW⟩ : ∃ W, ((w.alloc (.cells #[.int .i64 a, .int .i64 b, .int .i64 c, .int .i64 d, .slice ay lx cy, .slice az m cz] 27)).alloc (.cells #[.int .i64 0, .int .i64 0, .int .i64 0, .int .i64 0, .int .i64 0, .slice none 0 0, .slice none 0 0] 79)) = W := ⟨_, rfl⟩
  rw [hW] at BA VA RA HF
  obtain ⟨v0, v1, v2, v3, v4, v5⟩ := VA.out
  go_enter Tryz.func79, Tryz.ntmps79
  go_wp2_with fail
  clear hW
  refine HF.out.mono ?_
  rintro e w1 ⟨rfl, hb⟩
  have BB := hide (below_on BA.out hb)
  have VB := hide (VA.out.later hb)
  have RB := hide (RA.out.later hb)
  clear hb v0 v1 v2 v3 v4 v5 VA RA BA
  by_cases h0 : Z = 0
  · subst h0
    have hrs := HRs.out (by first | trivial | rfl)
    have hjl := HJl.out (by first | trivial | rfl)
    have HJm := hide (HJn.out (by first | trivial | rfl))
    have HCq := hide (HCp.out (by first | trivial | rfl))
    clear HJn HCp
    have HLog := hide (logOfE a b c d ay az lx cy m cz hrs.1 hrs.2)
    have hbn := below_alloc w1 (.cells #[.int .i64 a, .int .i64 b, .int .i64 c, .int .i64 d, .slice ay lx cy, .slice az m cz] 27)
    have BC := hide (below_on BB.out hbn)
    have VC := hide (VB.out.later hbn)
    have RC := hide (RB.out.later hbn)
    have NC := hide (Var6_new w1 (.int .i64 a) (.int .i64 b) (.int .i64 c) (.int .i64 d) (.slice ay lx cy) (.slice az m cz) 27)
    have FC : Hid (∀ o, (w1.alloc (.cells #[.int .i64 a, .int .i64 b, .int .i64 c, .int .i64 d, .slice ay lx cy, .slice az m cz] 27)).frozen? ⟨w1.heap.size, o, none⟩ = false) := fun o => by simp [go_sem]
    obtain ⟨W1, hW1⟩ : ∃ x, w1.alloc (.cells #[.int .i64 a, .int .i64 b, .int .i64 c, .int .i64 d, .slice ay lx cy, .slice az m cz] 27) = x := ⟨_, rfl⟩
    rw [hW1] at BC VC RC NC FC
    have hs1 : W1.heap.size = w1.heap.size + 1 := by rw [← hW1]; simp
    have hr1 : w.heap.size + 1 < w1.heap.size := RB.out.lt
    obtain ⟨v0, v1, v2, v3, v4, v5⟩ := VB.out
    have vb := VC.out
    obtain ⟨x0, x1, x2, x3, x4, x5⟩ := vb
    go_wp2_with fail
    (try rw [hW1])
    clear hW1
    refine (HLog.out _).mono ?_
    rintro e w2 ⟨rfl, hb⟩
    have BD := hide (below_on BC.out hb)
    have VD := hide (VC.out.later hb)
    have RD := hide (RC.out.later hb)
    have ND := hide (NC.out.later hb)
    have FD : Hid (∀ o, w2.frozen? ⟨w1.heap.size, o, none⟩ = false) := fun o => ((bcell hb).2 _ _ NC.out.lt).trans (FC.out o)
    have hz2 := hb.size
    clear hb v0 v1 v2 v3 v4 v5 x0 x1 x2 x3 x4 x5 VB RB BB VC RC NC FC BC
    go_wp2_with fail
    refine (HJm.out _ BD.out).mono ?_
    rintro e w3 ⟨u, rfl, hb, hu⟩
    have HU := hide hu
    obtain ⟨au, cu, hue, _⟩ := hu.shape
    obtain ⟨jl, hjle⟩ : ∃ x, J.length = x := ⟨_, rfl⟩
    have HJe := hide hjle
    rw [hjle] at hue HFull HOk hjl
    subst hue
    have BE := hide (below_on BD.out hb)
    have RE := hide (RD.out.later hb)
    have NE := hide (ND.out.later hb)
    have FE : Hid (∀ o, w3.frozen? ⟨w1.heap.size, o, none⟩ = false) := fun o => ((bcell hb).2 _ _ ND.out.lt).trans (FD.out o)
    have hz3 := hb.size
    clear hb hu hjle VD RD ND FD BD
    obtain ⟨n0, n1, n2, n3, n4, n5⟩ := NE.out
    have q5 := FE.out 5
    have hwx : Wr (fun x => x = w1.heap.size) w3 _ := Wr.setCell (p := ⟨w1.heap.size, 5, none⟩) (Wr.refl (fun x => x = w1.heap.size) _) rfl (.slice au jl cu)
    have RX := hide (RE.out.wr hwx (by omega) (fun b hb => by omega))
    by_cases hjf : 14 < jl
    · obtain ⟨rfl, rfl⟩ := HFull.out (by first | trivial | rfl) hjf
      have hjf2 : (14 : Int) < (jl : Int) := by omega
      have HFn := hide (ret_none (x0 := .int .i64 8) (x1 := .int .i64 0) (x2 := .int .i64 0) (x3 := .int .i64 0) (x4 := .int .i64 0) RX.out.below RX.out.ge)
      obtain ⟨_, ⟨c0, c1, c2, c3, c4, c5, c6⟩, F, _⟩ := RX.out
      have f0 := F 0
      have f1 := F 1
      have f2 := F 2
      have f3 := F 3
      have f4 := F 4
      have f5 := F 5
      have f6 := F 6
      clear F
      go_wp2
      refine bodyPost_ret (v := .agg #[.int .i64 8, .int .i64 0, .int .i64 0, .int .i64 0, .int .i64 0, .slice none 0 0, .slice none 0 0]) (by simp [results, Tryz.results79, go_sem, c0, c1, c2, c3, c4, c5, c6]) rfl ⟨_, _, rfl, HFn.out.1, HFn.out.2⟩
    · obtain ⟨rfl, rfl⟩ := HOk.out (by first | trivial | rfl) hjf
      have hjf2 : ¬ (14 : Int) < (jl : Int) := by omega
      have HUx := hide (HU.out.wr hwx (fun b hb e => by rcases hb with hb | hb <;> omega))
      have HCr := hide (HCq.out _ RX.out.below _ _ HUx.out)
      have hsx : (w3.setCell ⟨w1.heap.size, 5, none⟩ (.slice au jl cu)).heap.size = w3.heap.size := by simp
      go_wp2_with fail
      refine HCr.out.mono ?_
      rintro e w5 ⟨y5, z5, rfl, hb, ho⟩
      have R5 := hide (RX.out.later hb)
      have hz5 := hb.size
      obtain ⟨a6, k6, b6, j6, hy6, hz6⟩ := ho.shape
      rw [HLx.out] at hy6
      rw [HJe.out] at hz6
      subst hy6
      subst hz6
      have HFn := hide (ret_raft (r := w.heap.size + 1) (x0 := .int .i64 0) (x1 := .int .i64 a) (x2 := .int .i64 b) (x3 := .int .i64 c) (x4 := .int .i64 d) R5.out.below R5.out.ge ho (by omega))
      clear hb ho HCr n0 n1 n2 n3 n4 n5 q5
      obtain ⟨_, ⟨c0, c1, c2, c3, c4, c5, c6⟩, F, _⟩ := R5.out
      have f0 := F 0
      have f1 := F 1
      have f2 := F 2
      have f3 := F 3
      have f4 := F 4
      have f5 := F 5
      have f6 := F 6
      clear F
      go_wp2
      refine bodyPost_ret (v := .agg #[.int .i64 0, .int .i64 a, .int .i64 b, .int .i64 c, .int .i64 d, .slice a6 lx k6, .slice b6 jl j6]) (by simp [results, Tryz.results79, go_sem, c0, c1, c2, c3, c4, c5, c6]) rfl ⟨_, _, rfl, HFn.out.1, HFn.out.2⟩
  · obtain ⟨rfl, rfl⟩ := HBad.out h0
    have h0b : (C == 0) = false := by simpa using h0
    have h0c : (C != 0) = true := by simp [h0]
    clear h0
    have HFn := hide (ret_none (x0 := .int .i64 C) (x1 := .int .i64 0) (x2 := .int .i64 0) (x3 := .int .i64 0) (x4 := .int .i64 0) RB.out.below RB.out.ge)
    obtain ⟨_, ⟨c0, c1, c2, c3, c4, c5, c6⟩, F, _⟩ := RB.out
    have f0 := F 0
    have f1 := F 1
    have f2 := F 2
    have f3 := F 3
    have f4 := F 4
    have f5 := F 5
    have f6 := F 6
    clear F
    go_wp2
    refine bodyPost_ret (v := .agg #[.int .i64 C, .int .i64 0, .int .i64 0, .int .i64 0, .int .i64 0, .slice none 0 0, .slice none 0 0]) (by simp [results, Tryz.results79, go_sem, c0, c1, c2, c3, c4, c5, c6]) rfl ⟨_, _, rfl, HFn.out.1, HFn.out.2⟩
end Go.Proofs.YtlliggfggadidaaGreatDoor
namespace Go.Proofs.YtlliggfggadidaaGreatDoor
open Go.RowKit
theorem sum_le : ∀ (l : List Oj), (∀ x ∈ l, x.2.2.length ≤ 6) → (l.map fun p => p.2.2.length + 2).sum ≤ l.length * 8
  | [], _ => by simp
  | x :: l, h => by
    have h1 := sum_le l (fun y hy => h y (List.mem_cons_of_mem _ hy))
    have h2 := h x (List.mem_cons_self ..)
    simp only [List.map_cons, List.sum_cons, List.length_cons]
    omega
theorem six {l : List Oj} (h : logF l = 0) : ∀ x ∈ l, x.2.2.length ≤ 6 := fun x hx => by
  obtain ⟨j, hj, e⟩ := List.mem_iff_getElem.1 hx
  have h2 := (entF_zero ((logF_iff.1 h).2.1 j hj)).2.1
  have e2 : l.getD j oj0 = x := by simp [List.getD, List.getElem?_eq_getElem hj, e]
  rw [e2] at h2
  exact h2
theorem apRR_tot (r : Rf) (i t : Int) (l : List Oj) : totR (apRR r i t l) ≤ 1048576 := by
  by_cases h : apRC r i t l = 0
  · have h0 : apRF r i t l = 0 := by
      by_cases hz : apRF r i t l = 0
      · exact hz
      · exact absurd ((ap_bad hz).1.symm.trans h) hz
    obtain ⟨k1, k2, k3, k4, k5, k6, k7, _⟩ := ap_know h0
    obtain ⟨g0, g1, _⟩ := af_zero h0
    have hl : apRR r i t l = { r with lg := apL r i l } := by unfold apRR; rw [if_pos h]
    have hm : ∀ x ∈ jnL r.lg (i - r.si).toNat l, x.2.2.length ≤ 6 := by
      intro x hx
      unfold jnL at hx
      split at hx
      · exact six (rfF_iff.1 g0).lo x hx
      · rcases List.mem_append.1 hx with hx | hx
        · exact six (rfF_iff.1 g0).lo x (List.mem_of_mem_take hx)
        · exact six g1 x (List.mem_of_mem_drop hx)
    have hs := sum_le _ hm
    rw [hl]
    unfold totR
    dsimp only
    rw [apL_jn]
    unfold totJ
    rw [List.take_length]
    omega
  · have e : apRR r i t l = rf0 := by unfold apRR; rw [if_neg h]
    rw [e, totR_zero]; decide
end Go.Proofs.YtlliggfggadidaaGreatDoor
namespace Go.Proofs.YtlliggfggadidaaGreatDoor
open Go.RowKit
set_option maxHeartbeats 8000000 in
set_option maxRecDepth 4000 in
theorem l10FitsI {S : Nat → Prop} {w : World} {bk : Nat} {v x1 x2 x3 x4 x5 : Value} {fs : List Oj} (i t m : Int) (h6 : Var6 w bk (.int .i64 m) x1 x2 x3 x4 x5) (hv : RdJ S w v fs) (h0 : fs ≠ [] → 1 ≤ (fs.getD 0 oj0).1 ∧ (fs.getD 0 oj0).1 ≤ 9999) :
    Calls Tryz.prog 75 #[.pointer (some ⟨bk, 0, none⟩), .int .i64 i, .int .i64 t, v] w fun e w' => e = .returned (.bool (decide (gon fs i t m))) ∧ ∃ q, w' = w.drewN q := by
  obtain ⟨av, cv, rfl, hm⟩ := hv.shape
  have v0 := h6.1
  clear h6
  by_cases hne : fs = []
  · subst hne
    rw [decide_eq_true (show gon [] i t m from fun h => absurd rfl h)]
    go_enter Tryz.func75, Tryz.ntmps75
    go_wp2
    go_ret
    exact ⟨rfl, 0, rfl⟩
  · have hpos : 0 < fs.length := List.length_pos_iff.2 hne
    obtain ⟨b, off, rfl, y, p0, p1, p2, p3⟩ := hv.file (k := 0) hpos
    obtain ⟨b', off', e', y', r0, r1, r2, r3⟩ := hv.file (k := fs.length - 1) (by omega)
    injection e' with e'
    injection e' with e1 e2
    subst e1 e2
    have hh := h0 hne
    have HG : Hid (gon fs i t m ↔ (fs.getD 0 oj0).1 - 1 = i ∧ t ≤ (fs.getD 0 oj0).2.1 ∧ (fs.getD (fs.length - 1) oj0).2.1 ≤ m) := ⟨fun h => h hne, fun h _ => h⟩
    obtain ⟨n, hn⟩ : ∃ n, fs.length = n := ⟨_, rfl⟩
    rw [hn] at r0 r1 r2 r3 hm hpos HG ⊢
    obtain ⟨x, hx⟩ : ∃ x, fs.getD 0 oj0 = x := ⟨_, rfl⟩
    obtain ⟨x', hx'⟩ : ∃ x', fs.getD (n - 1) oj0 = x' := ⟨_, rfl⟩
    rw [hx] at p0 p1 p3 hh HG
    rw [hx'] at r0 r1 r3 HG
    obtain ⟨a0, t0, xs0⟩ := x
    obtain ⟨a1, t1, xs1⟩ := x'
    dsimp only at p0 p1 p3 r0 r1 r3 hh HG
    have g3 := p3.shape
    have g4 := r3.shape
    obtain ⟨ay, cy, rfl⟩ := g3
    obtain ⟨ay', cy', rfl⟩ := g4
    generalize xs0.length = l0 at p2
    generalize xs1.length = l1 at r2
    simp only [Nat.zero_mul, Nat.add_zero] at p0 p1 p2
    clear p3 r3 hv hne h0 hn hx hx'
    have hbl := World.block_lt_of_cell? _ _ p0
    have hn0 : ((n : Int) == 0) = false := by simp; omega
    have hw1 : IntKind.i64.wrap ((n : Int) - 1) = ((n - 1 : Nat) : Int) := by simp [IntKind.wrap, IntKind.bits, IntKind.signed]; omega
    obtain ⟨j, hj⟩ : ∃ j, n - 1 = j := ⟨_, rfl⟩
    rw [hj] at r0 r1 r2 hw1
    have hjn : (j : Int) < (n : Int) := by omega
    have hj0 : (0 : Int) ≤ (j : Int) := by omega
    have hn1 : (0 : Int) < (n : Int) := by omega
    clear hj
    have ha1 : IntKind.i64.wrap (a0 - 1) = a0 - 1 := by simp [IntKind.wrap, IntKind.bits, IntKind.signed]; omega
    obtain ⟨B, hB⟩ : ∃ B, decide (gon fs i t m) = B := ⟨_, rfl⟩
    have HB := hide hB
    rw [hB]
    clear hB
    have hz0 : off + 0 = off := rfl
    clear r0 r2 p2
    by_cases c1 : a0 - 1 = i
    · have c1b : (a0 - 1 == i) = true := by simpa using c1
      have c1d : decide (a0 - 1 = i) = true := decide_eq_true c1
      by_cases c2 : t ≤ t0
      · have c2d : decide (t ≤ t0) = true := decide_eq_true c2
        by_cases c3 : t1 ≤ m
        · have c3d : decide (t1 ≤ m) = true := decide_eq_true c3
          obtain rfl : true = B := by rw [← HB.out]; exact (decide_eq_true (HG.out.2 ⟨c1, c2, c3⟩)).symm
          clear c1 c2 c3
          go_enter Tryz.func75, Tryz.ntmps75
          go_wp2_with fail
          go_quiet (fail)
          go_wp2
          go_ret
          exact ⟨rfl, _, rfl⟩
        · have c3d : decide (t1 ≤ m) = false := decide_eq_false c3
          obtain rfl : false = B := by rw [← HB.out]; exact (decide_eq_false (fun h => c3 (HG.out.1 h).2.2)).symm
          clear c1 c2 c3
          go_enter Tryz.func75, Tryz.ntmps75
          go_wp2_with fail
          go_quiet (fail)
          go_wp2
          go_ret
          exact ⟨rfl, _, rfl⟩
      · have c2d : decide (t ≤ t0) = false := decide_eq_false c2
        obtain rfl : false = B := by rw [← HB.out]; exact (decide_eq_false (fun h => c2 (HG.out.1 h).2.1)).symm
        clear c1 c2
        go_enter Tryz.func75, Tryz.ntmps75
        go_wp2_with fail
        go_quiet (fail)
        go_wp2
        go_ret
        exact ⟨rfl, _, rfl⟩
    · have c1b : (a0 - 1 == i) = false := by simpa using c1
      have c1d : decide (a0 - 1 = i) = false := decide_eq_false c1
      obtain rfl : false = B := by rw [← HB.out]; exact (decide_eq_false (fun h => c1 (HG.out.1 h).1)).symm
      clear c1
      go_enter Tryz.func75, Tryz.ntmps75
      go_wp2_with fail
      go_quiet (fail)
      go_wp2
      go_ret
      exact ⟨rfl, _, rfl⟩
end Go.Proofs.YtlliggfggadidaaGreatDoor
