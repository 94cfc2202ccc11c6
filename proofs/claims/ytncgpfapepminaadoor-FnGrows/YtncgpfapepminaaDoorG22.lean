/- Ef2 in one text: what each says stands at its head below. -/
import Derived.Test.YtncgpfapepminaaDoorG19
import Derived.Test.YtncgpfapepminaaDoorG18
/- Chapter 10: 'EntriesFrom' of the program, walked. Made by program (genef.py). -/
namespace Go.Proofs.YtncgpfapepminaaDoor
open Go.RowKit

theorem ef_bad {r : Rf} {i n : Int} (h : rfF r ≠ 0) : efC r i n = rfF r ∧ efR r i n = [] := by
  have hc : efC r i n = rfF r := by unfold efC; rw [if_neg h]
  exact ⟨hc, by unfold efR; rw [if_neg (by rw [hc]; exact h)]⟩
theorem ef_rng {r : Rf} {i n : Int} (h : rfF r = 0) (h1 : ¬ (0 ≤ n ∧ n ≤ 14)) : efC r i n = 3 ∧ efR r i n = [] := by
  have hc : efC r i n = 3 := by unfold efC; rw [if_pos h, if_neg h1]
  exact ⟨hc, by unfold efR; rw [if_neg (by rw [hc]; decide)]⟩
theorem ef_lo {r : Rf} {i n : Int} (h : rfF r = 0) (h1 : 0 ≤ n ∧ n ≤ 14) (h2 : i ≤ r.si) : efC r i n = 6 ∧ efR r i n = [] := by
  have hc : efC r i n = 6 := by unfold efC; rw [if_pos h, if_pos h1, if_pos h2]
  exact ⟨hc, by unfold efR; rw [if_neg (by rw [hc]; decide)]⟩
theorem ef_hi {r : Rf} {i n : Int} (h : rfF r = 0) (h1 : 0 ≤ n ∧ n ≤ 14) (h2 : r.si + (r.lg.length : Int) + 1 < i) : efC r i n = 4 ∧ efR r i n = [] := by
  have hc : efC r i n = 4 := by unfold efC; rw [if_pos h, if_pos h1, if_neg (by omega), if_pos (show lastR r + 1 < i from h2)]
  exact ⟨hc, by unfold efR; rw [if_neg (by rw [hc]; decide)]⟩
theorem ef_ok {r : Rf} {i n : Int} (k q : Nat) (h : rfF r = 0) (h1 : 0 ≤ n ∧ n ≤ 14) (h2 : i - (r.si + 1) = (k : Int)) (h3 : k ≤ r.lg.length) (h4 : (q : Int) = n ∨ (q = r.lg.length - k ∧ (q : Int) ≤ n)) : efC r i n = 0 ∧ efR r i n = (r.lg.drop k).take q := by
  have hl : lastR r = r.si + (r.lg.length : Int) := rfl
  have hc : efC r i n = 0 := by unfold efC; rw [if_pos h, if_pos h1, if_neg (by omega), if_neg (by omega)]
  refine ⟨hc, ?_⟩
  have e : (i - r.si - 1).toNat = k := by omega
  unfold efR
  rw [if_pos hc, e]
  rcases h4 with h4 | ⟨h4, h5⟩
  · rw [← h4]; simp
  · rw [List.take_of_length_le (by simp; omega), List.take_of_length_le (by simp; omega)]

set_option maxHeartbeats 4000000 in
set_option maxRecDepth 4000 in
theorem implEntriesFrom {S T : Nat → Prop} {w : World} {y z : Value} (r : Rf) (i n : Int) (hg : Gl w) (hy : RdI S w y r.sn) (hz : RdJ T w z r.lg) (hcp : capE z) :
    Calls Tryd.prog 21 #[.agg #[.int .i64 r.tm, .int .i64 r.vt, .int .i64 r.si, .int .i64 r.st, y, z], .int .i64 i, .int .i64 n] w (EndsEn (efC r i n) (efR r i n) w) := by
  obtain ⟨ay, cy, rfl⟩ := hy.shape
  obtain ⟨az, cz, rfl, _⟩ := hz.shape
  have hcz : r.lg.length ≤ cz := hcp
  clear hcp
  have HG := hide hg
  have BA0 := below_on (below_alloc w (.cells #[.int .i64 r.tm, .int .i64 r.vt, .int .i64 r.si, .int .i64 r.st, .slice ay r.sn.length cy, .slice az r.lg.length cz] 27)) (below_alloc _ (.cells #[.int .i64 0, .slice none 0 0] 48))
  have VA0 := (Var6_new w (.int .i64 r.tm) (.int .i64 r.vt) (.int .i64 r.si) (.int .i64 r.st) (.slice ay r.sn.length cy) (.slice az r.lg.length cz) 27).later (below_alloc _ (.cells #[.int .i64 0, .slice none 0 0] 48))
  have HF := hide (implRaftFault r (hy.later BA0) (hz.later BA0))
  have BA := hide BA0
  have VA := hide VA0
  clear BA0 VA0
  have HZ := hide hz
  have HRm := hide (@rf_room r)
  have HRs := hide (fun h : rfF r = 0 => (rfF_iff.1 h).rg.2.1)
  have HBad := hide (@ef_bad r i n)
  have HRng := hide (@ef_rng r i n)
  have HLo := hide (@ef_lo r i n)
  have HHi := hide (@ef_hi r i n)
  have HOk := hide (@ef_ok r i n)
  obtain ⟨C, hC⟩ : ∃ C, efC r i n = C := ⟨_, rfl⟩
  obtain ⟨R, hR⟩ : ∃ R, efR r i n = R := ⟨_, rfl⟩
  rw [hC, hR] at HBad HRng HLo HHi HOk ⊢
  clear hC hR
  obtain ⟨Z, hZ⟩ : ∃ Z, rfF r = Z := ⟨_, rfl⟩
  rw [hZ] at HF HRm HRs HBad HRng HLo HHi HOk
  clear hZ hy hz hg
  obtain ⟨ps, hps⟩ : ∃ ps, r.lg = ps := ⟨_, rfl⟩
  rw [hps] at HF HZ HRm HHi HOk BA VA hcz ⊢
  clear hps
  obtain ⟨m, hme⟩ : ∃ m, ps.length = m := ⟨_, rfl⟩
  have HME := hide hme
  rw [hme] at HF HZ HRm HHi HOk BA VA hcz ⊢
  clear hme
  generalize r.sn.length = l at *
  generalize r.tm = a at *
  generalize r.vt = b at *
  generalize r.si = c at *
  generalize r.st = d at *
  have RA : Hid (((w.alloc (.cells #[.int .i64 a, .int .i64 b, .int .i64 c, .int .i64 d, .slice ay l cy, .slice az m cz] 27)).alloc (.cells #[.int .i64 0, .slice none 0 0] 48)).cell? ⟨w.heap.size + 1, 0, none⟩ = some (.int .i64 0) ∧ ((w.alloc (.cells #[.int .i64 a, .int .i64 b, .int .i64 c, .int .i64 d, .slice ay l cy, .slice az m cz] 27)).alloc (.cells #[.int .i64 0, .slice none 0 0] 48)).cell? ⟨w.heap.size + 1, 1, none⟩ = some (.slice none 0 0) ∧ (∀ o, ((w.alloc (.cells #[.int .i64 a, .int .i64 b, .int .i64 c, .int .i64 d, .slice ay l cy, .slice az m cz] 27)).alloc (.cells #[.int .i64 0, .slice none 0 0] 48)).frozen? ⟨w.heap.size + 1, o, none⟩ = false) ∧ w.heap.size + 1 < ((w.alloc (.cells #[.int .i64 a, .int .i64 b, .int .i64 c, .int .i64 d, .slice ay l cy, .slice az m cz] 27)).alloc (.cells #[.int .i64 0, .slice none 0 0] 48)).heap.size) := by
    refine ⟨?_, ?_, ?_, ?_⟩
    · simp [go_sem]
    · simp [go_sem]
    · intro o; simp [go_sem]
    · simp
  obtain ⟨W, hW⟩ : ∃ W, ((w.alloc (.cells #[.int .i64 a, .int .i64 b, .int .i64 c, .int .i64 d, .slice ay l cy, .slice az m cz] 27)).alloc (.cells #[.int .i64 0, .slice none 0 0] 48)) = W := ⟨_, rfl⟩
  rw [hW] at BA VA RA HF
  obtain ⟨v0, v1, v2, v3, v4, v5⟩ := VA.out
  go_enter Tryd.func21, Tryd.ntmps21
  go_wp2_with fail
  clear hW
  refine HF.out.mono ?_
  rintro e w1 ⟨rfl, hb⟩
  have BB := hide (below_on BA.out hb)
  have VB := hide (VA.out.later hb)
  have RB : Hid (w1.cell? ⟨w.heap.size + 1, 0, none⟩ = some (.int .i64 0) ∧ w1.cell? ⟨w.heap.size + 1, 1, none⟩ = some (.slice none 0 0) ∧ (∀ o, w1.frozen? ⟨w.heap.size + 1, o, none⟩ = false) ∧ w.heap.size + 1 < w1.heap.size) := ⟨cell_later hb RA.out.1, cell_later hb RA.out.2.1, fun o => ((bcell hb).2 _ _ RA.out.2.2.2).trans (RA.out.2.2.1 o), Nat.lt_of_lt_of_le RA.out.2.2.2 hb.size⟩
  clear hb v0 v1 v2 v3 v4 v5 VA RA BA
  by_cases h0 : Z = 0
  · subst h0
    obtain ⟨_, hml, hll⟩ := HRm.out (by first | trivial | rfl)
    have HLL := hide hll
    clear hll
    have hrs := HRs.out (by first | trivial | rfl)
    by_cases hn : 0 ≤ n ∧ n ≤ 14
    · skip
      have hn0 : ¬ n < 0 := by omega
      have hn1 : ¬ 14 < n := by omega
      have HN := hide hn
      clear hn
      have HLog := hide (logOfE a b c d ay az l cy m cz hrs.1 hrs.2)
      obtain ⟨v0, v1, v2, v3, v4, v5⟩ := VB.out
      go_wp2_with fail
      refine (HLog.out _).mono ?_
      rintro e w2 ⟨rfl, hb⟩
      have hbl := below_on hb (below_alloc w2 (.cells #[.int .i64 (c + 1), .slice az m cz] 82))
      have BC := hide (below_on BB.out hbl)
      have RC : Hid ((w2.alloc (.cells #[.int .i64 (c + 1), .slice az m cz] 82)).cell? ⟨w.heap.size + 1, 0, none⟩ = some (.int .i64 0) ∧ (w2.alloc (.cells #[.int .i64 (c + 1), .slice az m cz] 82)).cell? ⟨w.heap.size + 1, 1, none⟩ = some (.slice none 0 0) ∧ (∀ o, (w2.alloc (.cells #[.int .i64 (c + 1), .slice az m cz] 82)).frozen? ⟨w.heap.size + 1, o, none⟩ = false) ∧ w.heap.size + 1 < (w2.alloc (.cells #[.int .i64 (c + 1), .slice az m cz] 82)).heap.size) := ⟨cell_later hbl RB.out.1, cell_later hbl RB.out.2.1, fun o => ((bcell hbl).2 _ _ RB.out.2.2.2).trans (RB.out.2.2.1 o), Nat.lt_of_lt_of_le RB.out.2.2.2 hbl.size⟩
      have LC := hide (Var2_new w2 (.int .i64 (c + 1)) (.slice az m cz) 82)
      have hw2 : w.heap.size + 1 < w2.heap.size := Nat.lt_of_lt_of_le RB.out.2.2.2 hb.size
      clear hb hbl v0 v1 v2 v3 v4 v5 VB RB BB
      obtain ⟨f, hf⟩ : ∃ f, c + 1 = f := ⟨_, rfl⟩
      rw [hf] at BC RC LC ⊢
      have hfc : c = f - 1 := by omega
      have hf0 : 0 ≤ f := by omega
      have hf1 : f ≤ 10000 := by omega
      obtain ⟨W2, hW2⟩ : ∃ W2, w2.alloc (.cells #[.int .i64 f, .slice az m cz] 82) = W2 := ⟨_, rfl⟩
      rw [hW2] at BC RC LC
      by_cases hlo : i < f
      · obtain ⟨rfl, rfl⟩ := HLo.out (by first | trivial | rfl) HN.out (by omega)
        have HRe := hide (reachLoE f i az m cz hlo)
        clear hlo hf hfc
        obtain ⟨l0, l1⟩ := LC.out
        go_wp2_with fail
        (try rw [hW2])
        clear hW2
        refine (HRe.out _).mono ?_
        rintro e w3 ⟨rfl, hb⟩
        have BD := hide (below_on BC.out hb)
        have RD : Hid (w3.cell? ⟨w.heap.size + 1, 0, none⟩ = some (.int .i64 0) ∧ w3.cell? ⟨w.heap.size + 1, 1, none⟩ = some (.slice none 0 0) ∧ (∀ o, w3.frozen? ⟨w.heap.size + 1, o, none⟩ = false) ∧ w.heap.size + 1 < w3.heap.size) := ⟨cell_later hb RC.out.1, cell_later hb RC.out.2.1, fun o => ((bcell hb).2 _ _ RC.out.2.2.2).trans (RC.out.2.2.1 o), Nat.lt_of_lt_of_le RC.out.2.2.2 hb.size⟩
        clear hb l0 l1
        have hne := run_neq_iface_nilR (P := Tryd.prog) w3 104 (.agg #[.int .i64 f]) Tryd.underlying59
        go_wp2_with fail
        refine (codeOver f _ (HG.out.later BD.out)).mono ?_
        rintro e w4 ⟨rfl, hb⟩
        have BE := hide (below_on BD.out hb)
        have RE : Hid (w4.cell? ⟨w.heap.size + 1, 0, none⟩ = some (.int .i64 0) ∧ w4.cell? ⟨w.heap.size + 1, 1, none⟩ = some (.slice none 0 0) ∧ (∀ o, w4.frozen? ⟨w.heap.size + 1, o, none⟩ = false) ∧ w.heap.size + 1 < w4.heap.size) := ⟨cell_later hb RD.out.1, cell_later hb RD.out.2.1, fun o => ((bcell hb).2 _ _ RD.out.2.2.2).trans (RD.out.2.2.1 o), Nat.lt_of_lt_of_le RD.out.2.2.2 hb.size⟩
        clear hb hne
        have HFn := hide (ret_entries (r := w.heap.size + 1) (x := .int .i64 6) BE.out (by omega) (OwJ_nil (fun _ => False) w4) (fun b hb => hb.elim))
        obtain ⟨c0, c1, F0, _⟩ := RE.out
        have f0 := F0 0
        have f1 := F0 1
        clear F0
        go_wp2
        refine bodyPost_ret (v := .agg #[.int .i64 6, .slice none 0 0]) (by simp [results, Tryd.results21, go_sem, c0, c1]) rfl ⟨_, rfl, HFn.out.1, HFn.out.2⟩
      · by_cases hhi : f + (m : Int) < i
        · obtain ⟨rfl, rfl⟩ := HHi.out (by first | trivial | rfl) HN.out (by omega)
          obtain ⟨⟨pa, hpa⟩, _⟩ := HG.out.later BC.out
          have HPc := hide hpa
          have HRe := hide (reachHiE f i az m cz hf0 hf1 (by omega) hhi W2 pa hpa)
          clear hlo hhi hf hfc hpa
          obtain ⟨l0, l1⟩ := LC.out
          go_wp2_with fail
          (try rw [hW2])
          clear hW2
          refine HRe.out.mono ?_
          rintro e w3 ⟨rfl, hb⟩
          have BD := hide (below_on BC.out hb)
          have RD : Hid (w3.cell? ⟨w.heap.size + 1, 0, none⟩ = some (.int .i64 0) ∧ w3.cell? ⟨w.heap.size + 1, 1, none⟩ = some (.slice none 0 0) ∧ (∀ o, w3.frozen? ⟨w.heap.size + 1, o, none⟩ = false) ∧ w.heap.size + 1 < w3.heap.size) := ⟨cell_later hb RC.out.1, cell_later hb RC.out.2.1, fun o => ((bcell hb).2 _ _ RC.out.2.2.2).trans (RC.out.2.2.1 o), Nat.lt_of_lt_of_le RC.out.2.2.2 hb.size⟩
          have HPd := hide (cell_later hb HPc.out)
          clear hb l0 l1
          have hne := run_neq_iface_nilR (P := Tryd.prog) w3 148 (.pointer (some pa)) Tryd.underlying59
          go_wp2_with fail
          refine (codeYet pa _ (HG.out.later BD.out) HPd.out).mono ?_
          rintro e w4 ⟨rfl, hb⟩
          have BE := hide (below_on BD.out hb)
          have RE : Hid (w4.cell? ⟨w.heap.size + 1, 0, none⟩ = some (.int .i64 0) ∧ w4.cell? ⟨w.heap.size + 1, 1, none⟩ = some (.slice none 0 0) ∧ (∀ o, w4.frozen? ⟨w.heap.size + 1, o, none⟩ = false) ∧ w.heap.size + 1 < w4.heap.size) := ⟨cell_later hb RD.out.1, cell_later hb RD.out.2.1, fun o => ((bcell hb).2 _ _ RD.out.2.2.2).trans (RD.out.2.2.1 o), Nat.lt_of_lt_of_le RD.out.2.2.2 hb.size⟩
          clear hb hne
          have HFn := hide (ret_entries (r := w.heap.size + 1) (x := .int .i64 4) BE.out (by omega) (OwJ_nil (fun _ => False) w4) (fun b hb => hb.elim))
          obtain ⟨c0, c1, F0, _⟩ := RE.out
          have f0 := F0 0
          have f1 := F0 1
          clear F0
          go_wp2
          refine bodyPost_ret (v := .agg #[.int .i64 4, .slice none 0 0]) (by simp [results, Tryd.results21, go_sem, c0, c1]) rfl ⟨_, rfl, HFn.out.1, HFn.out.2⟩
        · have HRe := hide (reachInE f i az m cz hf0 hf1 (by omega) (by omega) (by omega))
          obtain ⟨kk, hkk⟩ : ∃ kk : Nat, i - f = (kk : Int) := ⟨(i - f).toNat, by omega⟩
          have hkm : kk ≤ m := by omega
          have HFr := hide (fromE f i az m cz kk hkk hkm (by omega))
          have HRd := hide (fun (w9 : World) (hb : Below w.heap.size w w9) => (HZ.out.later hb).fromE kk hkm hcz)
          have hkf : i - (c + 1) = (kk : Int) := by omega
          have HOk2 := hide (fun q => HOk.out kk q (by first | trivial | rfl) HN.out hkf hkm)
          clear hlo hhi hf hfc hkk hkf
          obtain ⟨l0, l1⟩ := LC.out
          go_wp2_with fail
          (try rw [hW2])
          clear hW2
          refine (HRe.out _).mono ?_
          rintro e w3 ⟨rfl, hb⟩
          have BD := hide (below_on BC.out hb)
          have RD : Hid (w3.cell? ⟨w.heap.size + 1, 0, none⟩ = some (.int .i64 0) ∧ w3.cell? ⟨w.heap.size + 1, 1, none⟩ = some (.slice none 0 0) ∧ (∀ o, w3.frozen? ⟨w.heap.size + 1, o, none⟩ = false) ∧ w.heap.size + 1 < w3.heap.size) := ⟨cell_later hb RC.out.1, cell_later hb RC.out.2.1, fun o => ((bcell hb).2 _ _ RC.out.2.2.2).trans (RC.out.2.2.1 o), Nat.lt_of_lt_of_le RC.out.2.2.2 hb.size⟩
          have LD := hide (LC.out.later hb)
          clear hb l0 l1 LC RC
          obtain ⟨l0, l1⟩ := LD.out
          go_wp2_with fail
          refine (HFr.out _).mono ?_
          rintro e w4 ⟨rfl, hb⟩
          have BE := hide (below_on BD.out hb)
          have RE : Hid (w4.cell? ⟨w.heap.size + 1, 0, none⟩ = some (.int .i64 0) ∧ w4.cell? ⟨w.heap.size + 1, 1, none⟩ = some (.slice none 0 0) ∧ (∀ o, w4.frozen? ⟨w.heap.size + 1, o, none⟩ = false) ∧ w.heap.size + 1 < w4.heap.size) := ⟨cell_later hb RD.out.1, cell_later hb RD.out.2.1, fun o => ((bcell hb).2 _ _ RD.out.2.2.2).trans (RD.out.2.2.1 o), Nat.lt_of_lt_of_le RD.out.2.2.2 hb.size⟩
          clear hb l0 l1 LD RD
          obtain ⟨nn, hnn⟩ : ∃ nn : Nat, n = (nn : Int) := ⟨n.toNat, by have := HN.out.1; omega⟩
          subst hnn
          obtain ⟨A, hA⟩ : ∃ A, slE az cz kk = A := ⟨_, rfl⟩
          rw [hA] at HRd ⊢
          clear hA
          obtain ⟨q, hq⟩ : ∃ q, min nn (m - kk) = q := ⟨_, rfl⟩
          have hq1 : q ≤ m - kk := by omega
          have hq2 : q ≤ nn := by omega
          have hq3 : q ≤ cz - kk := by omega
          have hmn : min (nn : Int) ((m - kk : Nat) : Int) = (q : Int) := by omega
          have HRq := hide ((HRd.out _ BE.out).uptoE q (by omega))
          obtain ⟨rfl, hRe⟩ := HOk2.out q (by omega)
          subst hRe
          have HLq : Hid (∀ j, j < ((ps.drop kk).take q).length → (((ps.drop kk).take q).getD j oj0).2.2.length ≤ 1048576) := fun j hj => by
            have hj2 : j < q ∧ kk + j < ps.length := by simp at hj; omega
            have e : ((ps.drop kk).take q).getD j oj0 = ps.getD (kk + j) oj0 := by simp [List.getD, List.getElem?_drop, hj2.1]
            rw [e]
            exact HLL.out _ (by rw [← HME.out]; exact hj2.2)
          have hlq : ((ps.drop kk).take q).length ≤ 1048576 := by simp; omega
          have HCo := hide (copyEntriesI HRq.out hlq HLq.out)
          go_wp2_with fail
          all_goals first
            | (have hqe : nn = q := by omega
               rw [hqe]
               refine HCo.out.mono ?_
               rintro e w5 ⟨u, rfl, hb, hbu⟩
               have ho := hbu.ow rfl (by simp; omega)
               have BF := hide (below_on BE.out hb)
               have RF : Hid (w5.cell? ⟨w.heap.size + 1, 0, none⟩ = some (.int .i64 0) ∧ w5.cell? ⟨w.heap.size + 1, 1, none⟩ = some (.slice none 0 0) ∧ (∀ o, w5.frozen? ⟨w.heap.size + 1, o, none⟩ = false) ∧ w.heap.size + 1 < w5.heap.size) := ⟨cell_later hb RE.out.1, cell_later hb RE.out.2.1, fun o => ((bcell hb).2 _ _ RE.out.2.2.2).trans (RE.out.2.2.1 o), Nat.lt_of_lt_of_le RE.out.2.2.2 hb.size⟩
               have hz5 := RE.out.2.2.2
               have HFn := hide (ret_entries (r := w.heap.size + 1) (x := .int .i64 0) BF.out (by omega) ho (fun b hb => ⟨by omega, hb.2⟩))
               obtain ⟨au, cu, hu⟩ := hbu.shape
               subst hu
               obtain ⟨nu, hnu⟩ : ∃ nu, ((ps.drop kk).take q).length = nu := ⟨_, rfl⟩
               rw [hnu] at HFn ⊢
               clear hb hbu ho hnu hqe
               obtain ⟨c0, c1, F0, _⟩ := RF.out
               have f0 := F0 0
               have f1 := F0 1
               clear F0
               go_wp2
               refine bodyPost_ret (v := .agg #[.int .i64 0, .slice au nu cu]) (by simp [results, Tryd.results21, go_sem, c0, c1]) rfl ⟨_, rfl, HFn.out.1, HFn.out.2⟩)
            | (have hqe : (m - kk) = q := by omega
               rw [hqe]
               refine HCo.out.mono ?_
               rintro e w5 ⟨u, rfl, hb, hbu⟩
               have ho := hbu.ow rfl (by simp; omega)
               have BF := hide (below_on BE.out hb)
               have RF : Hid (w5.cell? ⟨w.heap.size + 1, 0, none⟩ = some (.int .i64 0) ∧ w5.cell? ⟨w.heap.size + 1, 1, none⟩ = some (.slice none 0 0) ∧ (∀ o, w5.frozen? ⟨w.heap.size + 1, o, none⟩ = false) ∧ w.heap.size + 1 < w5.heap.size) := ⟨cell_later hb RE.out.1, cell_later hb RE.out.2.1, fun o => ((bcell hb).2 _ _ RE.out.2.2.2).trans (RE.out.2.2.1 o), Nat.lt_of_lt_of_le RE.out.2.2.2 hb.size⟩
               have hz5 := RE.out.2.2.2
               have HFn := hide (ret_entries (r := w.heap.size + 1) (x := .int .i64 0) BF.out (by omega) ho (fun b hb => ⟨by omega, hb.2⟩))
               obtain ⟨au, cu, hu⟩ := hbu.shape
               subst hu
               obtain ⟨nu, hnu⟩ : ∃ nu, ((ps.drop kk).take q).length = nu := ⟨_, rfl⟩
               rw [hnu] at HFn ⊢
               clear hb hbu ho hnu hqe
               obtain ⟨c0, c1, F0, _⟩ := RF.out
               have f0 := F0 0
               have f1 := F0 1
               clear F0
               go_wp2
               refine bodyPost_ret (v := .agg #[.int .i64 0, .slice au nu cu]) (by simp [results, Tryd.results21, go_sem, c0, c1]) rfl ⟨_, rfl, HFn.out.1, HFn.out.2⟩)
    · obtain ⟨rfl, rfl⟩ := HRng.out (by first | trivial | rfl) hn
      by_cases hn0 : n < 0
      · clear hn
        have HFn := hide (ret_entries (r := w.heap.size + 1) (x := .int .i64 3) BB.out (by omega) (OwJ_nil (fun _ => False) w1) (fun b hb => hb.elim))
        obtain ⟨c0, c1, F0, _⟩ := RB.out
        have f0 := F0 0
        have f1 := F0 1
        clear F0
        go_wp2
        refine bodyPost_ret (v := .agg #[.int .i64 3, .slice none 0 0]) (by simp [results, Tryd.results21, go_sem, c0, c1]) rfl ⟨_, rfl, HFn.out.1, HFn.out.2⟩
      · have hn1 : 14 < n := by omega
        clear hn
        have HFn := hide (ret_entries (r := w.heap.size + 1) (x := .int .i64 3) BB.out (by omega) (OwJ_nil (fun _ => False) w1) (fun b hb => hb.elim))
        obtain ⟨c0, c1, F0, _⟩ := RB.out
        have f0 := F0 0
        have f1 := F0 1
        clear F0
        go_wp2
        refine bodyPost_ret (v := .agg #[.int .i64 3, .slice none 0 0]) (by simp [results, Tryd.results21, go_sem, c0, c1]) rfl ⟨_, rfl, HFn.out.1, HFn.out.2⟩
  · obtain ⟨rfl, rfl⟩ := HBad.out h0
    have h0b : (C == 0) = false := by simpa using h0
    have h0c : (C != 0) = true := by simp [h0]
    clear h0
    have HFn := hide (ret_entries (r := w.heap.size + 1) (x := .int .i64 C) BB.out (by omega) (OwJ_nil (fun _ => False) w1) (fun b hb => hb.elim))
    obtain ⟨c0, c1, F0, _⟩ := RB.out
    have f0 := F0 0
    have f1 := F0 1
    clear F0
    go_wp2
    refine bodyPost_ret (v := .agg #[.int .i64 C, .slice none 0 0]) (by simp [results, Tryd.results21, go_sem, c0, c1]) rfl ⟨_, rfl, HFn.out.1, HFn.out.2⟩
end Go.Proofs.YtncgpfapepminaaDoor
