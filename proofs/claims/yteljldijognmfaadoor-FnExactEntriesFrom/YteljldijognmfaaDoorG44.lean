/- Ef3 in one text: what each says stands at its head below. -/
import Derived.Test.YteljldijognmfaaDoorG42
import Derived.Test.YteljldijognmfaaDoorG43
import Derived.Test.YteljldijognmfaaDoorG32
/- Chapter 10: 'EntriesFrom' of the model, walked. Made by program (genef.py). -/
namespace Go.Proofs.YteljldijognmfaaDoor
open Go.RowKit

set_option maxHeartbeats 4000000 in
set_option maxRecDepth 4000 in
theorem specEntriesFrom {S T : Nat → Prop} {w : World} {y z : Value} (r : Rf) (i n : Int) (hy : RdI S w y r.sn) (hz : RdJ T w z r.lg) (hcp : capE z) :
    Calls Tryd.prog 17 #[.agg #[.int .i64 r.tm, .int .i64 r.vt, .int .i64 r.si, .int .i64 r.st, y, z], .int .i64 i, .int .i64 n] w (EndsEn (efC r i n) (efR r i n) w) := by
  obtain ⟨ay, cy, rfl⟩ := hy.shape
  obtain ⟨az, cz, rfl, _⟩ := hz.shape
  have hcz : r.lg.length ≤ cz := hcp
  clear hcp
  have BA0 := below_on (below_alloc w (.cells #[.int .i64 r.tm, .int .i64 r.vt, .int .i64 r.si, .int .i64 r.st, .slice ay r.sn.length cy, .slice az r.lg.length cz] 29)) (below_alloc _ (.cells #[.int .i64 0, .slice none 0 0] 40))
  have VA0 := (Var6_new w (.int .i64 r.tm) (.int .i64 r.vt) (.int .i64 r.si) (.int .i64 r.st) (.slice ay r.sn.length cy) (.slice az r.lg.length cz) 29).later (below_alloc _ (.cells #[.int .i64 0, .slice none 0 0] 40))
  have HF := hide (l10Fault r VA0 (hy.later BA0) (hz.later BA0))
  have BA := hide BA0
  have VA := hide VA0
  clear BA0 VA0
  have HZ := hide hz
  have HRm := hide (@rf_room r)
  have HRs := hide (fun h : rfF r = 0 => (rfF_iff.1 h).rg.2.1)
  have HBad := hide (@ef_bad r i n)
  have HRng := hide (@ef_rng r i n)
  have HLo := hide (@ef_lo r i n)
  have HHi := hide (@ef_hi r i n)
  have HOk := hide (@ef_ok r i n)
  obtain ⟨C, hC⟩ : ∃ C, efC r i n = C := ⟨_, rfl⟩
  obtain ⟨R, hR⟩ : ∃ R, efR r i n = R := ⟨_, rfl⟩
  rw [hC, hR] at HBad HRng HLo HHi HOk ⊢
  clear hC hR
  obtain ⟨Z, hZ⟩ : ∃ Z, rfF r = Z := ⟨_, rfl⟩
  rw [hZ] at HF HRm HRs HBad HRng HLo HHi HOk
  clear hZ hy hz
  obtain ⟨ps, hps⟩ : ∃ ps, r.lg = ps := ⟨_, rfl⟩
  rw [hps] at HF HZ HRm HHi HOk BA VA hcz ⊢
  clear hps
  obtain ⟨m, hme⟩ : ∃ m, ps.length = m := ⟨_, rfl⟩
  have HME := hide hme
  rw [hme] at HF HZ HRm HHi HOk BA VA hcz ⊢
  clear hme
  generalize r.sn.length = l at *
  generalize r.tm = a at *
  generalize r.vt = b at *
  generalize r.si = c at *
  generalize r.st = d at *
  have RA : Hid (((w.alloc (.cells #[.int .i64 a, .int .i64 b, .int .i64 c, .int .i64 d, .slice ay l cy, .slice az m cz] 29)).alloc (.cells #[.int .i64 0, .slice none 0 0] 40)).cell? ⟨w.heap.size + 1, 0, none⟩ = some (.int .i64 0) ∧ ((w.alloc (.cells #[.int .i64 a, .int .i64 b, .int .i64 c, .int .i64 d, .slice ay l cy, .slice az m cz] 29)).alloc (.cells #[.int .i64 0, .slice none 0 0] 40)).cell? ⟨w.heap.size + 1, 1, none⟩ = some (.slice none 0 0) ∧ (∀ o, ((w.alloc (.cells #[.int .i64 a, .int .i64 b, .int .i64 c, .int .i64 d, .slice ay l cy, .slice az m cz] 29)).alloc (.cells #[.int .i64 0, .slice none 0 0] 40)).frozen? ⟨w.heap.size + 1, o, none⟩ = false) ∧ w.heap.size + 1 < ((w.alloc (.cells #[.int .i64 a, .int .i64 b, .int .i64 c, .int .i64 d, .slice ay l cy, .slice az m cz] 29)).alloc (.cells #[.int .i64 0, .slice none 0 0] 40)).heap.size) := by
    refine ⟨?_, ?_, ?_, ?_⟩
    · simp [go_sem]
    · simp [go_sem]
    · intro o; simp [go_sem]
    · simp
  obtain ⟨W, hW⟩ : ∃ W, ((w.alloc (.cells #[.int .i64 a, .int .i64 b, .int .i64 c, .int .i64 d, .slice ay l cy, .slice az m cz] 29)).alloc (.cells #[.int .i64 0, .slice none 0 0] 40)) = W := ⟨_, rfl⟩
  rw [hW] at BA VA RA HF
  obtain ⟨v0, v1, v2, v3, v4, v5⟩ := VA.out
  go_enter Tryd.func17, Tryd.ntmps17
  go_wp2_with fail
  clear hW
  refine HF.out.mono ?_
  rintro e w1 ⟨rfl, hb⟩
  have BB := hide (below_on BA.out hb)
  have VB := hide (VA.out.later hb)
  have RB : Hid (w1.cell? ⟨w.heap.size + 1, 0, none⟩ = some (.int .i64 0) ∧ w1.cell? ⟨w.heap.size + 1, 1, none⟩ = some (.slice none 0 0) ∧ (∀ o, w1.frozen? ⟨w.heap.size + 1, o, none⟩ = false) ∧ w.heap.size + 1 < w1.heap.size) := ⟨cell_later hb RA.out.1, cell_later hb RA.out.2.1, fun o => ((bcell hb).2 _ _ RA.out.2.2.2).trans (RA.out.2.2.1 o), Nat.lt_of_lt_of_le RA.out.2.2.2 hb.size⟩
  clear hb v0 v1 v2 v3 v4 v5 VA RA BA
  by_cases h0 : Z = 0
  · subst h0
    obtain ⟨_, hml, hll⟩ := HRm.out (by first | trivial | rfl)
    have HLL := hide hll
    clear hll
    have hrs := HRs.out (by first | trivial | rfl)
    by_cases hn : 0 ≤ n ∧ n ≤ 14
    · skip
      go_wp2_with fail
      refine (l1InB n 0 14 _).mono ?_
      rintro e wi ⟨rfl, hwi⟩
      have hwj := hwi.symm
      clear hwi
      subst hwj
      rw [inBq_yes hn]
      have HN := hide hn
      clear hn
      by_cases hlo : i ≤ c
      · obtain ⟨rfl, rfl⟩ := HLo.out (by first | trivial | rfl) HN.out hlo
        have HFn := hide (ret_entries (r := w.heap.size + 1) (x := .int .i64 6) BB.out (by omega) (OwJ_nil (fun _ => False) w1) (fun b hb => hb.elim))
        obtain ⟨c0, c1, F0, _⟩ := RB.out
        have f0 := F0 0
        have f1 := F0 1
        clear F0
        obtain ⟨v0, v1, v2, v3, v4, v5⟩ := VB.out
        go_wp2
        refine bodyPost_ret (v := .agg #[.int .i64 6, .slice none 0 0]) (by simp [results, Tryd.results17, go_sem, c0, c1]) rfl ⟨_, rfl, HFn.out.1, HFn.out.2⟩
      · have HLa := hide (fun (h2 : m ≤ 14) => l10LastI VB.out hrs.1 hrs.2 h2)
        have e1 : IntKind.i64.wrap (c + (m : Int) + 1) = c + m + 1 := by simp [IntKind.wrap, IntKind.bits, IntKind.signed]; omega
        obtain ⟨v0, v1, v2, v3, v4, v5⟩ := VB.out
        go_wp2_with fail
        refine (HLa.out hml).mono ?_
        rintro e w2 ⟨rfl, qd, hw2⟩
        have hb : Below w1.heap.size w1 w2 := by rw [hw2]; exact below_drewN _ _
        clear hw2
        have BC := hide (below_on BB.out hb)
        have VC := hide (VB.out.later hb)
        have RC : Hid (w2.cell? ⟨w.heap.size + 1, 0, none⟩ = some (.int .i64 0) ∧ w2.cell? ⟨w.heap.size + 1, 1, none⟩ = some (.slice none 0 0) ∧ (∀ o, w2.frozen? ⟨w.heap.size + 1, o, none⟩ = false) ∧ w.heap.size + 1 < w2.heap.size) := ⟨cell_later hb RB.out.1, cell_later hb RB.out.2.1, fun o => ((bcell hb).2 _ _ RB.out.2.2.2).trans (RB.out.2.2.1 o), Nat.lt_of_lt_of_le RB.out.2.2.2 hb.size⟩
        clear hb v0 v1 v2 v3 v4 v5 VB RB BB HLa
        by_cases hhi : c + (m : Int) + 1 < i
        · obtain ⟨rfl, rfl⟩ := HHi.out (by first | trivial | rfl) HN.out hhi
          have HFn := hide (ret_entries (r := w.heap.size + 1) (x := .int .i64 4) BC.out (by omega) (OwJ_nil (fun _ => False) w2) (fun b hb => hb.elim))
          obtain ⟨c0, c1, F0, _⟩ := RC.out
          have f0 := F0 0
          have f1 := F0 1
          clear F0
          go_wp2
          refine bodyPost_ret (v := .agg #[.int .i64 4, .slice none 0 0]) (by simp [results, Tryd.results17, go_sem, c0, c1]) rfl ⟨_, rfl, HFn.out.1, HFn.out.2⟩
        · obtain ⟨kk, hkk⟩ : ∃ kk : Nat, i - (c + 1) = (kk : Int) := ⟨(i - (c + 1)).toNat, by omega⟩
          have hkm : kk ≤ m := by omega
          have e2 : IntKind.i64.wrap (i - c) = i - c := by simp [IntKind.wrap, IntKind.bits, IntKind.signed]; omega
          have e3 : IntKind.i64.wrap (i - c - 1) = (kk : Int) := by rw [show i - c - 1 = (kk : Int) by omega]; simp [IntKind.wrap, IntKind.bits, IntKind.signed]; omega
          have hN := HN.out
          have e4 : IntKind.i64.wrap ((kk : Int) + n) = (kk : Int) + n := by simp [IntKind.wrap, IntKind.bits, IntKind.signed]; omega
          obtain ⟨ee, hee⟩ : ∃ ee : Nat, (if (m : Int) < (kk : Int) + n then (m : Int) else (kk : Int) + n) = (ee : Int) := ⟨if (m : Int) < (kk : Int) + n then m else kk + n.toNat, by split <;> omega⟩
          have hE1 : kk ≤ ee ∧ ee ≤ m ∧ (((ee - kk : Nat) : Int) = n ∨ (ee - kk = m - kk ∧ ((ee - kk : Nat) : Int) ≤ n)) := by split at hee <;> omega
          have HMin : Hid (∀ W, Calls Tryd.prog 48 #[.int .i64 (m : Int), .int .i64 ((kk : Int) + n)] W fun e w' => e = .returned (.int .i64 (ee : Int)) ∧ w' = W) := fun W => by have h := l1Min_any (m : Int) ((kk : Int) + n) W; rw [hee] at h; exact h
          obtain ⟨rfl, hRe⟩ := HOk.out kk (ee - kk) (by first | trivial | rfl) HN.out hkk hkm hE1.2.2
          have HRe := hide hRe
          clear hRe
          have hke : kk ≤ ee := hE1.1
          have hem : ee ≤ m := hE1.2.1
          have hk1 : (kk : Int) ≤ (ee : Int) := by omega
          have hk2 : (ee : Int) ≤ (cz : Int) := by omega
          have hk3 : ee ≤ cz := by omega
          have HLq : Hid (∀ j, j < ((ps.drop kk).take (ee - kk)).length → (((ps.drop kk).take (ee - kk)).getD j oj0).2.2.length ≤ 1048576) := fun j hj => by
            have hj2 : j < ee - kk ∧ kk + j < ps.length := by simp at hj; omega
            have e : ((ps.drop kk).take (ee - kk)).getD j oj0 = ps.getD (kk + j) oj0 := by simp [List.getD, List.getElem?_drop, hj2.1]
            rw [e]
            exact HLL.out _ (by rw [← HME.out]; exact hj2.2)
          have hlq : ((ps.drop kk).take (ee - kk)).length ≤ 1048576 := by simp; omega
          have HLl := hide hlq
          obtain ⟨L0, hL0⟩ : ∃ L0, (ps.drop kk).take (ee - kk) = L0 := ⟨_, rfl⟩
          obtain ⟨ql, hql⟩ : ∃ ql, L0.length = ql := ⟨_, rfl⟩
          have HQl := hide hql
          have HRd := hide (((HZ.out.later BC.out).fromE kk hkm hcz).uptoE (ee - kk) (by omega))
          rw [hL0] at HRe HLl HLq HRd
          clear hL0 hql
          clear hkk hee hE1 hlq hN HOk HHi HLo HRng HBad hlo
          obtain ⟨v0, v1, v2, v3, v4, v5⟩ := VC.out
          by_cases hck : cz = kk
          · subst hck
            have hA : slE az cz cz = az := by simp [slE]
            rw [hA] at HRd
            clear hA
            have e5 : cz = ee := by omega
            subst e5
            have e6 : cz = m := by omega
            subst e6
            rw [Nat.sub_self] at HRd
            go_wp2_with fail
            go_region_held3 (fun w' => w'.cell? ⟨w.heap.size, 5, none⟩ = some (.slice az cz cz)) (first | exact v5 | exact x5 | exact by simp [go_sem, x5])
              (first | (go_at_call 47; refine (l9Copy (HRd.out.later (below_drewN w2 1)) HLl.out HLq.out).mono ?_; rintro e w5 ⟨u, rfl, hb0, hbu⟩; have hb := below_on (below_drewN w2 1) hb0; have x5 := cell_later hb v5; have HO := hide (hbu.ow rfl (by have := HLl.out; omega)); have BF := hide (below_on BC.out hb); have RF : Hid (w5.cell? ⟨w.heap.size + 1, 0, none⟩ = some (.int .i64 0) ∧ w5.cell? ⟨w.heap.size + 1, 1, none⟩ = some (.slice none 0 0) ∧ (∀ o, w5.frozen? ⟨w.heap.size + 1, o, none⟩ = false) ∧ w.heap.size + 1 < w5.heap.size) := ⟨cell_later hb RC.out.1, cell_later hb RC.out.2.1, fun o => ((bcell hb).2 _ _ RC.out.2.2.2).trans (RC.out.2.2.1 o), Nat.lt_of_lt_of_le RC.out.2.2.2 hb.size⟩; obtain ⟨au, cu, hu⟩ := hbu.shape; rw [HQl.out] at hu; subst hu; have c0 := RF.out.1; have c1 := RF.out.2.1; have f0 := RF.out.2.2.1 0; have f1 := RF.out.2.2.1 1; have hs5 : w2.heap.size ≤ w5.heap.size := hb.size; clear hb hb0 hbu) | (go_at_call 48; refine (HMin.out _).mono ?_; rintro e wm ⟨rfl, rfl⟩))
            have hz2 := RC.out.2.2.2
            have HFn := hide (ret_entries (r := w.heap.size + 1) (x := .int .i64 0) BF.out (by omega) HO.out (fun b hb => ⟨by have h1 : w2.heap.size ≤ b := hb.1; omega, hb.2⟩))
            go_wp2
            refine bodyPost_ret (v := .agg #[.int .i64 0, .slice au ql cu]) (by simp [results, Tryd.results17, go_sem, c0, c1]) rfl ⟨_, rfl, HFn.out.1, by rw [HRe.out]; exact HFn.out.2⟩
          · have hA : slE az cz kk = Option.map (fun x => x.add (kk * 3)) az := by simp [slE, hck]
            rw [hA] at HRd
            clear hA
            go_wp2_with fail
            go_region_held3 (fun w' => w'.cell? ⟨w.heap.size, 5, none⟩ = some (.slice az m cz)) (first | exact v5 | exact x5 | exact by simp [go_sem, x5])
              (first | (go_at_call 47; refine (l9Copy (HRd.out.later (below_drewN w2 1)) HLl.out HLq.out).mono ?_; rintro e w5 ⟨u, rfl, hb0, hbu⟩; have hb := below_on (below_drewN w2 1) hb0; have x5 := cell_later hb v5; have HO := hide (hbu.ow rfl (by have := HLl.out; omega)); have BF := hide (below_on BC.out hb); have RF : Hid (w5.cell? ⟨w.heap.size + 1, 0, none⟩ = some (.int .i64 0) ∧ w5.cell? ⟨w.heap.size + 1, 1, none⟩ = some (.slice none 0 0) ∧ (∀ o, w5.frozen? ⟨w.heap.size + 1, o, none⟩ = false) ∧ w.heap.size + 1 < w5.heap.size) := ⟨cell_later hb RC.out.1, cell_later hb RC.out.2.1, fun o => ((bcell hb).2 _ _ RC.out.2.2.2).trans (RC.out.2.2.1 o), Nat.lt_of_lt_of_le RC.out.2.2.2 hb.size⟩; obtain ⟨au, cu, hu⟩ := hbu.shape; rw [HQl.out] at hu; subst hu; have c0 := RF.out.1; have c1 := RF.out.2.1; have f0 := RF.out.2.2.1 0; have f1 := RF.out.2.2.1 1; have hs5 : w2.heap.size ≤ w5.heap.size := hb.size; clear hb hb0 hbu) | (go_at_call 48; refine (HMin.out _).mono ?_; rintro e wm ⟨rfl, rfl⟩))
            have hz2 := RC.out.2.2.2
            have HFn := hide (ret_entries (r := w.heap.size + 1) (x := .int .i64 0) BF.out (by omega) HO.out (fun b hb => ⟨by have h1 : w2.heap.size ≤ b := hb.1; omega, hb.2⟩))
            go_wp2
            refine bodyPost_ret (v := .agg #[.int .i64 0, .slice au ql cu]) (by simp [results, Tryd.results17, go_sem, c0, c1]) rfl ⟨_, rfl, HFn.out.1, by rw [HRe.out]; exact HFn.out.2⟩
    · obtain ⟨rfl, rfl⟩ := HRng.out (by first | trivial | rfl) hn
      go_wp2_with fail
      refine (l1InB n 0 14 _).mono ?_
      rintro e wi ⟨rfl, hwi⟩
      have hwj := hwi.symm
      clear hwi
      subst hwj
      rw [inBq_no hn]
      clear hn
      have HFn := hide (ret_entries (r := w.heap.size + 1) (x := .int .i64 3) BB.out (by omega) (OwJ_nil (fun _ => False) w1) (fun b hb => hb.elim))
      obtain ⟨c0, c1, F0, _⟩ := RB.out
      have f0 := F0 0
      have f1 := F0 1
      clear F0
      go_wp2
      refine bodyPost_ret (v := .agg #[.int .i64 3, .slice none 0 0]) (by simp [results, Tryd.results17, go_sem, c0, c1]) rfl ⟨_, rfl, HFn.out.1, HFn.out.2⟩
  · obtain ⟨rfl, rfl⟩ := HBad.out h0
    have h0b : (C == 0) = false := by simpa using h0
    have h0c : (C != 0) = true := by simp [h0]
    clear h0
    have HFn := hide (ret_entries (r := w.heap.size + 1) (x := .int .i64 C) BB.out (by omega) (OwJ_nil (fun _ => False) w1) (fun b hb => hb.elim))
    obtain ⟨c0, c1, F0, _⟩ := RB.out
    have f0 := F0 0
    have f1 := F0 1
    clear F0
    go_wp2
    refine bodyPost_ret (v := .agg #[.int .i64 C, .slice none 0 0]) (by simp [results, Tryd.results17, go_sem, c0, c1]) rfl ⟨_, rfl, HFn.out.1, HFn.out.2⟩
end Go.Proofs.YteljldijognmfaaDoor
