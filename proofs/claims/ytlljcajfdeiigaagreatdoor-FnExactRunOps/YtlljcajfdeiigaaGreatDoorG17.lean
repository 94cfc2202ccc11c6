/- Cp2 Rt3 Iv4 in one text: what each says stands at its head below. -/
import Derived.Test.YtlljcajfdeiigaaGreatDoorG16
import Derived.Test.YtlljcajfdeiigaaGreatDoorG15
import Derived.Test.YtlljcajfdeiigaaGreatDoorG02
/- Chapter 10: the fault of a store with data, a store with another snapshot: the program's side. Made by program (gencp2.py). -/
namespace Go.Proofs.YtlljcajfdeiigaaGreatDoor
open Go.RowKit

/-- The code of a store with data. -/
def dfF (r : Rf) (xs : List Int) : Int := if rfF r ≠ 0 then rfF r else daF xs
theorem dfF_bad {r : Rf} {xs : List Int} (h : rfF r ≠ 0) : dfF r xs = rfF r := by unfold dfF; rw [if_pos h]
theorem dfF_ok {r : Rf} {xs : List Int} (h : rfF r = 0) : dfF r xs = daF xs := by unfold dfF; rw [if_neg (by simp [h])]
set_option maxHeartbeats 2000000 in
theorem dataFaultI {S T U : Nat → Prop} {w : World} {y z v : Value} {xs : List Int} (r : Rf) (hy : RdI S w y r.sn) (hz : RdJ T w z r.lg) (hv : RdI U w v xs) : Calls Tryz.prog 95 #[.agg #[.int .i64 r.tm, .int .i64 r.vt, .int .i64 r.si, .int .i64 r.st, y, z], v] w fun e w' => e = .returned (.int .i64 (dfF r xs)) ∧ Below w.heap.size w w' := by
  obtain ⟨ay, cy, rfl⟩ := hy.shape
  obtain ⟨az, cz, rfl, _⟩ := hz.shape
  obtain ⟨av, cv, rfl⟩ := hv.shape
  have BA := hide (below_alloc w (.cells #[.int .i64 r.tm, .int .i64 r.vt, .int .i64 r.si, .int .i64 r.st, .slice ay r.sn.length cy, .slice az r.lg.length cz] 32))
  have HF := hide (implRaftFault r (hy.later BA.out) (hz.later BA.out))
  have HD := hide (fun (w' : World) (hb : Below w.heap.size w w') => snapFaultI (hv.later hb))
  have HBad := hide (@dfF_bad r xs)
  have HOk := hide (@dfF_ok r xs)
  obtain ⟨Z, hZ⟩ : ∃ Z, rfF r = Z := ⟨_, rfl⟩
  obtain ⟨C, hC⟩ : ∃ C, dfF r xs = C := ⟨_, rfl⟩
  obtain ⟨D, hD⟩ : ∃ D, daF xs = D := ⟨_, rfl⟩
  rw [hZ] at HF HBad HOk
  rw [hC] at HBad HOk ⊢
  rw [hD] at HOk HD
  clear hZ hC hD hy hz hv
  generalize xs.length = q at *
  generalize r.sn.length = l at *
  generalize r.lg.length = m at *
  generalize r.tm = a at *
  generalize r.vt = b at *
  generalize r.si = c at *
  generalize r.st = d at *
  go_enter Tryz.func95, Tryz.ntmps95
  go_wp2_with fail
  refine HF.out.mono ?_
  rintro e w1 ⟨rfl, hb⟩
  have BB := hide (below_on BA.out hb)
  clear hb
  by_cases h0 : Z = 0
  · subst h0
    obtain rfl := HOk.out (by first | trivial | rfl)
    go_wp2_with fail
    refine (HD.out _ BB.out).mono ?_
    rintro e w2 ⟨rfl, qd, hw2⟩
    have BC : Hid (Below w.heap.size w w2) := by rw [hw2]; exact below_on BB.out (below_drewN _ _)
    clear hw2
    go_wp2
    go_ret
    exact ⟨rfl, BC.out⟩
  · obtain rfl := HBad.out h0
    have h0b : (C == 0) = false := by simpa using h0
    have h0c : (C != 0) = true := by simp [h0]
    clear h0
    go_wp2
    go_ret
    exact ⟨rfl, BB.out⟩
set_option maxHeartbeats 4000000 in
set_option maxRecDepth 4000 in
theorem snappedI {S T : Nat → Prop} {w : World} {y z : Value} {xs : List Int} {ps : List Oj} (a b c d x t : Int) (a1 a2 a3 : Option Addr) (l1 c1 l2 c2 l3 c3 : Nat) (hy : RdI S w y xs) (hz : RdJ T w z ps) (hm : xs.length ≤ 1048576) (hm' : ps.length ≤ 1048576) (hl' : ∀ i, i < ps.length → (ps.getD i oj0).2.2.length ≤ 1048576) :
    Calls Tryz.prog 97 #[.agg #[.int .i64 a, .int .i64 b, .int .i64 c, .int .i64 d, .slice a1 l1 c1, .slice a2 l2 c2], .agg #[.int .i64 x, .int .i64 t, .slice a3 l3 c3], y, z] w fun e w' => ∃ y' z', e = .returned (.agg #[.int .i64 a, .int .i64 b, .int .i64 x, .int .i64 t, y', z']) ∧ Below w.heap.size w w' ∧ IvR w.heap.size w'.heap.size w' y' z' xs ps := by
  have HCp := hide (fun (w' : World) (hb : Below w.heap.size w w') => copyRaftI a b x t (hy.later hb) (hz.later hb) hm hm' hl')
  obtain ⟨ay, cy, rfl⟩ := hy.shape
  obtain ⟨az, cz, rfl, _⟩ := hz.shape
  obtain ⟨l, hl⟩ : ∃ l, xs.length = l := ⟨_, rfl⟩
  obtain ⟨m, hme⟩ : ∃ m, ps.length = m := ⟨_, rfl⟩
  rw [hl] at HCp ⊢
  rw [hme] at HCp ⊢
  have HL := hide hl
  have HME := hide hme
  clear hy hz hm hm' hl' hl hme
  go_enter Tryz.func97, Tryz.ntmps97
  go_wp2_with fail
  refine forget (fun W => Var3 W (w.heap.size + 1) (.int .i64 x) (.int .i64 t) (.slice a3 l3 c3) ∧ Var6 W (w.heap.size + 2) (.int .i64 0) (.int .i64 0) (.int .i64 0) (.int .i64 0) (.slice none 0 0) (.slice none 0 0) ∧ Var6 W (w.heap.size + 3) (.int .i64 a) (.int .i64 b) (.int .i64 c) (.int .i64 d) (.slice a1 l1 c1) (.slice a2 l2 c2) ∧ (∀ o, W.frozen? ⟨w.heap.size + 2, o, none⟩ = false) ∧ (∀ o, W.frozen? ⟨w.heap.size + 3, o, none⟩ = false) ∧ Below w.heap.size w W ∧ W.heap.size = w.heap.size + 4) ?s0 ?_
  case s0 =>
    refine ⟨?_, ?_, ?_, ?_, ?_, ?_, ?_⟩
    · refine ⟨?_, ?_, ?_⟩ <;> simp [go_sem]
    · refine ⟨?_, ?_, ?_, ?_, ?_, ?_⟩ <;> simp [go_sem]
    · refine ⟨?_, ?_, ?_, ?_, ?_, ?_⟩ <;> simp [go_sem]
    · intro o; simp [go_sem]
    · intro o; simp [go_sem]
    · exact below_on (below_on (below_on (below_alloc _ _) (below_alloc _ _)) (below_alloc _ _)) (below_alloc _ _)
    · simp
  rintro W ⟨⟨e0, e1, e2⟩, ⟨r0, r1, r2, r3, r4, r5⟩, ⟨n0, n1, n2, n3, n4, n5⟩, hf, hg, hbW, hsW⟩
  have f0 := hf 0
  have f1 := hf 1
  have f2 := hf 2
  have f3 := hf 3
  have f4 := hf 4
  have f5 := hf 5
  have g2 := hg 2
  have g3 := hg 3
  have g4 := hg 4
  have g5 := hg 5
  have HB := hide hbW
  have HS := hide hsW
  clear hbW hsW
  have BX : Hid (Below w.heap.size w ((((W.setCell ⟨w.heap.size + 3, 2, none⟩ (.int .i64 x)).setCell ⟨w.heap.size + 3, 3, none⟩ (.int .i64 t)).setCell ⟨w.heap.size + 3, 4, none⟩ (.slice ay l cy)).setCell ⟨w.heap.size + 3, 5, none⟩ (.slice az m cz)).drew) := below_on ((((HB.out.setCell (p := ⟨w.heap.size + 3, 2, none⟩) (by simp) (.int .i64 x)).setCell (p := ⟨w.heap.size + 3, 3, none⟩) (by simp) (.int .i64 t)).setCell (p := ⟨w.heap.size + 3, 4, none⟩) (by simp) (.slice ay l cy)).setCell (p := ⟨w.heap.size + 3, 5, none⟩) (by simp) (.slice az m cz)) (below_drewN _ 1)
  have RX : Hid (Var6 ((((W.setCell ⟨w.heap.size + 3, 2, none⟩ (.int .i64 x)).setCell ⟨w.heap.size + 3, 3, none⟩ (.int .i64 t)).setCell ⟨w.heap.size + 3, 4, none⟩ (.slice ay l cy)).setCell ⟨w.heap.size + 3, 5, none⟩ (.slice az m cz)).drew (w.heap.size + 2) (.int .i64 0) (.int .i64 0) (.int .i64 0) (.int .i64 0) (.slice none 0 0) (.slice none 0 0)) := by
    refine ⟨?_, ?_, ?_, ?_, ?_, ?_⟩ <;> simp [go_sem, r0, r1, r2, r3, r4, r5]
  have FX : Hid (∀ o, ((((W.setCell ⟨w.heap.size + 3, 2, none⟩ (.int .i64 x)).setCell ⟨w.heap.size + 3, 3, none⟩ (.int .i64 t)).setCell ⟨w.heap.size + 3, 4, none⟩ (.slice ay l cy)).setCell ⟨w.heap.size + 3, 5, none⟩ (.slice az m cz)).drew.frozen? ⟨w.heap.size + 2, o, none⟩ = false) := fun o => by simp [go_sem, hf o]
  have SX : Hid (((((W.setCell ⟨w.heap.size + 3, 2, none⟩ (.int .i64 x)).setCell ⟨w.heap.size + 3, 3, none⟩ (.int .i64 t)).setCell ⟨w.heap.size + 3, 4, none⟩ (.slice ay l cy)).setCell ⟨w.heap.size + 3, 5, none⟩ (.slice az m cz)).drew.heap.size = w.heap.size + 4) := by simp [Hid, HS.out]
  clear hf hg
  go_region
  go_wp2_with fail
  refine (HCp.out _ BX.out).mono ?_
  rintro e w2 ⟨y2, z2, rfl, hb, ho⟩
  have hs4 := SX.out
  have hz2 := hb.size
  rw [hs4] at hz2
  have ho4 := hide ho
  clear ho
  have R2 := hide (RX.out.later hb)
  have F2 : ∀ o, w2.frozen? ⟨w.heap.size + 2, o, none⟩ = false := fun o => ((bcell hb).2 _ _ (by rw [hs4]; simp)).trans (FX.out o)
  have B2 := hide (below_on BX.out hb)
  obtain ⟨a5, k5, b5, j5, hy5, hz5⟩ := ho4.out.shape
  rw [HL.out] at hy5
  rw [HME.out] at hz5
  subst hy5
  subst hz5
  rw [hs4] at ho4
  clear hb hs4 RX FX SX BX r0 n0 f0 r1 n1 f1 r2 n2 f2 r3 n3 f3 r4 n4 f4 r5 n5 f5 e0 e1 e2 g2 g3 g4 g5
  obtain ⟨r0, r1, r2, r3, r4, r5⟩ := R2.out
  have f0 := F2 0
  have f1 := F2 1
  have f2 := F2 2
  have f3 := F2 3
  have f4 := F2 4
  have f5 := F2 5
  clear F2
  go_wp2
  refine bodyPost_ret (v := .agg #[.int .i64 a, .int .i64 b, .int .i64 x, .int .i64 t, .slice a5 l k5, .slice b5 m j5]) (by simp [results, Tryz.results97, go_sem, r0, r1, r2, r3, r4, r5]) rfl ⟨_, _, rfl, ?_, ?_⟩
  · repeat (first | refine Below.setCell ?_ (by first | (simp; done) | (simp; omega) | omega) _ | exact B2.out)
  · refine IvR.up (IvR.wr (T := fun q => q = w.heap.size + 2) ho4.out (w' := _) ?_ (fun q h1 h2 e => by omega)) (by omega) (by simp)
    repeat (first | refine Wr.setCell ?_ (by rfl) _ | exact Wr.refl _ _)
end Go.Proofs.YtlljcajfdeiigaaGreatDoor
/- Chapter 10: the term at an index, of the program and of the model, walked. Made by program (genrt3.py). -/
namespace Go.Proofs.YtlljcajfdeiigaaGreatDoor
open Go.RowKit

theorem trm_at {r : Rf} {i : Int} (h1 : r.si ≤ i) (h2 : i ≤ lastR r) : (trmL r).getD (i - r.si).toNat 0 = tmV r i := by
  have hc : tmC r i = 0 := by unfold tmC; rw [if_neg (by omega), if_neg (by omega)]
  unfold tmV trmL
  rw [if_pos hc]
  by_cases h : i = r.si
  · rw [if_pos h, h]; simp
  · rw [if_neg h]
    obtain ⟨k, hk⟩ : ∃ k, (i - r.si).toNat = k + 1 := ⟨(i - r.si).toNat - 1, by omega⟩
    have hl : lastR r = r.si + (r.lg.length : Int) := rfl
    have hk2 : (i - r.si - 1).toNat = k := by omega
    have hkl : k < r.lg.length := by omega
    rw [hk, hk2]
    simp [List.getD, hkl]
theorem ta_bad {r : Rf} {i : Int} (h : rfF r ≠ 0) : taC r i = rfF r ∧ taV r i = 0 := by unfold taC taV; rw [if_neg h, if_neg h]; exact ⟨rfl, rfl⟩
theorem ta_ok {r : Rf} {i : Int} (h : rfF r = 0) : taC r i = tmC r i ∧ taV r i = tmV r i := by unfold taC taV; rw [if_pos h, if_pos h]; exact ⟨rfl, rfl⟩
theorem tm_lo {r : Rf} {i : Int} (h : i < r.si) : tmC r i = 6 ∧ tmV r i = 0 := by
  have hc : tmC r i = 6 := by unfold tmC; rw [if_pos h]
  refine ⟨hc, ?_⟩
  unfold tmV; rw [hc]; rfl
theorem tm_hi {r : Rf} {i : Int} (h0 : ¬ i < r.si) (h : lastR r < i) : tmC r i = 4 ∧ tmV r i = 0 := by
  have hc : tmC r i = 4 := by unfold tmC; rw [if_neg h0, if_pos h]
  refine ⟨hc, ?_⟩
  unfold tmV; rw [hc]; rfl
theorem tm_in {r : Rf} {i : Int} (h0 : ¬ i < r.si) (h : ¬ lastR r < i) : tmC r i = 0 := by unfold tmC; rw [if_neg h0, if_neg h]

/-- A code with a number, laid down in the variable of the result. -/
theorem ret_two {w w3 : World} {r : Nat} {x y : Value} (hb : Below w.heap.size w w3) (hr : w.heap.size ≤ r) : Below w.heap.size w ((w3.setCell ⟨r, 0, none⟩ x).setCell ⟨r, 1, none⟩ y) :=
  (hb.setCell (p := ⟨r, 0, none⟩) hr _).setCell (p := ⟨r, 1, none⟩) hr _

set_option maxHeartbeats 4000000 in
set_option maxRecDepth 4000 in
theorem implTermAt {S T : Nat → Prop} {w : World} {y z : Value} (r : Rf) (i : Int) (hg : Gl w) (hy : RdI S w y r.sn) (hz : RdJ T w z r.lg) :
    Calls Tryz.prog 85 #[.agg #[.int .i64 r.tm, .int .i64 r.vt, .int .i64 r.si, .int .i64 r.st, y, z], .int .i64 i] w fun e w' => e = .returned (.agg #[.int .i64 (taC r i), .int .i64 (taV r i)]) ∧ Below w.heap.size w w' := by
  obtain ⟨ay, cy, rfl⟩ := hy.shape
  obtain ⟨az, cz, rfl, _⟩ := hz.shape
  have HG := hide hg
  have HF := hide (fun (w' : World) (hb : Below w.heap.size w w') => implRaftFault r (hy.later hb) (hz.later hb))
  have HT := hide (fun (hm : r.lg.length ≤ 14) (w' : World) (hb : Below w.heap.size w w') => termsOfI r (hy.later hb) (hz.later hb) hm)
  have HI := hide (fun h => rfF_iff (r := r) |>.1 h)
  have HBad := hide (@ta_bad r i)
  have HOk := hide (@ta_ok r i)
  have HLo := hide (@tm_lo r i)
  have HHi := hide (@tm_hi r i)
  have HIn := hide (@tm_in r i)
  have HAt := hide (@trm_at r i)
  have HTl : Hid ((trmL r).length = r.lg.length + 1) := by simp [Hid, trmL]
  have HLast : Hid (lastR r = r.si + (r.lg.length : Int)) := rfl
  obtain ⟨Z, hZ⟩ : ∃ Z, rfF r = Z := ⟨_, rfl⟩
  obtain ⟨C, hC⟩ : ∃ C, taC r i = C := ⟨_, rfl⟩
  obtain ⟨V, hV⟩ : ∃ V, taV r i = V := ⟨_, rfl⟩
  rw [hZ] at HF HI HBad HOk
  rw [hC, hV] at HBad HOk ⊢
  clear hZ hC hV hy hz hg
  generalize r.sn.length = l at *
  obtain ⟨m, hm⟩ : ∃ m, r.lg.length = m := ⟨_, rfl⟩
  rw [hm] at HF HT HTl HLast ⊢
  have HM := hide hm
  clear hm
  have HRs := hide (fun h => (HI.out h).rg.2.1)
  obtain ⟨a, ha⟩ : ∃ a, r.tm = a := ⟨_, rfl⟩
  obtain ⟨b, hb⟩ : ∃ b, r.vt = b := ⟨_, rfl⟩
  obtain ⟨c, hc⟩ : ∃ c, r.si = c := ⟨_, rfl⟩
  obtain ⟨d, hd⟩ : ∃ d, r.st = d := ⟨_, rfl⟩
  rw [ha, hb, hc, hd] at HF HT ⊢
  rw [hc] at HLo HHi HIn HAt HRs HLast
  clear ha hb hc hd
  have BA := hide (below_on (below_alloc w (.cells #[.int .i64 a, .int .i64 b, .int .i64 c, .int .i64 d, .slice ay l cy, .slice az m cz] 32)) (below_alloc _ (.cells #[.int .i64 0, .int .i64 0] 85)))
  have VA := hide ((Var6_new w (.int .i64 a) (.int .i64 b) (.int .i64 c) (.int .i64 d) (.slice ay l cy) (.slice az m cz) 32).later (below_alloc _ (.cells #[.int .i64 0, .int .i64 0] 85)))
  have RA : Hid (((w.alloc (.cells #[.int .i64 a, .int .i64 b, .int .i64 c, .int .i64 d, .slice ay l cy, .slice az m cz] 32)).alloc (.cells #[.int .i64 0, .int .i64 0] 85)).cell? ⟨w.heap.size + 1, 0, none⟩ = some (.int .i64 0) ∧ ((w.alloc (.cells #[.int .i64 a, .int .i64 b, .int .i64 c, .int .i64 d, .slice ay l cy, .slice az m cz] 32)).alloc (.cells #[.int .i64 0, .int .i64 0] 85)).cell? ⟨w.heap.size + 1, 1, none⟩ = some (.int .i64 0) ∧ (∀ o, ((w.alloc (.cells #[.int .i64 a, .int .i64 b, .int .i64 c, .int .i64 d, .slice ay l cy, .slice az m cz] 32)).alloc (.cells #[.int .i64 0, .int .i64 0] 85)).frozen? ⟨w.heap.size + 1, o, none⟩ = false) ∧ w.heap.size + 1 < ((w.alloc (.cells #[.int .i64 a, .int .i64 b, .int .i64 c, .int .i64 d, .slice ay l cy, .slice az m cz] 32)).alloc (.cells #[.int .i64 0, .int .i64 0] 85)).heap.size) := by
    refine ⟨?_, ?_, ?_, ?_⟩
    · simp [go_sem]
    · simp [go_sem]
    · intro o; simp [go_sem]
    · simp
  obtain ⟨W, hW⟩ : ∃ W, (w.alloc (.cells #[.int .i64 a, .int .i64 b, .int .i64 c, .int .i64 d, .slice ay l cy, .slice az m cz] 32)).alloc (.cells #[.int .i64 0, .int .i64 0] 85) = W := ⟨_, rfl⟩
  rw [hW] at BA VA RA
  obtain ⟨v0, v1, v2, v3, v4, v5⟩ := VA.out
  go_enter Tryz.func85, Tryz.ntmps85
  go_wp2_with fail
  clear hW
  refine (HF.out _ BA.out).mono ?_
  rintro e w1 ⟨rfl, hb⟩
  have BB := hide (below_on BA.out hb)
  have VB := hide (VA.out.later hb)
  have RB : Hid (w1.cell? ⟨w.heap.size + 1, 0, none⟩ = some (.int .i64 0) ∧ w1.cell? ⟨w.heap.size + 1, 1, none⟩ = some (.int .i64 0) ∧ (∀ o, w1.frozen? ⟨w.heap.size + 1, o, none⟩ = false) ∧ w.heap.size + 1 < w1.heap.size) :=
    ⟨cell_later hb RA.out.1, cell_later hb RA.out.2.1, fun o => ((bcell hb).2 _ _ RA.out.2.2.2).trans (RA.out.2.2.1 o), Nat.lt_of_lt_of_le RA.out.2.2.2 hb.size⟩
  clear hb v0 v1 v2 v3 v4 v5 VA RA BA
  by_cases h0 : Z = 0
  · subst h0
    obtain ⟨hCe, hVe⟩ := HOk.out (by first | trivial | rfl)
    have HCe := hide hCe
    have HVe := hide hVe
    clear hCe hVe
    have hml : m ≤ 14 := by rw [← HM.out]; exact (logF_iff.1 (HI.out (by first | trivial | rfl)).lo).1
    have HRg := hide (HRs.out (by first | trivial | rfl))
    have HTt := hide (HT.out hml)
    obtain ⟨v0, v1, v2, v3, v4, v5⟩ := VB.out
    go_wp2_with fail
    refine (HTt.out _ BB.out).mono ?_
    rintro e w2 ⟨u, rfl, hb, hu⟩
    have BC := hide (below_on BB.out hb)
    have RC : Hid (w2.cell? ⟨w.heap.size + 1, 0, none⟩ = some (.int .i64 0) ∧ w2.cell? ⟨w.heap.size + 1, 1, none⟩ = some (.int .i64 0) ∧ (∀ o, w2.frozen? ⟨w.heap.size + 1, o, none⟩ = false) ∧ w.heap.size + 1 < w2.heap.size) :=
      ⟨cell_later hb RB.out.1, cell_later hb RB.out.2.1, fun o => ((bcell hb).2 _ _ RB.out.2.2.2).trans (RB.out.2.2.1 o), Nat.lt_of_lt_of_le RB.out.2.2.2 hb.size⟩
    have HU := hide hu
    obtain ⟨au, cu, hue⟩ := hu.shape
    rw [HTl.out] at hue
    subst hue
    clear hb hu v0 v1 v2 v3 v4 v5 VB RB BB
    obtain ⟨⟨pa, hpa⟩, hp2⟩ := HG.out.later BC.out
    have HPa := hide hpa
    clear hpa hp2
    by_cases hlo : i < c
    · have HAt1 := hide (atLoI c i au (m + 1) cu hlo)
      have hCV : (6 : Int) = C ∧ (0 : Int) = V := ⟨by rw [HCe.out]; exact (HLo.out hlo).1.symm, by rw [HVe.out]; exact (HLo.out hlo).2.symm⟩
      obtain ⟨rfl, rfl⟩ := hCV
      clear hlo
      go_wp2_with fail
      refine (HAt1.out _).mono ?_
      rintro e w3 ⟨rfl, hb⟩
      have BD := hide (below_on BC.out hb)
      have RD : Hid (w3.cell? ⟨w.heap.size + 1, 0, none⟩ = some (.int .i64 0) ∧ w3.cell? ⟨w.heap.size + 1, 1, none⟩ = some (.int .i64 0) ∧ (∀ o, w3.frozen? ⟨w.heap.size + 1, o, none⟩ = false) ∧ w.heap.size + 1 < w3.heap.size) :=
        ⟨cell_later hb RC.out.1, cell_later hb RC.out.2.1, fun o => ((bcell hb).2 _ _ RC.out.2.2.2).trans (RC.out.2.2.1 o), Nat.lt_of_lt_of_le RC.out.2.2.2 hb.size⟩
      clear hb
      go_wp2_with fail
      refine (codeOver c _ (HG.out.later BD.out)).mono ?_
      rintro e w4 ⟨rfl, hb⟩
      have BE := hide (below_on BD.out hb)
      have RE : Hid (w4.cell? ⟨w.heap.size + 1, 0, none⟩ = some (.int .i64 0) ∧ w4.cell? ⟨w.heap.size + 1, 1, none⟩ = some (.int .i64 0) ∧ (∀ o, w4.frozen? ⟨w.heap.size + 1, o, none⟩ = false) ∧ w.heap.size + 1 < w4.heap.size) :=
        ⟨cell_later hb RD.out.1, cell_later hb RD.out.2.1, fun o => ((bcell hb).2 _ _ RD.out.2.2.2).trans (RD.out.2.2.1 o), Nat.lt_of_lt_of_le RD.out.2.2.2 hb.size⟩
      clear hb
      obtain ⟨e0, e1, ef, el⟩ := RE.out
      have f0 := ef 0
      have f1 := ef 1
      have HN := hide (ret_two (r := w.heap.size + 1) (x := .int .i64 6) (y := .int .i64 0) BE.out (Nat.le_succ _))
      go_wp2
      refine bodyPost_ret (v := .agg #[.int .i64 6, .int .i64 0]) (by simp [results, Tryz.results85, go_sem, e0, e1]) rfl ⟨rfl, HN.out⟩
    · by_cases hhi : c + (m : Int) < i
      · have HAt1 := hide (atHiI c i au (m + 1) cu HRg.out.1 (by have := HRg.out.2; omega) (by omega) (by push_cast; omega) _ pa HPa.out)
        have hCV : (4 : Int) = C ∧ (0 : Int) = V := ⟨by rw [HCe.out]; exact (HHi.out (by omega) (by rw [HLast.out]; omega)).1.symm, by rw [HVe.out]; exact (HHi.out (by omega) (by rw [HLast.out]; omega)).2.symm⟩
        obtain ⟨rfl, rfl⟩ := hCV
        clear hlo hhi
        go_wp2_with fail
        refine HAt1.out.mono ?_
        rintro e w3 ⟨rfl, hb⟩
        have HPb := hide (cell_later hb HPa.out)
        have BD := hide (below_on BC.out hb)
        have RD : Hid (w3.cell? ⟨w.heap.size + 1, 0, none⟩ = some (.int .i64 0) ∧ w3.cell? ⟨w.heap.size + 1, 1, none⟩ = some (.int .i64 0) ∧ (∀ o, w3.frozen? ⟨w.heap.size + 1, o, none⟩ = false) ∧ w.heap.size + 1 < w3.heap.size) :=
          ⟨cell_later hb RC.out.1, cell_later hb RC.out.2.1, fun o => ((bcell hb).2 _ _ RC.out.2.2.2).trans (RC.out.2.2.1 o), Nat.lt_of_lt_of_le RC.out.2.2.2 hb.size⟩
        clear hb
        go_wp2_with fail
        refine (codeYet pa _ (HG.out.later BD.out) HPb.out).mono ?_
        rintro e w4 ⟨rfl, hb⟩
        have BE := hide (below_on BD.out hb)
        have RE : Hid (w4.cell? ⟨w.heap.size + 1, 0, none⟩ = some (.int .i64 0) ∧ w4.cell? ⟨w.heap.size + 1, 1, none⟩ = some (.int .i64 0) ∧ (∀ o, w4.frozen? ⟨w.heap.size + 1, o, none⟩ = false) ∧ w.heap.size + 1 < w4.heap.size) :=
          ⟨cell_later hb RD.out.1, cell_later hb RD.out.2.1, fun o => ((bcell hb).2 _ _ RD.out.2.2.2).trans (RD.out.2.2.1 o), Nat.lt_of_lt_of_le RD.out.2.2.2 hb.size⟩
        clear hb
        obtain ⟨e0, e1, ef, el⟩ := RE.out
        have f0 := ef 0
        have f1 := ef 1
        have HN := hide (ret_two (r := w.heap.size + 1) (x := .int .i64 4) (y := .int .i64 0) BE.out (Nat.le_succ _))
        go_wp2
        refine bodyPost_ret (v := .agg #[.int .i64 4, .int .i64 0]) (by simp [results, Tryz.results85, go_sem, e0, e1]) rfl ⟨rfl, HN.out⟩
      · have HAt1 := hide (atInI c i HU.out HRg.out.1 (by have := HRg.out.2; omega) (by rw [HTl.out]; omega) (by omega) (by rw [HTl.out]; push_cast; omega))
        have hCV : (0 : Int) = C := by rw [HCe.out]; exact (HIn.out (by omega) (by rw [HLast.out]; omega)).symm
        subst hCV
        rw [HAt.out (by omega) (by rw [HLast.out]; omega), ← HVe.out] at HAt1
        clear hlo hhi
        go_wp2_with fail
        refine HAt1.out.mono ?_
        rintro e w3 ⟨rfl, hb⟩
        have BD := hide (below_on BC.out hb)
        have RD : Hid (w3.cell? ⟨w.heap.size + 1, 0, none⟩ = some (.int .i64 0) ∧ w3.cell? ⟨w.heap.size + 1, 1, none⟩ = some (.int .i64 0) ∧ (∀ o, w3.frozen? ⟨w.heap.size + 1, o, none⟩ = false) ∧ w.heap.size + 1 < w3.heap.size) :=
          ⟨cell_later hb RC.out.1, cell_later hb RC.out.2.1, fun o => ((bcell hb).2 _ _ RC.out.2.2.2).trans (RC.out.2.2.1 o), Nat.lt_of_lt_of_le RC.out.2.2.2 hb.size⟩
        clear hb
        go_wp2_with fail
        refine (codeNil _ (HG.out.later BD.out)).mono ?_
        rintro e w4 ⟨rfl, hb⟩
        have BE := hide (below_on BD.out hb)
        have RE : Hid (w4.cell? ⟨w.heap.size + 1, 0, none⟩ = some (.int .i64 0) ∧ w4.cell? ⟨w.heap.size + 1, 1, none⟩ = some (.int .i64 0) ∧ (∀ o, w4.frozen? ⟨w.heap.size + 1, o, none⟩ = false) ∧ w.heap.size + 1 < w4.heap.size) :=
          ⟨cell_later hb RD.out.1, cell_later hb RD.out.2.1, fun o => ((bcell hb).2 _ _ RD.out.2.2.2).trans (RD.out.2.2.1 o), Nat.lt_of_lt_of_le RD.out.2.2.2 hb.size⟩
        clear hb
        obtain ⟨e0, e1, ef, el⟩ := RE.out
        have f0 := ef 0
        have f1 := ef 1
        have HN := hide (ret_two (r := w.heap.size + 1) (x := .int .i64 0) (y := .int .i64 V) BE.out (Nat.le_succ _))
        go_wp2
        refine bodyPost_ret (v := .agg #[.int .i64 0, .int .i64 V]) (by simp [results, Tryz.results85, go_sem, e0, e1]) rfl ⟨rfl, HN.out⟩
  · obtain ⟨hCe, hVe⟩ := HBad.out h0
    subst hCe
    subst hVe
    have h0b : (C == 0) = false := by simpa using h0
    obtain ⟨e0, e1, ef, el⟩ := RB.out
    have f0 := ef 0
    have f1 := ef 1
    have HN := hide (ret_two (r := w.heap.size + 1) (x := .int .i64 C) (y := .int .i64 0) BB.out (Nat.le_succ _))
    go_wp2
    refine bodyPost_ret (v := .agg #[.int .i64 C, .int .i64 0]) (by simp [results, Tryz.results85, go_sem, e0, e1]) rfl ⟨rfl, HN.out⟩


set_option maxHeartbeats 1000000 in
theorem l10LastI {w : World} {bk : Nat} {a b c d : Int} {ay az : Option Addr} {l m cy cz : Nat} (hv : Var6 w bk (.int .i64 a) (.int .i64 b) (.int .i64 c) (.int .i64 d) (.slice ay l cy) (.slice az m cz)) (h0 : 0 ≤ c) (h1 : c ≤ 9999) (h2 : m ≤ 14) :
    Calls Tryz.prog 87 #[.pointer (some ⟨bk, 0, none⟩)] w fun e w' => e = .returned (.int .i64 (c + m)) ∧ ∃ q, w' = w.drewN q := by
  obtain ⟨v0, v1, v2, v3, v4, v5⟩ := hv
  have hw : IntKind.i64.wrap (c + (m : Int)) = c + m := by simp [IntKind.wrap, IntKind.bits, IntKind.signed]; omega
  go_enter Tryz.func87, Tryz.ntmps87
  go_wp2_with fail
  go_quiet (fail)
  go_wp2
  go_ret
  exact ⟨rfl, nq, rfl⟩
set_option maxHeartbeats 4000000 in
set_option maxRecDepth 4000 in
/-- 'spec.l10Term' of a store without a fault. -/
theorem l10TermI {T : Nat → Prop} {w : World} {bk : Nat} {y z : Value} (r : Rf) (i : Int) (hr : IsRf r) (hv : Var6 w bk (.int .i64 r.tm) (.int .i64 r.vt) (.int .i64 r.si) (.int .i64 r.st) y z) (hyl : ∃ ao l c, y = .slice ao l c) (hz : RdJ T w z r.lg) :
    Calls Tryz.prog 71 #[.pointer (some ⟨bk, 0, none⟩), .int .i64 i] w fun e w' => e = .returned (.tuple #[.int .i64 (tmV r i), .int .i64 (tmC r i)]) ∧ ∃ q, w' = w.drewN q := by
  obtain ⟨ay, l, cy, rfl⟩ := hyl
  have HZ := hide hz
  have hml : r.lg.length ≤ 14 := (logF_iff.1 hr.lo).1
  have hsi := hr.rg.2.1
  have HLo := hide (@tm_lo r i)
  have HHi := hide (@tm_hi r i)
  have HIn := hide (@tm_in r i)
  have HAt : Hid (tmC r i = 0 → tmV r i = if i = r.si then r.st else (r.lg.getD (i - r.si - 1).toNat oj0).2.1) := fun h => by unfold tmV; rw [if_pos h]
  have HLast : Hid (lastR r = r.si + (r.lg.length : Int)) := rfl
  obtain ⟨az, cz, rfl, _⟩ := hz.shape
  obtain ⟨C, hC⟩ : ∃ C, tmC r i = C := ⟨_, rfl⟩
  obtain ⟨V, hV⟩ : ∃ V, tmV r i = V := ⟨_, rfl⟩
  rw [hC] at HLo HHi HIn HAt
  rw [hV] at HLo HHi HAt
  rw [hC, hV]
  obtain ⟨m, hm⟩ : ∃ m, r.lg.length = m := ⟨_, rfl⟩
  rw [hm] at hv hml HLast HZ
  have HM := hide hm
  have VA := hide hv
  clear hm hv hz hC hV hr
  obtain ⟨c, hc⟩ : ∃ c, r.si = c := ⟨_, rfl⟩
  rw [hc] at VA HLo HHi HIn HAt HLast hsi
  clear hc
  generalize r.tm = a at *
  generalize r.vt = b at *
  obtain ⟨d, hd⟩ : ∃ d, r.st = d := ⟨_, rfl⟩
  rw [hd] at VA HAt
  clear hd
  have HL := hide (fun (w' : World) (hb : Below w.heap.size w w') => l10LastI (VA.out.later hb) hsi.1 hsi.2 hml)
  obtain ⟨v0, v1, v2, v3, v4, v5⟩ := VA.out
  by_cases hlo : i < c
  · have hCV : (6 : Int) = C ∧ (0 : Int) = V := ⟨(HLo.out hlo).1.symm, (HLo.out hlo).2.symm⟩
    obtain ⟨rfl, rfl⟩ := hCV
    go_enter Tryz.func71, Tryz.ntmps71
    go_wp2
    refine bodyPost_ret (v := .tuple #[.int .i64 0, .int .i64 6]) (by simp [results, Tryz.results71, go_sem]) rfl ⟨rfl, 0, rfl⟩
  · obtain ⟨s, hs⟩ : ∃ s, c + (m : Int) = s := ⟨_, rfl⟩
    rw [hs] at HL HLast
    by_cases hhi : s < i
    · have hCV : (4 : Int) = C ∧ (0 : Int) = V := ⟨(HHi.out hlo (by rw [HLast.out]; exact hhi)).1.symm, (HHi.out hlo (by rw [HLast.out]; exact hhi)).2.symm⟩
      obtain ⟨rfl, rfl⟩ := hCV
      go_enter Tryz.func71, Tryz.ntmps71
      go_wp2_with fail
      refine (HL.out _ (Below.refl _ _)).mono ?_
      rintro e w1 ⟨rfl, q, rfl⟩
      go_wp2
      refine bodyPost_ret (v := .tuple #[.int .i64 0, .int .i64 4]) (by simp [results, Tryz.results71, go_sem]) rfl ⟨rfl, q, rfl⟩
    · have hC0 : (0 : Int) = C := (HIn.out hlo (by rw [HLast.out]; exact hhi)).symm
      subst hC0
      have hVe := HAt.out rfl
      by_cases he : i = c
      · rw [if_pos he] at hVe
        subst hVe
        subst he
        go_enter Tryz.func71, Tryz.ntmps71
        go_wp2_with fail
        refine (HL.out _ (Below.refl _ _)).mono ?_
        rintro e w1 ⟨rfl, q, rfl⟩
        go_wp2
        refine bodyPost_ret (v := .tuple #[.int .i64 V, .int .i64 0]) (by simp [results, Tryz.results71, go_sem]) rfl ⟨rfl, q, rfl⟩
      · rw [if_neg he] at hVe
        obtain ⟨j, hj⟩ : ∃ j, (i - c - 1).toNat = j := ⟨_, rfl⟩
        have hjm : j < m := by omega
        obtain ⟨bb, off, rfl, y0, q0, q1, q2, q3⟩ := HZ.out.file (k := j) (by rw [HM.out]; exact hjm)
        rw [hj] at hVe
        rw [← hVe] at q1
        have hw1 : IntKind.i64.wrap (i - c) = i - c := by simp [IntKind.wrap, IntKind.bits, IntKind.signed]; omega
        have hw2 : IntKind.i64.wrap (i - c - 1) = (j : Int) := by simp [IntKind.wrap, IntKind.bits, IntKind.signed]; omega
        have hj0 : (0 : Int) ≤ (j : Int) := by omega
        have hj1 : (j : Int) < (m : Int) := by omega
        have heb : (i == c) = false := by simpa using he
        have hec : decide (i = c) = false := by simpa using he
        clear q0 q2 q3 hVe hj hjm he hsi hml
        go_enter Tryz.func71, Tryz.ntmps71
        go_wp2_with fail
        refine (HL.out _ (Below.refl _ _)).mono ?_
        rintro e w1 ⟨rfl, q, rfl⟩
        go_wp2_with fail
        go_quiet (fail)
        go_wp2
        refine bodyPost_ret (v := .tuple #[.int .i64 V, .int .i64 0]) (by simp [results, Tryz.results71, go_sem]) rfl ⟨rfl, _, World.drewN_drewN _ _ _⟩

set_option maxHeartbeats 4000000 in
set_option maxRecDepth 4000 in
theorem specTermAt {S T : Nat → Prop} {w : World} {y z : Value} (r : Rf) (i : Int) (hy : RdI S w y r.sn) (hz : RdJ T w z r.lg) :
    Calls Tryz.prog 50 #[.agg #[.int .i64 r.tm, .int .i64 r.vt, .int .i64 r.si, .int .i64 r.st, y, z], .int .i64 i] w fun e w' => e = .returned (.agg #[.int .i64 (taC r i), .int .i64 (taV r i)]) ∧ Below w.heap.size w w' := by
  obtain ⟨ay, cy, rfl⟩ := hy.shape
  obtain ⟨az, cz, rfl, _⟩ := hz.shape
  have BA0 := below_on (below_alloc w (.cells #[.int .i64 r.tm, .int .i64 r.vt, .int .i64 r.si, .int .i64 r.st, .slice ay r.sn.length cy, .slice az r.lg.length cz] 32)) (below_alloc _ (.cells #[.int .i64 0, .int .i64 0] 85))
  have VA0 := (Var6_new w (.int .i64 r.tm) (.int .i64 r.vt) (.int .i64 r.si) (.int .i64 r.st) (.slice ay r.sn.length cy) (.slice az r.lg.length cz) 32).later (below_alloc _ (.cells #[.int .i64 0, .int .i64 0] 85))
  have HF := hide (l10Fault r VA0 (hy.later BA0) (hz.later BA0))
  have HT := hide (fun (w' : World) (hb : Below ((w.alloc (.cells #[.int .i64 r.tm, .int .i64 r.vt, .int .i64 r.si, .int .i64 r.st, .slice ay r.sn.length cy, .slice az r.lg.length cz] 32)).alloc (.cells #[.int .i64 0, .int .i64 0] 85)).heap.size ((w.alloc (.cells #[.int .i64 r.tm, .int .i64 r.vt, .int .i64 r.si, .int .i64 r.st, .slice ay r.sn.length cy, .slice az r.lg.length cz] 32)).alloc (.cells #[.int .i64 0, .int .i64 0] 85)) w') (h : rfF r = 0) => l10TermI r i (rfF_iff.1 h) (VA0.later hb) ⟨_, _, _, rfl⟩ (hz.later (below_on BA0 hb)))
  have BA := hide BA0
  clear BA0 VA0
  have HBad := hide (@ta_bad r i)
  have HOk := hide (@ta_ok r i)
  obtain ⟨Z, hZ⟩ : ∃ Z, rfF r = Z := ⟨_, rfl⟩
  obtain ⟨C, hC⟩ : ∃ C, taC r i = C := ⟨_, rfl⟩
  obtain ⟨V, hV⟩ : ∃ V, taV r i = V := ⟨_, rfl⟩
  obtain ⟨C', hC'⟩ : ∃ C, tmC r i = C := ⟨_, rfl⟩
  obtain ⟨V', hV'⟩ : ∃ V, tmV r i = V := ⟨_, rfl⟩
  rw [hZ] at HF HT HBad HOk
  rw [hC, hV] at HBad HOk ⊢
  rw [hC', hV'] at HOk HT
  clear hZ hC hV hC' hV' hy hz
  generalize r.sn.length = l at *
  generalize r.lg.length = m at *
  generalize r.tm = a at *
  generalize r.vt = b at *
  generalize r.si = c at *
  generalize r.st = d at *
  have RA : Hid (((w.alloc (.cells #[.int .i64 a, .int .i64 b, .int .i64 c, .int .i64 d, .slice ay l cy, .slice az m cz] 32)).alloc (.cells #[.int .i64 0, .int .i64 0] 85)).cell? ⟨w.heap.size + 1, 0, none⟩ = some (.int .i64 0) ∧ ((w.alloc (.cells #[.int .i64 a, .int .i64 b, .int .i64 c, .int .i64 d, .slice ay l cy, .slice az m cz] 32)).alloc (.cells #[.int .i64 0, .int .i64 0] 85)).cell? ⟨w.heap.size + 1, 1, none⟩ = some (.int .i64 0) ∧ (∀ o, ((w.alloc (.cells #[.int .i64 a, .int .i64 b, .int .i64 c, .int .i64 d, .slice ay l cy, .slice az m cz] 32)).alloc (.cells #[.int .i64 0, .int .i64 0] 85)).frozen? ⟨w.heap.size + 1, o, none⟩ = false) ∧ w.heap.size + 1 < ((w.alloc (.cells #[.int .i64 a, .int .i64 b, .int .i64 c, .int .i64 d, .slice ay l cy, .slice az m cz] 32)).alloc (.cells #[.int .i64 0, .int .i64 0] 85)).heap.size) := by
    refine ⟨?_, ?_, ?_, ?_⟩
    · simp [go_sem]
    · simp [go_sem]
    · intro o; simp [go_sem]
    · simp
  obtain ⟨W, hW⟩ : ∃ W, (w.alloc (.cells #[.int .i64 a, .int .i64 b, .int .i64 c, .int .i64 d, .slice ay l cy, .slice az m cz] 32)).alloc (.cells #[.int .i64 0, .int .i64 0] 85) = W := ⟨_, rfl⟩
  rw [hW] at BA RA HF HT
  go_enter Tryz.func50, Tryz.ntmps50
  go_wp2_with fail
  clear hW
  refine HF.out.mono ?_
  rintro e w1 ⟨rfl, hb⟩
  have HB1 := hide hb
  have BB := hide (below_on BA.out hb)
  have RB : Hid (w1.cell? ⟨w.heap.size + 1, 0, none⟩ = some (.int .i64 0) ∧ w1.cell? ⟨w.heap.size + 1, 1, none⟩ = some (.int .i64 0) ∧ (∀ o, w1.frozen? ⟨w.heap.size + 1, o, none⟩ = false) ∧ w.heap.size + 1 < w1.heap.size) :=
    ⟨cell_later hb RA.out.1, cell_later hb RA.out.2.1, fun o => ((bcell hb).2 _ _ RA.out.2.2.2).trans (RA.out.2.2.1 o), Nat.lt_of_lt_of_le RA.out.2.2.2 hb.size⟩
  clear hb
  by_cases h0 : Z = 0
  · subst h0
    obtain ⟨hCe, hVe⟩ := HOk.out (by first | trivial | rfl)
    subst hCe
    subst hVe
    have HTt := hide (HT.out _ HB1.out (by first | trivial | rfl))
    go_wp2_with fail
    refine HTt.out.mono ?_
    rintro e w2 ⟨rfl, q, hw2⟩
    have hb : Below w1.heap.size w1 w2 := by rw [hw2]; exact below_drewN _ _
    clear hw2
    have BE := hide (below_on BB.out hb)
    have RE : Hid (w2.cell? ⟨w.heap.size + 1, 0, none⟩ = some (.int .i64 0) ∧ w2.cell? ⟨w.heap.size + 1, 1, none⟩ = some (.int .i64 0) ∧ (∀ o, w2.frozen? ⟨w.heap.size + 1, o, none⟩ = false) ∧ w.heap.size + 1 < w2.heap.size) :=
      ⟨cell_later hb RB.out.1, cell_later hb RB.out.2.1, fun o => ((bcell hb).2 _ _ RB.out.2.2.2).trans (RB.out.2.2.1 o), Nat.lt_of_lt_of_le RB.out.2.2.2 hb.size⟩
    clear hb
    obtain ⟨e0, e1, ef, el⟩ := RE.out
    have f0 := ef 0
    have f1 := ef 1
    have HN := hide (ret_two (r := w.heap.size + 1) (x := .int .i64 C) (y := .int .i64 V) BE.out (Nat.le_succ _))
    go_wp2
    refine bodyPost_ret (v := .agg #[.int .i64 C, .int .i64 V]) (by simp [results, Tryz.results50, go_sem, e0, e1]) rfl ⟨rfl, HN.out⟩
  · obtain ⟨hCe, hVe⟩ := HBad.out h0
    subst hCe
    subst hVe
    have h0b : (C == 0) = false := by simpa using h0
    obtain ⟨e0, e1, ef, el⟩ := RB.out
    have f0 := ef 0
    have f1 := ef 1
    have HN := hide (ret_two (r := w.heap.size + 1) (x := .int .i64 C) (y := .int .i64 0) BB.out (Nat.le_succ _))
    go_wp2
    refine bodyPost_ret (v := .agg #[.int .i64 C, .int .i64 0]) (by simp [results, Tryz.results50, go_sem, e0, e1]) rfl ⟨rfl, HN.out⟩
end Go.Proofs.YtlljcajfdeiigaaGreatDoor
/- Four cells of a variable. -/
namespace Go.Proofs.YtlljcajfdeiigaaGreatDoor
open Go.RowKit

def Var4 (w : World) (b : Nat) (x y z u : Value) : Prop := w.cell? ⟨b, 0, none⟩ = some x ∧ w.cell? ⟨b, 1, none⟩ = some y ∧ w.cell? ⟨b, 2, none⟩ = some z ∧ w.cell? ⟨b, 3, none⟩ = some u
theorem Var4.later {w w' : World} {b : Nat} {x y z u : Value} (h : Var4 w b x y z u) (hb : Below w.heap.size w w') : Var4 w' b x y z u :=
  ⟨cell_later hb h.1, cell_later hb h.2.1, cell_later hb h.2.2.1, cell_later hb h.2.2.2⟩
theorem Var4.wr {S : Nat → Prop} {w w' : World} {b : Nat} {x y z u : Value} (h : Var4 w b x y z u) (hb : Wr S w w') (hd : ¬ S b) : Var4 w' b x y z u :=
  ⟨cell_wr hb h.1 hd, cell_wr hb h.2.1 hd, cell_wr hb h.2.2.1 hd, cell_wr hb h.2.2.2 hd⟩
theorem Var4.lt {w : World} {b : Nat} {x y z u : Value} (h : Var4 w b x y z u) : b < w.heap.size := World.block_lt_of_cell? _ _ h.1
theorem Var4_new (w : World) (x y z u : Value) (t : TypeId) : Var4 (w.alloc (.cells #[x, y, z, u] t)) w.heap.size x y z u := by
  refine ⟨?_, ?_, ?_, ?_⟩ <;> simp [go_sem]
theorem IvI.mono {lo hi lo' hi' : Nat} {w : World} {v : Value} {xs : List Int} (h : IvI lo hi w v xs) (h1 : lo' ≤ lo) (h2 : hi ≤ hi') : IvI lo' hi' w v xs := by
  obtain ⟨b, k1, k2⟩ := h
  exact ⟨b, k1, fun hne => ⟨Nat.le_trans h1 (k2 hne).1, Nat.lt_of_lt_of_le (k2 hne).2.1 h2, (k2 hne).2.2⟩⟩
theorem set4_other {w : World} {b h o : Nat} {x y z u : Value} (hb : b ≠ h) : ((((w.setCell ⟨h, 0, none⟩ x).setCell ⟨h, 1, none⟩ y).setCell ⟨h, 2, none⟩ z).setCell ⟨h, 3, none⟩ u).cell? ⟨b, o, none⟩ = w.cell? ⟨b, o, none⟩ := by
  rw [World.cell?_setCell_other _ _ _ _ (by intro e; injection e with e1 _; exact hb e1.symm), World.cell?_setCell_other _ _ _ _ (by intro e; injection e with e1 _; exact hb e1.symm), World.cell?_setCell_other _ _ _ _ (by intro e; injection e with e1 _; exact hb e1.symm), World.cell?_setCell_other _ _ _ _ (by intro e; injection e with e1 _; exact hb e1.symm)]
/-- Of the world that a region that draws stands in no more is kept than R. -/
theorem forgetH {P : Program} {md : Region.Mode} {ops : Array Oper} {Q : Exit → Act → World → Prop} {S : World → Prop} {fuel : Nat} {listed : Array Bool} {a : Act} {w0 : World} (R : World → Prop) (h0 : R w0) (h : ∀ w, R w → wpAnyH P md ops Q S fuel listed a w) : wpAnyH P md ops Q S fuel listed a w0 := h _ h0
end Go.Proofs.YtlljcajfdeiigaaGreatDoor
