/- Cp2 in one text: what each says stands at its head below. -/
import Derived.Test.YtlljcajfdeiigaaGreatDoorG23
/- Chapter 10: the fault of a store with data, a store with another snapshot: the program's side. Made by program (gencp2.py). -/
namespace Go.Proofs.YtlljcajfdeiigaaGreatDoor
open Go.RowKit

/-- The code of a store with data. -/
def dfF (r : Rf) (xs : List Int) : Int := if rfF r ≠ 0 then rfF r else daF xs
theorem dfF_bad {r : Rf} {xs : List Int} (h : rfF r ≠ 0) : dfF r xs = rfF r := by unfold dfF; rw [if_pos h]
theorem dfF_ok {r : Rf} {xs : List Int} (h : rfF r = 0) : dfF r xs = daF xs := by unfold dfF; rw [if_neg (by simp [h])]
set_option maxHeartbeats 2000000 in
theorem dataFaultI {S T U : Nat → Prop} {w : World} {y z v : Value} {xs : List Int} (r : Rf) (hy : RdI S w y r.sn) (hz : RdJ T w z r.lg) (hv : RdI U w v xs) : Calls Tryz.prog 95 #[.agg #[.int .i64 r.tm, .int .i64 r.vt, .int .i64 r.si, .int .i64 r.st, y, z], v] w fun e w' => e = .returned (.int .i64 (dfF r xs)) ∧ Below w.heap.size w w' := by
  obtain ⟨ay, cy, rfl⟩ := hy.shape
  obtain ⟨az, cz, rfl, _⟩ := hz.shape
  obtain ⟨av, cv, rfl⟩ := hv.shape
  have BA := hide (below_alloc w (.cells #[.int .i64 r.tm, .int .i64 r.vt, .int .i64 r.si, .int .i64 r.st, .slice ay r.sn.length cy, .slice az r.lg.length cz] 32))
  have HF := hide (implRaftFault r (hy.later BA.out) (hz.later BA.out))
  have HD := hide (fun (w' : World) (hb : Below w.heap.size w w') => snapFaultI (hv.later hb))
  have HBad := hide (@dfF_bad r xs)
  have HOk := hide (@dfF_ok r xs)
  obtain ⟨Z, hZ⟩ : ∃ Z, rfF r = Z := ⟨_, rfl⟩
  obtain ⟨C, hC⟩ : ∃ C, dfF r xs = C := ⟨_, rfl⟩
  obtain ⟨D, hD⟩ : ∃ D, daF xs = D := ⟨_, rfl⟩
  rw [hZ] at HF HBad HOk
  rw [hC] at HBad HOk ⊢
  rw [hD] at HOk HD
  clear hZ hC hD hy hz hv
  generalize xs.length = q at *
  generalize r.sn.length = l at *
  generalize r.lg.length = m at *
  generalize r.tm = a at *
  generalize r.vt = b at *
  generalize r.si = c at *
  generalize r.st = d at *
  go_enter Tryz.func95, Tryz.ntmps95
  go_wp2_with fail
  refine HF.out.mono ?_
  rintro e w1 ⟨rfl, hb⟩
  have BB := hide (below_on BA.out hb)
  clear hb
  by_cases h0 : Z = 0
  · subst h0
    obtain rfl := HOk.out (by first | trivial | rfl)
    go_wp2_with fail
    refine (HD.out _ BB.out).mono ?_
    rintro e w2 ⟨rfl, qd, hw2⟩
    have BC : Hid (Below w.heap.size w w2) := by rw [hw2]; exact below_on BB.out (below_drewN _ _)
    clear hw2
    go_wp2
    go_ret
    exact ⟨rfl, BC.out⟩
  · obtain rfl := HBad.out h0
    have h0b : (C == 0) = false := by simpa using h0
    have h0c : (C != 0) = true := by simp [h0]
    clear h0
    go_wp2
    go_ret
    exact ⟨rfl, BB.out⟩
set_option maxHeartbeats 4000000 in
set_option maxRecDepth 4000 in
theorem snappedI {S T : Nat → Prop} {w : World} {y z : Value} {xs : List Int} {ps : List Oj} (a b c d x t : Int) (a1 a2 a3 : Option Addr) (l1 c1 l2 c2 l3 c3 : Nat) (hy : RdI S w y xs) (hz : RdJ T w z ps) (hm : xs.length ≤ 1048576) (hm' : ps.length ≤ 1048576) (hl' : ∀ i, i < ps.length → (ps.getD i oj0).2.2.length ≤ 1048576) :
    Calls Tryz.prog 97 #[.agg #[.int .i64 a, .int .i64 b, .int .i64 c, .int .i64 d, .slice a1 l1 c1, .slice a2 l2 c2], .agg #[.int .i64 x, .int .i64 t, .slice a3 l3 c3], y, z] w fun e w' => ∃ y' z', e = .returned (.agg #[.int .i64 a, .int .i64 b, .int .i64 x, .int .i64 t, y', z']) ∧ Below w.heap.size w w' ∧ IvR w.heap.size w'.heap.size w' y' z' xs ps := by
  have HCp := hide (fun (w' : World) (hb : Below w.heap.size w w') => copyRaftI a b x t (hy.later hb) (hz.later hb) hm hm' hl')
  obtain ⟨ay, cy, rfl⟩ := hy.shape
  obtain ⟨az, cz, rfl, _⟩ := hz.shape
  obtain ⟨l, hl⟩ : ∃ l, xs.length = l := ⟨_, rfl⟩
  obtain ⟨m, hme⟩ : ∃ m, ps.length = m := ⟨_, rfl⟩
  rw [hl] at HCp ⊢
  rw [hme] at HCp ⊢
  have HL := hide hl
  have HME := hide hme
  clear hy hz hm hm' hl' hl hme
  go_enter Tryz.func97, Tryz.ntmps97
  go_wp2_with fail
  refine forget (fun W => Var3 W (w.heap.size + 1) (.int .i64 x) (.int .i64 t) (.slice a3 l3 c3) ∧ Var6 W (w.heap.size + 2) (.int .i64 0) (.int .i64 0) (.int .i64 0) (.int .i64 0) (.slice none 0 0) (.slice none 0 0) ∧ Var6 W (w.heap.size + 3) (.int .i64 a) (.int .i64 b) (.int .i64 c) (.int .i64 d) (.slice a1 l1 c1) (.slice a2 l2 c2) ∧ (∀ o, W.frozen? ⟨w.heap.size + 2, o, none⟩ = false) ∧ (∀ o, W.frozen? ⟨w.heap.size + 3, o, none⟩ = false) ∧ Below w.heap.size w W ∧ W.heap.size = w.heap.size + 4) ?s0 ?_
  case s0 =>
    refine ⟨?_, ?_, ?_, ?_, ?_, ?_, ?_⟩
    · refine ⟨?_, ?_, ?_⟩ <;> simp [go_sem]
    · refine ⟨?_, ?_, ?_, ?_, ?_, ?_⟩ <;> simp [go_sem]
    · refine ⟨?_, ?_, ?_, ?_, ?_, ?_⟩ <;> simp [go_sem]
    · intro o; simp [go_sem]
    · intro o; simp [go_sem]
    · exact below_on (below_on (below_on (below_alloc _ _) (below_alloc _ _)) (below_alloc _ _)) (below_alloc _ _)
    · simp
  rintro W ⟨⟨e0, e1, e2⟩, ⟨r0, r1, r2, r3, r4, r5⟩, ⟨n0, n1, n2, n3, n4, n5⟩, hf, hg, hbW, hsW⟩
  have f0 := hf 0
  have f1 := hf 1
  have f2 := hf 2
  have f3 := hf 3
  have f4 := hf 4
  have f5 := hf 5
  have g2 := hg 2
  have g3 := hg 3
  have g4 := hg 4
  have g5 := hg 5
  have HB := hide hbW
  have HS := hide hsW
  clear hbW hsW
  have BX : Hid (Below w.heap.size w ((((W.setCell ⟨w.heap.size + 3, 2, none⟩ (.int .i64 x)).setCell ⟨w.heap.size + 3, 3, none⟩ (.int .i64 t)).setCell ⟨w.heap.size + 3, 4, none⟩ (.slice ay l cy)).setCell ⟨w.heap.size + 3, 5, none⟩ (.slice az m cz)).drew) := below_on ((((HB.out.setCell (p := ⟨w.heap.size + 3, 2, none⟩) (by simp) (.int .i64 x)).setCell (p := ⟨w.heap.size + 3, 3, none⟩) (by simp) (.int .i64 t)).setCell (p := ⟨w.heap.size + 3, 4, none⟩) (by simp) (.slice ay l cy)).setCell (p := ⟨w.heap.size + 3, 5, none⟩) (by simp) (.slice az m cz)) (below_drewN _ 1)
  have RX : Hid (Var6 ((((W.setCell ⟨w.heap.size + 3, 2, none⟩ (.int .i64 x)).setCell ⟨w.heap.size + 3, 3, none⟩ (.int .i64 t)).setCell ⟨w.heap.size + 3, 4, none⟩ (.slice ay l cy)).setCell ⟨w.heap.size + 3, 5, none⟩ (.slice az m cz)).drew (w.heap.size + 2) (.int .i64 0) (.int .i64 0) (.int .i64 0) (.int .i64 0) (.slice none 0 0) (.slice none 0 0)) := by
    refine ⟨?_, ?_, ?_, ?_, ?_, ?_⟩ <;> simp [go_sem, r0, r1, r2, r3, r4, r5]
  have FX : Hid (∀ o, ((((W.setCell ⟨w.heap.size + 3, 2, none⟩ (.int .i64 x)).setCell ⟨w.heap.size + 3, 3, none⟩ (.int .i64 t)).setCell ⟨w.heap.size + 3, 4, none⟩ (.slice ay l cy)).setCell ⟨w.heap.size + 3, 5, none⟩ (.slice az m cz)).drew.frozen? ⟨w.heap.size + 2, o, none⟩ = false) := fun o => by simp [go_sem, hf o]
  have SX : Hid (((((W.setCell ⟨w.heap.size + 3, 2, none⟩ (.int .i64 x)).setCell ⟨w.heap.size + 3, 3, none⟩ (.int .i64 t)).setCell ⟨w.heap.size + 3, 4, none⟩ (.slice ay l cy)).setCell ⟨w.heap.size + 3, 5, none⟩ (.slice az m cz)).drew.heap.size = w.heap.size + 4) := by simp [Hid, HS.out]
  clear hf hg
  go_region
  go_wp2_with fail
  refine (HCp.out _ BX.out).mono ?_
  rintro e w2 ⟨y2, z2, rfl, hb, ho⟩
  have hs4 := SX.out
  have hz2 := hb.size
  rw [hs4] at hz2
  have ho4 := hide ho
  clear ho
  have R2 := hide (RX.out.later hb)
  have F2 : ∀ o, w2.frozen? ⟨w.heap.size + 2, o, none⟩ = false := fun o => ((bcell hb).2 _ _ (by rw [hs4]; simp)).trans (FX.out o)
  have B2 := hide (below_on BX.out hb)
  obtain ⟨a5, k5, b5, j5, hy5, hz5⟩ := ho4.out.shape
  rw [HL.out] at hy5
  rw [HME.out] at hz5
  subst hy5
  subst hz5
  rw [hs4] at ho4
  clear hb hs4 RX FX SX BX r0 n0 f0 r1 n1 f1 r2 n2 f2 r3 n3 f3 r4 n4 f4 r5 n5 f5 e0 e1 e2 g2 g3 g4 g5
  obtain ⟨r0, r1, r2, r3, r4, r5⟩ := R2.out
  have f0 := F2 0
  have f1 := F2 1
  have f2 := F2 2
  have f3 := F2 3
  have f4 := F2 4
  have f5 := F2 5
  clear F2
  go_wp2
  refine bodyPost_ret (v := .agg #[.int .i64 a, .int .i64 b, .int .i64 x, .int .i64 t, .slice a5 l k5, .slice b5 m j5]) (by simp [results, Tryz.results97, go_sem, r0, r1, r2, r3, r4, r5]) rfl ⟨_, _, rfl, ?_, ?_⟩
  · repeat (first | refine Below.setCell ?_ (by first | (simp; done) | (simp; omega) | omega) _ | exact B2.out)
  · refine IvR.up (IvR.wr (T := fun q => q = w.heap.size + 2) ho4.out (w' := _) ?_ (fun q h1 h2 e => by omega)) (by omega) (by simp)
    repeat (first | refine Wr.setCell ?_ (by rfl) _ | exact Wr.refl _ _)
end Go.Proofs.YtlljcajfdeiigaaGreatDoor
