/- Cr2 in one text: what each says stands at its head below. -/
import Derived.Test.YtncgpfapepminaaDoorG10
/- Chapter 10: copies of a store, both sides walked. Made by program (gencr2.py). -/
namespace Go.Proofs.YtncgpfapepminaaDoor
open Go.RowKit

set_option maxHeartbeats 4000000 in
set_option maxRecDepth 4000 in
theorem copyRaftI {S T : Nat → Prop} {w : World} {y z : Value} {xs : List Int} {ps : List Oj} (a b c d : Int) (hy : RdI S w y xs) (hz : RdJ T w z ps) (hm : xs.length ≤ 1048576) (hm' : ps.length ≤ 1048576) (hl' : ∀ i, i < ps.length → (ps.getD i oj0).2.2.length ≤ 1048576) :
    Calls Tryd.prog 30 #[.agg #[.int .i64 a, .int .i64 b, .int .i64 c, .int .i64 d, y, z]] w fun e w' =>
      ∃ y' z', e = .returned (.agg #[.int .i64 a, .int .i64 b, .int .i64 c, .int .i64 d, y', z']) ∧ Below w.heap.size w w' ∧ IvR w.heap.size w'.heap.size w' y' z' xs ps := by
  have HY := hide hy
  have HZ := hide hz
  have HL' := hide hl'
  have HM := hide hm
  obtain ⟨ay, cy, rfl⟩ := hy.shape
  obtain ⟨az, cz, rfl, _⟩ := hz.shape
  obtain ⟨l, hl⟩ : ∃ l, xs.length = l := ⟨_, rfl⟩
  obtain ⟨m, hme⟩ : ∃ m, ps.length = m := ⟨_, rfl⟩
  have HL := hide hl
  have HME := hide hme
  rw [hl] at HY ⊢
  rw [hme] at HZ ⊢
  have HM' := hide hm'
  clear hy hz hl' hm hm' hl hme
  go_enter Tryd.func30, Tryd.ntmps30
  go_wp2_with fail
  refine forget (fun W => Var6 W (w.heap.size) (.int .i64 a) (.int .i64 b) (.int .i64 c) (.int .i64 d) (.slice ay l cy) (.slice az m cz) ∧ Var6 W (w.heap.size + 1) (.int .i64 0) (.int .i64 0) (.int .i64 0) (.int .i64 0) (.slice none 0 0) (.slice none 0 0) ∧ Var6 W (w.heap.size + 2) (.int .i64 a) (.int .i64 b) (.int .i64 c) (.int .i64 d) (.slice ay l cy) (.slice az m cz) ∧ (∀ o, W.frozen? ⟨w.heap.size + 1, o, none⟩ = false) ∧ (∀ o, W.frozen? ⟨w.heap.size + 2, o, none⟩ = false) ∧ Below w.heap.size w W ∧ W.heap.size = w.heap.size + 3) ?s0 ?_
  case s0 =>
    refine ⟨?_, ?_, ?_, ?_, ?_, ?_, ?_⟩
    · refine ⟨?_, ?_, ?_, ?_, ?_, ?_⟩ <;> simp [go_sem]
    · refine ⟨?_, ?_, ?_, ?_, ?_, ?_⟩ <;> simp [go_sem]
    · refine ⟨?_, ?_, ?_, ?_, ?_, ?_⟩ <;> simp [go_sem]
    · intro o; simp [go_sem]
    · intro o; simp [go_sem]
    · exact below_on (below_on (below_alloc _ _) (below_alloc _ _)) (below_alloc _ _)
    · simp
  rintro W ⟨hV, hR, hN, hf1, hf2, hbW, hsW⟩
  have HB := hide hbW
  have HR := hide hR
  have HN := hide hN
  have HF1 := hide hf1
  have HF2 := hide hf2
  have HY2 := hide (HY.out.later hbW)
  have HZ2 := hide (HZ.out.later hbW)
  obtain ⟨_, _, _, _, k4, k5⟩ := hV
  clear hR hN hf1 hf2 hbW HY HZ
  go_region_held3 (fun w' => w'.cell? ⟨w.heap.size, 4, none⟩ = some (.slice ay l cy) ∧ w'.cell? ⟨w.heap.size, 5, none⟩ = some (.slice az m cz)) (first | exact ⟨k4, k5⟩ | exact ⟨e4, e5⟩ | exact ⟨i4, i5⟩ | exact ⟨by simp [go_sem, i4], by simp [go_sem, i5]⟩)
    (first | (go_at_call 65; refine (copyEntriesI (HZ2.out.later HB1.out) HM'.out HL'.out).mono ?_; rintro e w2 ⟨z2, rfl, hb2, ho2⟩; obtain ⟨a2, c2, hz2⟩ := ho2.shape; rw [HME.out] at hz2; subst hz2; have i4 := cell_later hb2 e4; have i5 := cell_later hb2 e5; have HB2 := hide (below_on HB1.out hb2); have hs2 : w1.heap.size ≤ w2.heap.size := hb2.size; have HO2 := hide (HO1.out.later hb2); have HJ := hide (ho2.ow rfl (by have := HM'.out; omega)); obtain ⟨n0, n1, n2, n3, n4, n5⟩ := HN.out.later HB2.out; have F2 : ∀ o, w2.frozen? ⟨w.heap.size + 2, o, none⟩ = false := (fun o => ((bcell HB2.out).2 _ _ (by omega)).trans (HF2.out o)); have G4 := F2 4; have G5 := F2 5; clear hb2 ho2 F2) | (go_at_call 70; refine (copyWords (HY2.out.drewN 1) HM.out).mono ?_; rintro e w1 ⟨z1, rfl, hb1, ho1⟩; obtain ⟨a1, c1, hz1⟩ := ho1.shape; rw [HL.out] at hz1; subst hz1; have e4 := cell_later hb1 k4; have e5 := cell_later hb1 k5; have HB1 := hide (below_on (below_drewN W 1) hb1); have hs1 : W.heap.size ≤ w1.heap.size := hb1.size; have HO1 : Hid (IvI W.heap.size w1.heap.size w1 (.slice a1 l c1) xs) := ho1.iv; clear hb1 ho1))
  clear k4 k5 e4 e5 i4 i5
  obtain ⟨r0, r1, r2, r3, r4, r5⟩ := HR.out.later HB2.out
  have F1 : ∀ o, w2.frozen? ⟨w.heap.size + 1, o, none⟩ = false := fun o => ((bcell HB2.out).2 _ _ (by omega)).trans (HF1.out o)
  have f0 := F1 0
  have f1 := F1 1
  have f2 := F1 2
  have f3 := F1 3
  have f4 := F1 4
  have f5 := F1 5
  clear F1
  have HBa := hide (below_on HB.out HB2.out)
  go_wp2
  refine bodyPost_ret (v := .agg #[.int .i64 a, .int .i64 b, .int .i64 c, .int .i64 d, .slice a1 l c1, .slice a2 m c2]) (by simp [results, Tryd.results30, go_sem, r0, r1, r2, r3, r4, r5]) rfl ⟨_, _, rfl, ?_, ?_⟩
  · repeat (first | refine Below.setCell ?_ (by first | (simp; done) | (simp; omega) | omega) _ | exact HBa.out)
  · refine IvR_made HO2.out HJ.out (by omega) (by omega) (Wr.mono (S := fun b => b < w.heap.size + 3) ?_ (fun b hb => by omega))
    repeat (first | refine Wr.setCell ?_ (by first | (simp; done) | (simp; omega) | omega) _ | exact Wr.refl _ _)

set_option maxHeartbeats 4000000 in
set_option maxRecDepth 4000 in
theorem l10CopyI {S T : Nat → Prop} {w : World} {y z : Value} {xs : List Int} {ps : List Oj} (a b c d : Int) (hy : RdI S w y xs) (hz : RdJ T w z ps) (hm : xs.length ≤ 1048576) (hm' : ps.length ≤ 1048576) (hl' : ∀ i, i < ps.length → (ps.getD i oj0).2.2.length ≤ 1048576) :
    Calls Tryd.prog 34 #[.agg #[.int .i64 a, .int .i64 b, .int .i64 c, .int .i64 d, y, z]] w fun e w' =>
      ∃ y' z', e = .returned (.agg #[.int .i64 a, .int .i64 b, .int .i64 c, .int .i64 d, y', z']) ∧ Below w.heap.size w w' ∧ IvR w.heap.size w'.heap.size w' y' z' xs ps := by
  have HY := hide hy
  have HZ := hide hz
  have HL' := hide hl'
  have HM := hide hm
  obtain ⟨ay, cy, rfl⟩ := hy.shape
  obtain ⟨az, cz, rfl, _⟩ := hz.shape
  obtain ⟨l, hl⟩ : ∃ l, xs.length = l := ⟨_, rfl⟩
  obtain ⟨m, hme⟩ : ∃ m, ps.length = m := ⟨_, rfl⟩
  have HL := hide hl
  have HME := hide hme
  rw [hl] at HY ⊢
  rw [hme] at HZ ⊢
  have HM' := hide hm'
  clear hy hz hl' hm hm' hl hme
  go_enter Tryd.func34, Tryd.ntmps34
  go_wp2_with fail
  refine (l1Ints ((HY.out.later (below_alloc w (.cells #[.int .i64 a, .int .i64 b, .int .i64 c, .int .i64 d, .slice ay l cy, .slice az m cz] 27))).later (below_alloc _ (.cells #[.int .i64 0, .int .i64 0, .int .i64 0, .int .i64 0, .slice none 0 0, .slice none 0 0] 27))) HM.out).mono ?_
  rintro e w1 ⟨z1, rfl, hb, ho⟩
  obtain ⟨a1, c1, hz1⟩ := ho.shape
  rw [HL.out] at hz1
  subst hz1
  have o0 : w1.cell? ⟨w.heap.size, 0, none⟩ = some (.int .i64 a) := cell_later hb (by simp [go_sem])
  have v0 : w1.cell? ⟨w.heap.size + 1, 0, none⟩ = some (.int .i64 0) := cell_later hb (by simp [go_sem])
  have g0 : w1.frozen? ⟨w.heap.size, 0, none⟩ = false := ((bcell hb).2 _ _ (by simp; omega)).trans (by simp [go_sem])
  have f0 : w1.frozen? ⟨w.heap.size + 1, 0, none⟩ = false := ((bcell hb).2 _ _ (by simp)).trans (by simp [go_sem])
  have o1 : w1.cell? ⟨w.heap.size, 1, none⟩ = some (.int .i64 b) := cell_later hb (by simp [go_sem])
  have v1 : w1.cell? ⟨w.heap.size + 1, 1, none⟩ = some (.int .i64 0) := cell_later hb (by simp [go_sem])
  have g1 : w1.frozen? ⟨w.heap.size, 1, none⟩ = false := ((bcell hb).2 _ _ (by simp; omega)).trans (by simp [go_sem])
  have f1 : w1.frozen? ⟨w.heap.size + 1, 1, none⟩ = false := ((bcell hb).2 _ _ (by simp)).trans (by simp [go_sem])
  have o2 : w1.cell? ⟨w.heap.size, 2, none⟩ = some (.int .i64 c) := cell_later hb (by simp [go_sem])
  have v2 : w1.cell? ⟨w.heap.size + 1, 2, none⟩ = some (.int .i64 0) := cell_later hb (by simp [go_sem])
  have g2 : w1.frozen? ⟨w.heap.size, 2, none⟩ = false := ((bcell hb).2 _ _ (by simp; omega)).trans (by simp [go_sem])
  have f2 : w1.frozen? ⟨w.heap.size + 1, 2, none⟩ = false := ((bcell hb).2 _ _ (by simp)).trans (by simp [go_sem])
  have o3 : w1.cell? ⟨w.heap.size, 3, none⟩ = some (.int .i64 d) := cell_later hb (by simp [go_sem])
  have v3 : w1.cell? ⟨w.heap.size + 1, 3, none⟩ = some (.int .i64 0) := cell_later hb (by simp [go_sem])
  have g3 : w1.frozen? ⟨w.heap.size, 3, none⟩ = false := ((bcell hb).2 _ _ (by simp; omega)).trans (by simp [go_sem])
  have f3 : w1.frozen? ⟨w.heap.size + 1, 3, none⟩ = false := ((bcell hb).2 _ _ (by simp)).trans (by simp [go_sem])
  have o4 : w1.cell? ⟨w.heap.size, 4, none⟩ = some (.slice ay l cy) := cell_later hb (by simp [go_sem])
  have v4 : w1.cell? ⟨w.heap.size + 1, 4, none⟩ = some (.slice none 0 0) := cell_later hb (by simp [go_sem])
  have g4 : w1.frozen? ⟨w.heap.size, 4, none⟩ = false := ((bcell hb).2 _ _ (by simp; omega)).trans (by simp [go_sem])
  have f4 : w1.frozen? ⟨w.heap.size + 1, 4, none⟩ = false := ((bcell hb).2 _ _ (by simp)).trans (by simp [go_sem])
  have o5 : w1.cell? ⟨w.heap.size, 5, none⟩ = some (.slice az m cz) := cell_later hb (by simp [go_sem])
  have v5 : w1.cell? ⟨w.heap.size + 1, 5, none⟩ = some (.slice none 0 0) := cell_later hb (by simp [go_sem])
  have g5 : w1.frozen? ⟨w.heap.size, 5, none⟩ = false := ((bcell hb).2 _ _ (by simp; omega)).trans (by simp [go_sem])
  have f5 : w1.frozen? ⟨w.heap.size + 1, 5, none⟩ = false := ((bcell hb).2 _ _ (by simp)).trans (by simp [go_sem])
  have hs1 := hb.size
  simp only [World.size_alloc] at hs1
  have HB := hide (below_on (below_on (below_alloc _ _) (below_alloc _ _)) hb)
  have HO := hide ho
  clear hb ho
  go_wp2_with fail
  refine (l9Copy (HZ.out.later (HB.out.setCell (p := ⟨w.heap.size, 4, none⟩) (by simp) _)) HM'.out HL'.out).mono ?_
  rintro e w2 ⟨z2, rfl, hb, ho⟩
  obtain ⟨a2, c2, hz2⟩ := ho.shape
  rw [HME.out] at hz2
  subst hz2
  have y0 : w2.cell? ⟨w.heap.size, 0, none⟩ = some (.int .i64 a) := cell_later hb ((World.cell?_setCell_other _ _ _ _ (by simp)).trans o0)
  have x0 : w2.cell? ⟨w.heap.size + 1, 0, none⟩ = some (.int .i64 0) := cell_later hb ((World.cell?_setCell_other _ _ _ _ (by simp)).trans v0)
  have q0 : w2.frozen? ⟨w.heap.size, 0, none⟩ = false := ((bcell hb).2 _ _ (by simp; omega)).trans (by rw [World.frozen?_setCell]; exact g0)
  have p0 : w2.frozen? ⟨w.heap.size + 1, 0, none⟩ = false := ((bcell hb).2 _ _ (by simp; omega)).trans (by rw [World.frozen?_setCell]; exact f0)
  have y1 : w2.cell? ⟨w.heap.size, 1, none⟩ = some (.int .i64 b) := cell_later hb ((World.cell?_setCell_other _ _ _ _ (by simp)).trans o1)
  have x1 : w2.cell? ⟨w.heap.size + 1, 1, none⟩ = some (.int .i64 0) := cell_later hb ((World.cell?_setCell_other _ _ _ _ (by simp)).trans v1)
  have q1 : w2.frozen? ⟨w.heap.size, 1, none⟩ = false := ((bcell hb).2 _ _ (by simp; omega)).trans (by rw [World.frozen?_setCell]; exact g1)
  have p1 : w2.frozen? ⟨w.heap.size + 1, 1, none⟩ = false := ((bcell hb).2 _ _ (by simp; omega)).trans (by rw [World.frozen?_setCell]; exact f1)
  have y2 : w2.cell? ⟨w.heap.size, 2, none⟩ = some (.int .i64 c) := cell_later hb ((World.cell?_setCell_other _ _ _ _ (by simp)).trans o2)
  have x2 : w2.cell? ⟨w.heap.size + 1, 2, none⟩ = some (.int .i64 0) := cell_later hb ((World.cell?_setCell_other _ _ _ _ (by simp)).trans v2)
  have q2 : w2.frozen? ⟨w.heap.size, 2, none⟩ = false := ((bcell hb).2 _ _ (by simp; omega)).trans (by rw [World.frozen?_setCell]; exact g2)
  have p2 : w2.frozen? ⟨w.heap.size + 1, 2, none⟩ = false := ((bcell hb).2 _ _ (by simp; omega)).trans (by rw [World.frozen?_setCell]; exact f2)
  have y3 : w2.cell? ⟨w.heap.size, 3, none⟩ = some (.int .i64 d) := cell_later hb ((World.cell?_setCell_other _ _ _ _ (by simp)).trans o3)
  have x3 : w2.cell? ⟨w.heap.size + 1, 3, none⟩ = some (.int .i64 0) := cell_later hb ((World.cell?_setCell_other _ _ _ _ (by simp)).trans v3)
  have q3 : w2.frozen? ⟨w.heap.size, 3, none⟩ = false := ((bcell hb).2 _ _ (by simp; omega)).trans (by rw [World.frozen?_setCell]; exact g3)
  have p3 : w2.frozen? ⟨w.heap.size + 1, 3, none⟩ = false := ((bcell hb).2 _ _ (by simp; omega)).trans (by rw [World.frozen?_setCell]; exact f3)
  have y4 : w2.cell? ⟨w.heap.size, 4, none⟩ = some (.slice a1 l c1) := cell_later hb (World.cell?_setCell_same _ _ _ o4)
  have x4 : w2.cell? ⟨w.heap.size + 1, 4, none⟩ = some (.slice none 0 0) := cell_later hb ((World.cell?_setCell_other _ _ _ _ (by simp)).trans v4)
  have q4 : w2.frozen? ⟨w.heap.size, 4, none⟩ = false := ((bcell hb).2 _ _ (by simp; omega)).trans (by rw [World.frozen?_setCell]; exact g4)
  have p4 : w2.frozen? ⟨w.heap.size + 1, 4, none⟩ = false := ((bcell hb).2 _ _ (by simp; omega)).trans (by rw [World.frozen?_setCell]; exact f4)
  have y5 : w2.cell? ⟨w.heap.size, 5, none⟩ = some (.slice az m cz) := cell_later hb ((World.cell?_setCell_other _ _ _ _ (by simp)).trans o5)
  have x5 : w2.cell? ⟨w.heap.size + 1, 5, none⟩ = some (.slice none 0 0) := cell_later hb ((World.cell?_setCell_other _ _ _ _ (by simp)).trans v5)
  have q5 : w2.frozen? ⟨w.heap.size, 5, none⟩ = false := ((bcell hb).2 _ _ (by simp; omega)).trans (by rw [World.frozen?_setCell]; exact g5)
  have p5 : w2.frozen? ⟨w.heap.size + 1, 5, none⟩ = false := ((bcell hb).2 _ _ (by simp; omega)).trans (by rw [World.frozen?_setCell]; exact f5)
  have hs2 := hb.size
  simp only [World.size_setCell] at hs2
  have HB2 := hide (below_on (HB.out.setCell (p := ⟨w.heap.size, 4, none⟩) (by simp) _) hb)
  have HO2 := hide ((HO.out.iv.wr (T := fun x => x = w.heap.size) (Wr.setCell (p := ⟨w.heap.size, 4, none⟩) (Wr.refl (fun x => x = w.heap.size) _) rfl (.slice a1 l c1)) (fun b hb1 hb2 e => by simp at hb1; omega)).later hb)
  have HJ := hide (ho.ow rfl (by have := HM'.out; omega))
  simp only [World.size_setCell] at HJ
  clear hb ho HB HO o0 v0 g0 f0 o1 v1 g1 f1 o2 v2 g2 f2 o3 v3 g3 f3 o4 v4 g4 f4 o5 v5 g5 f5
  go_wp2
  refine bodyPost_ret (v := .agg #[.int .i64 a, .int .i64 b, .int .i64 c, .int .i64 d, .slice a1 l c1, .slice a2 m c2]) (by simp [results, Tryd.results34, go_sem, x0, x1, x2, x3, x4, x5]) rfl ⟨_, _, rfl, ?_, ?_⟩
  · repeat (first | refine Below.setCell ?_ (by first | (simp; done) | (simp; omega) | omega) _ | exact HB2.out)
  · refine IvR_made HO2.out HJ.out (by simp; omega) (by simp; omega) (Wr.mono (S := fun b => b < w.heap.size + 2) ?_ (fun b hb => by simp; omega))
    repeat (first | refine Wr.setCell ?_ (by first | (simp; done) | (simp; omega) | omega) _ | exact Wr.refl _ _)
end Go.Proofs.YtncgpfapepminaaDoor
