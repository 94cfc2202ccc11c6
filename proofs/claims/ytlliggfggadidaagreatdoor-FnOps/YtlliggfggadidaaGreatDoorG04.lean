/- Cr2 En1 Cfr in one text: what each says stands at its head below. -/
import Derived.Test.YtlliggfggadidaaGreatDoorG03
import Derived.Test.YtlliggfggadidaaGreatDoorG02
import Derived.Test.YtlliggfggadidaaGreatDoorG01
namespace Go.Proofs.YtlliggfggadidaaGreatDoor
open Go.RowKit
set_option maxHeartbeats 4000000 in
set_option maxRecDepth 4000 in
theorem copyRaftI {S T : Nat → Prop} {w : World} {y z : Value} {xs : List Int} {ps : List Oj} (a b c d : Int) (hy : RdI S w y xs) (hz : RdJ T w z ps) (hm : xs.length ≤ 1048576) (hm' : ps.length ≤ 1048576) (hl' : ∀ i, i < ps.length → (ps.getD i oj0).2.2.length ≤ 1048576) :
    Calls Tryz.prog 42 #[.agg #[.int .i64 a, .int .i64 b, .int .i64 c, .int .i64 d, y, z]] w fun e w' =>
      ∃ y' z', e = .returned (.agg #[.int .i64 a, .int .i64 b, .int .i64 c, .int .i64 d, y', z']) ∧ Below w.heap.size w w' ∧ IvR w.heap.size w'.heap.size w' y' z' xs ps := by
  have HY := hide hy
  have HZ := hide hz
  have HL' := hide hl'
  have HM := hide hm
  obtain ⟨ay, cy, rfl⟩ := hy.shape
  obtain ⟨az, cz, rfl, _⟩ := hz.shape
  obtain ⟨l, hl⟩ : ∃ l, xs.length = l := ⟨_, rfl⟩
  obtain ⟨m, hme⟩ : ∃ m, ps.length = m := ⟨_, rfl⟩
  have HL := hide hl
  have HME := hide hme
  rw [hl] at HY ⊢
  rw [hme] at HZ ⊢
  have HM' := hide hm'
  clear hy hz hl' hm hm' hl hme
  go_enter Tryz.func42, Tryz.ntmps42
  go_wp2_with fail
  refine forget (fun W => Var6 W (w.heap.size) (.int .i64 a) (.int .i64 b) (.int .i64 c) (.int .i64 d) (.slice ay l cy) (.slice az m cz) ∧ Var6 W (w.heap.size + 1) (.int .i64 0) (.int .i64 0) (.int .i64 0) (.int .i64 0) (.slice none 0 0) (.slice none 0 0) ∧ Var6 W (w.heap.size + 2) (.int .i64 a) (.int .i64 b) (.int .i64 c) (.int .i64 d) (.slice ay l cy) (.slice az m cz) ∧ (∀ o, W.frozen? ⟨w.heap.size + 1, o, none⟩ = false) ∧ (∀ o, W.frozen? ⟨w.heap.size + 2, o, none⟩ = false) ∧ Below w.heap.size w W ∧ W.heap.size = w.heap.size + 3) ?s0 ?_
  case s0 =>
    refine ⟨?_, ?_, ?_, ?_, ?_, ?_, ?_⟩
    · refine ⟨?_, ?_, ?_, ?_, ?_, ?_⟩ <;> simp [go_sem]
    · refine ⟨?_, ?_, ?_, ?_, ?_, ?_⟩ <;> simp [go_sem]
    · refine ⟨?_, ?_, ?_, ?_, ?_, ?_⟩ <;> simp [go_sem]
    · intro o; simp [go_sem]
    · intro o; simp [go_sem]
    · exact below_on (below_on (below_alloc _ _) (below_alloc _ _)) (below_alloc _ _)
    · simp
  rintro W ⟨hV, hR, hN, hf1, hf2, hbW, hsW⟩
  have HB := hide hbW
  have HR := hide hR
  have HN := hide hN
  have HF1 := hide hf1
  have HF2 := hide hf2
  have HY2 := hide (HY.out.later hbW)
  have HZ2 := hide (HZ.out.later hbW)
  obtain ⟨_, _, _, _, k4, k5⟩ := hV
  clear hR hN hf1 hf2 hbW HY HZ
  go_region_held3 (fun w' => w'.cell? ⟨w.heap.size, 4, none⟩ = some (.slice ay l cy) ∧ w'.cell? ⟨w.heap.size, 5, none⟩ = some (.slice az m cz)) (first | exact ⟨k4, k5⟩ | exact ⟨e4, e5⟩ | exact ⟨i4, i5⟩ | exact ⟨by simp [go_sem, i4], by simp [go_sem, i5]⟩)
    (first | (go_at_call 70; refine (copyEntriesI (HZ2.out.later HB1.out) HM'.out HL'.out).mono ?_; rintro e w2 ⟨z2, rfl, hb2, ho2⟩; obtain ⟨a2, c2, hz2⟩ := ho2.shape; rw [HME.out] at hz2; subst hz2; have i4 := cell_later hb2 e4; have i5 := cell_later hb2 e5; have HB2 := hide (below_on HB1.out hb2); have hs2 : w1.heap.size ≤ w2.heap.size := hb2.size; have HO2 := hide (HO1.out.later hb2); have HJ := hide (ho2.ow rfl (by have := HM'.out; omega)); obtain ⟨n0, n1, n2, n3, n4, n5⟩ := HN.out.later HB2.out; have F2 : ∀ o, w2.frozen? ⟨w.heap.size + 2, o, none⟩ = false := (fun o => ((bcell HB2.out).2 _ _ (by omega)).trans (HF2.out o)); have G4 := F2 4; have G5 := F2 5; clear hb2 ho2 F2) | (go_at_call 69; refine (copyWords (HY2.out.drewN 1) HM.out).mono ?_; rintro e w1 ⟨z1, rfl, hb1, ho1⟩; obtain ⟨a1, c1, hz1⟩ := ho1.shape; rw [HL.out] at hz1; subst hz1; have e4 := cell_later hb1 k4; have e5 := cell_later hb1 k5; have HB1 := hide (below_on (below_drewN W 1) hb1); have hs1 : W.heap.size ≤ w1.heap.size := hb1.size; have HO1 : Hid (IvI W.heap.size w1.heap.size w1 (.slice a1 l c1) xs) := ho1.iv; clear hb1 ho1))
  clear k4 k5 e4 e5 i4 i5
  obtain ⟨r0, r1, r2, r3, r4, r5⟩ := HR.out.later HB2.out
  have F1 : ∀ o, w2.frozen? ⟨w.heap.size + 1, o, none⟩ = false := fun o => ((bcell HB2.out).2 _ _ (by omega)).trans (HF1.out o)
  have f0 := F1 0
  have f1 := F1 1
  have f2 := F1 2
  have f3 := F1 3
  have f4 := F1 4
  have f5 := F1 5
  clear F1
  have HBa := hide (below_on HB.out HB2.out)
  go_wp2
  refine bodyPost_ret (v := .agg #[.int .i64 a, .int .i64 b, .int .i64 c, .int .i64 d, .slice a1 l c1, .slice a2 m c2]) (by simp [results, Tryz.results42, go_sem, r0, r1, r2, r3, r4, r5]) rfl ⟨_, _, rfl, ?_, ?_⟩
  · repeat (first | refine Below.setCell ?_ (by first | (simp; done) | (simp; omega) | omega) _ | exact HBa.out)
  · refine IvR_made HO2.out HJ.out (by omega) (by omega) (Wr.mono (S := fun b => b < w.heap.size + 3) ?_ (fun b hb => by omega))
    repeat (first | refine Wr.setCell ?_ (by first | (simp; done) | (simp; omega) | omega) _ | exact Wr.refl _ _)
set_option maxHeartbeats 4000000 in
set_option maxRecDepth 4000 in
theorem l10CopyI {S T : Nat → Prop} {w : World} {y z : Value} {xs : List Int} {ps : List Oj} (a b c d : Int) (hy : RdI S w y xs) (hz : RdJ T w z ps) (hm : xs.length ≤ 1048576) (hm' : ps.length ≤ 1048576) (hl' : ∀ i, i < ps.length → (ps.getD i oj0).2.2.length ≤ 1048576) :
    Calls Tryz.prog 43 #[.agg #[.int .i64 a, .int .i64 b, .int .i64 c, .int .i64 d, y, z]] w fun e w' =>
      ∃ y' z', e = .returned (.agg #[.int .i64 a, .int .i64 b, .int .i64 c, .int .i64 d, y', z']) ∧ Below w.heap.size w w' ∧ IvR w.heap.size w'.heap.size w' y' z' xs ps := by
  have HY := hide hy
  have HZ := hide hz
  have HL' := hide hl'
  have HM := hide hm
  obtain ⟨ay, cy, rfl⟩ := hy.shape
  obtain ⟨az, cz, rfl, _⟩ := hz.shape
  obtain ⟨l, hl⟩ : ∃ l, xs.length = l := ⟨_, rfl⟩
  obtain ⟨m, hme⟩ : ∃ m, ps.length = m := ⟨_, rfl⟩
  have HL := hide hl
  have HME := hide hme
  rw [hl] at HY ⊢
  rw [hme] at HZ ⊢
  have HM' := hide hm'
  clear hy hz hl' hm hm' hl hme
  go_enter Tryz.func43, Tryz.ntmps43
  go_wp2_with fail
  refine (l1Ints ((HY.out.later (below_alloc w (.cells #[.int .i64 a, .int .i64 b, .int .i64 c, .int .i64 d, .slice ay l cy, .slice az m cz] 27))).later (below_alloc _ (.cells #[.int .i64 0, .int .i64 0, .int .i64 0, .int .i64 0, .slice none 0 0, .slice none 0 0] 27))) HM.out).mono ?_
  rintro e w1 ⟨z1, rfl, hb, ho⟩
  obtain ⟨a1, c1, hz1⟩ := ho.shape
  rw [HL.out] at hz1
  subst hz1
  have o0 : w1.cell? ⟨w.heap.size, 0, none⟩ = some (.int .i64 a) := cell_later hb (by simp [go_sem])
  have v0 : w1.cell? ⟨w.heap.size + 1, 0, none⟩ = some (.int .i64 0) := cell_later hb (by simp [go_sem])
  have g0 : w1.frozen? ⟨w.heap.size, 0, none⟩ = false := ((bcell hb).2 _ _ (by simp; omega)).trans (by simp [go_sem])
  have f0 : w1.frozen? ⟨w.heap.size + 1, 0, none⟩ = false := ((bcell hb).2 _ _ (by simp)).trans (by simp [go_sem])
  have o1 : w1.cell? ⟨w.heap.size, 1, none⟩ = some (.int .i64 b) := cell_later hb (by simp [go_sem])
  have v1 : w1.cell? ⟨w.heap.size + 1, 1, none⟩ = some (.int .i64 0) := cell_later hb (by simp [go_sem])
  have g1 : w1.frozen? ⟨w.heap.size, 1, none⟩ = false := ((bcell hb).2 _ _ (by simp; omega)).trans (by simp [go_sem])
  have f1 : w1.frozen? ⟨w.heap.size + 1, 1, none⟩ = false := ((bcell hb).2 _ _ (by simp)).trans (by simp [go_sem])
  have o2 : w1.cell? ⟨w.heap.size, 2, none⟩ = some (.int .i64 c) := cell_later hb (by simp [go_sem])
  have v2 : w1.cell? ⟨w.heap.size + 1, 2, none⟩ = some (.int .i64 0) := cell_later hb (by simp [go_sem])
  have g2 : w1.frozen? ⟨w.heap.size, 2, none⟩ = false := ((bcell hb).2 _ _ (by simp; omega)).trans (by simp [go_sem])
  have f2 : w1.frozen? ⟨w.heap.size + 1, 2, none⟩ = false := ((bcell hb).2 _ _ (by simp)).trans (by simp [go_sem])
  have o3 : w1.cell? ⟨w.heap.size, 3, none⟩ = some (.int .i64 d) := cell_later hb (by simp [go_sem])
  have v3 : w1.cell? ⟨w.heap.size + 1, 3, none⟩ = some (.int .i64 0) := cell_later hb (by simp [go_sem])
  have g3 : w1.frozen? ⟨w.heap.size, 3, none⟩ = false := ((bcell hb).2 _ _ (by simp; omega)).trans (by simp [go_sem])
  have f3 : w1.frozen? ⟨w.heap.size + 1, 3, none⟩ = false := ((bcell hb).2 _ _ (by simp)).trans (by simp [go_sem])
  have o4 : w1.cell? ⟨w.heap.size, 4, none⟩ = some (.slice ay l cy) := cell_later hb (by simp [go_sem])
  have v4 : w1.cell? ⟨w.heap.size + 1, 4, none⟩ = some (.slice none 0 0) := cell_later hb (by simp [go_sem])
  have g4 : w1.frozen? ⟨w.heap.size, 4, none⟩ = false := ((bcell hb).2 _ _ (by simp; omega)).trans (by simp [go_sem])
  have f4 : w1.frozen? ⟨w.heap.size + 1, 4, none⟩ = false := ((bcell hb).2 _ _ (by simp)).trans (by simp [go_sem])
  have o5 : w1.cell? ⟨w.heap.size, 5, none⟩ = some (.slice az m cz) := cell_later hb (by simp [go_sem])
  have v5 : w1.cell? ⟨w.heap.size + 1, 5, none⟩ = some (.slice none 0 0) := cell_later hb (by simp [go_sem])
  have g5 : w1.frozen? ⟨w.heap.size, 5, none⟩ = false := ((bcell hb).2 _ _ (by simp; omega)).trans (by simp [go_sem])
  have f5 : w1.frozen? ⟨w.heap.size + 1, 5, none⟩ = false := ((bcell hb).2 _ _ (by simp)).trans (by simp [go_sem])
  have hs1 := hb.size
  simp only [World.size_alloc] at hs1
  have HB := hide (below_on (below_on (below_alloc _ _) (below_alloc _ _)) hb)
  have HO := hide ho
  clear hb ho
  go_wp2_with fail
  refine (l9Copy (HZ.out.later (HB.out.setCell (p := ⟨w.heap.size, 4, none⟩) (by simp) _)) HM'.out HL'.out).mono ?_
  rintro e w2 ⟨z2, rfl, hb, ho⟩
  obtain ⟨a2, c2, hz2⟩ := ho.shape
  rw [HME.out] at hz2
  subst hz2
  have y0 : w2.cell? ⟨w.heap.size, 0, none⟩ = some (.int .i64 a) := cell_later hb ((World.cell?_setCell_other _ _ _ _ (by simp)).trans o0)
  have x0 : w2.cell? ⟨w.heap.size + 1, 0, none⟩ = some (.int .i64 0) := cell_later hb ((World.cell?_setCell_other _ _ _ _ (by simp)).trans v0)
  have q0 : w2.frozen? ⟨w.heap.size, 0, none⟩ = false := ((bcell hb).2 _ _ (by simp; omega)).trans (by rw [World.frozen?_setCell]; exact g0)
  have p0 : w2.frozen? ⟨w.heap.size + 1, 0, none⟩ = false := ((bcell hb).2 _ _ (by simp; omega)).trans (by rw [World.frozen?_setCell]; exact f0)
  have y1 : w2.cell? ⟨w.heap.size, 1, none⟩ = some (.int .i64 b) := cell_later hb ((World.cell?_setCell_other _ _ _ _ (by simp)).trans o1)
  have x1 : w2.cell? ⟨w.heap.size + 1, 1, none⟩ = some (.int .i64 0) := cell_later hb ((World.cell?_setCell_other _ _ _ _ (by simp)).trans v1)
  have q1 : w2.frozen? ⟨w.heap.size, 1, none⟩ = false := ((bcell hb).2 _ _ (by simp; omega)).trans (by rw [World.frozen?_setCell]; exact g1)
  have p1 : w2.frozen? ⟨w.heap.size + 1, 1, none⟩ = false := ((bcell hb).2 _ _ (by simp; omega)).trans (by rw [World.frozen?_setCell]; exact f1)
  have y2 : w2.cell? ⟨w.heap.size, 2, none⟩ = some (.int .i64 c) := cell_later hb ((World.cell?_setCell_other _ _ _ _ (by simp)).trans o2)
  have x2 : w2.cell? ⟨w.heap.size + 1, 2, none⟩ = some (.int .i64 0) := cell_later hb ((World.cell?_setCell_other _ _ _ _ (by simp)).trans v2)
  have q2 : w2.frozen? ⟨w.heap.size, 2, none⟩ = false := ((bcell hb).2 _ _ (by simp; omega)).trans (by rw [World.frozen?_setCell]; exact g2)
  have p2 : w2.frozen? ⟨w.heap.size + 1, 2, none⟩ = false := ((bcell hb).2 _ _ (by simp; omega)).trans (by rw [World.frozen?_setCell]; exact f2)
  have y3 : w2.cell? ⟨w.heap.size, 3, none⟩ = some (.int .i64 d) := cell_later hb ((World.cell?_setCell_other _ _ _ _ (by simp)).trans o3)
  have x3 : w2.cell? ⟨w.heap.size + 1, 3, none⟩ = some (.int .i64 0) := cell_later hb ((World.cell?_setCell_other _ _ _ _ (by simp)).trans v3)
  have q3 : w2.frozen? ⟨w.heap.size, 3, none⟩ = false := ((bcell hb).2 _ _ (by simp; omega)).trans (by rw [World.frozen?_setCell]; exact g3)
  have p3 : w2.frozen? ⟨w.heap.size + 1, 3, none⟩ = false := ((bcell hb).2 _ _ (by simp; omega)).trans (by rw [World.frozen?_setCell]; exact f3)
  have y4 : w2.cell? ⟨w.heap.size, 4, none⟩ = some (.slice a1 l c1) := cell_later hb (World.cell?_setCell_same _ _ _ o4)
  have x4 : w2.cell? ⟨w.heap.size + 1, 4, none⟩ = some (.slice none 0 0) := cell_later hb ((World.cell?_setCell_other _ _ _ _ (by simp)).trans v4)
  have q4 : w2.frozen? ⟨w.heap.size, 4, none⟩ = false := ((bcell hb).2 _ _ (by simp; omega)).trans (by rw [World.frozen?_setCell]; exact g4)
  have p4 : w2.frozen? ⟨w.heap.size + 1, 4, none⟩ = false := ((bcell hb).2 _ _ (by simp; omega)).trans (by rw [World.frozen?_setCell]; exact f4)
  have y5 : w2.cell? ⟨w.heap.size, 5, none⟩ = some (.slice az m cz) := cell_later hb ((World.cell?_setCell_other _ _ _ _ (by simp)).trans o5)
  have x5 : w2.cell? ⟨w.heap.size + 1, 5, none⟩ = some (.slice none 0 0) := cell_later hb ((World.cell?_setCell_other _ _ _ _ (by simp)).trans v5)
  have q5 : w2.frozen? ⟨w.heap.size, 5, none⟩ = false := ((bcell hb).2 _ _ (by simp; omega)).trans (by rw [World.frozen?_setCell]; exact g5)
  have p5 : w2.frozen? ⟨w.heap.size + 1, 5, none⟩ = false := ((bcell hb).2 _ _ (by simp; omega)).trans (by rw [World.frozen?_setCell]; exact f5)
  have hs2 := hb.size
  simp only [World.size_setCell] at hs2
  have HB2 := hide (below_on (HB.out.setCell (p := ⟨w.heap.size, 4, none⟩) (by simp) _) hb)
  have HO2 := hide ((HO.out.iv.wr (T := fun x => x = w.heap.size) (Wr.setCell (p := ⟨w.heap.size, 4, none⟩) (Wr.refl (fun x => x = w.heap.size) _) rfl (.slice a1 l c1)) (fun b hb1 hb2 e => by simp at hb1; omega)).later hb)
  have HJ := hide (ho.ow rfl (by have := HM'.out; omega))
  simp only [World.size_setCell] at HJ
  clear hb ho HB HO o0 v0 g0 f0 o1 v1 g1 f1 o2 v2 g2 f2 o3 v3 g3 f3 o4 v4 g4 f4 o5 v5 g5 f5
  go_wp2
  refine bodyPost_ret (v := .agg #[.int .i64 a, .int .i64 b, .int .i64 c, .int .i64 d, .slice a1 l c1, .slice a2 m c2]) (by simp [results, Tryz.results43, go_sem, x0, x1, x2, x3, x4, x5]) rfl ⟨_, _, rfl, ?_, ?_⟩
  · repeat (first | refine Below.setCell ?_ (by first | (simp; done) | (simp; omega) | omega) _ | exact HB2.out)
  · refine IvR_made HO2.out HJ.out (by simp; omega) (by simp; omega) (Wr.mono (S := fun b => b < w.heap.size + 2) ?_ (fun b hb => by simp; omega))
    repeat (first | refine Wr.setCell ?_ (by first | (simp; done) | (simp; omega) | omega) _ | exact Wr.refl _ _)
end Go.Proofs.YtlliggfggadidaaGreatDoor
namespace Go.Proofs.YtlliggfggadidaaGreatDoor
open Go.RowKit
def entF (p : Oj) : Int :=
  if (1 ≤ p.1 ∧ p.1 ≤ 9999) ∧ 1 ≤ p.2.1 ∧ p.2.1 ≤ 999 then (if 6 < p.2.2.length then 2 else wordsF p.2.2) else 3
theorem entF_range {p : Oj} (h : ¬ ((1 ≤ p.1 ∧ p.1 ≤ 9999) ∧ 1 ≤ p.2.1 ∧ p.2.1 ≤ 999)) : entF p = 3 := by unfold entF; rw [if_neg h]
theorem entF_many {p : Oj} (h : (1 ≤ p.1 ∧ p.1 ≤ 9999) ∧ 1 ≤ p.2.1 ∧ p.2.1 ≤ 999) (h2 : 6 < p.2.2.length) : entF p = 2 := by unfold entF; rw [if_pos h, if_pos h2]
theorem entF_words {p : Oj} (h : (1 ≤ p.1 ∧ p.1 ≤ 9999) ∧ 1 ≤ p.2.1 ∧ p.2.1 ≤ 999) (h2 : ¬ 6 < p.2.2.length) : entF p = wordsF p.2.2 := by unfold entF; rw [if_pos h, if_neg h2]
theorem entF_zero {p : Oj} (h : entF p = 0) : ((1 ≤ p.1 ∧ p.1 ≤ 9999) ∧ 1 ≤ p.2.1 ∧ p.2.1 ≤ 999) ∧ p.2.2.length ≤ 6 ∧ wordsF p.2.2 = 0 := by
  unfold entF at h
  split at h
  · rename_i h1
    split at h
    · exact absurd h (by decide)
    · rename_i h2
      exact ⟨h1, by omega, h⟩
  · exact absurd h (by decide)
theorem isIndexY (a : Int) (h1 : 1 ≤ a) (h2 : a ≤ 9999) (w : World) : Calls Tryz.prog 61 #[.int .i64 a] w fun e w' => e = .returned (.bool true) ∧ w' = w := by
  have h1' : a ≥ 1 := h1
  go_enter Tryz.func61, Tryz.ntmps61
  go_wp2
  go_ret
  exact ⟨rfl, rfl⟩
theorem isIndexN (a : Int) (h : ¬ (1 ≤ a ∧ a ≤ 9999)) (w : World) : Calls Tryz.prog 61 #[.int .i64 a] w fun e w' => e = .returned (.bool false) ∧ w' = w := by
  by_cases h1 : 1 ≤ a
  · have h2 : ¬ a ≤ 9999 := fun h2 => h ⟨h1, h2⟩
    have h1' : a ≥ 1 := h1
    clear h
    go_enter Tryz.func61, Tryz.ntmps61
    go_wp2
    go_ret
    exact ⟨rfl, rfl⟩
  · have h1' : ¬ a ≥ 1 := h1
    clear h
    go_enter Tryz.func61, Tryz.ntmps61
    go_wp2
    go_ret
    exact ⟨rfl, rfl⟩
theorem isTermY (a : Int) (h1 : 1 ≤ a) (h2 : a ≤ 999) (w : World) : Calls Tryz.prog 99 #[.int .i64 a] w fun e w' => e = .returned (.bool true) ∧ w' = w := by
  have h1' : a ≥ 1 := h1
  go_enter Tryz.func99, Tryz.ntmps99
  go_wp2
  go_ret
  exact ⟨rfl, rfl⟩
theorem isTermN (a : Int) (h : ¬ (1 ≤ a ∧ a ≤ 999)) (w : World) : Calls Tryz.prog 99 #[.int .i64 a] w fun e w' => e = .returned (.bool false) ∧ w' = w := by
  by_cases h1 : 1 ≤ a
  · have h2 : ¬ a ≤ 999 := fun h2 => h ⟨h1, h2⟩
    have h1' : a ≥ 1 := h1
    clear h
    go_enter Tryz.func99, Tryz.ntmps99
    go_wp2
    go_ret
    exact ⟨rfl, rfl⟩
  · have h1' : ¬ a ≥ 1 := h1
    clear h
    go_enter Tryz.func99, Tryz.ntmps99
    go_wp2
    go_ret
    exact ⟨rfl, rfl⟩
theorem l9IndexY (a : Int) (h1 : 1 ≤ a) (h2 : a ≤ 9999) (w : World) : Calls Tryz.prog 74 #[.int .i64 a] w fun e w' => e = .returned (.bool true) ∧ w' = w := by
  go_enter Tryz.func74, Tryz.ntmps74
  go_wp2_with fail
  refine (l1In_yes a 1 9999 h1 h2 _).mono ?_
  rintro e w' ⟨rfl, rfl⟩
  go_wp2
  go_ret
  exact ⟨rfl, rfl⟩
theorem l9IndexN (a : Int) (h : ¬ (1 ≤ a ∧ a ≤ 9999)) (w : World) : Calls Tryz.prog 74 #[.int .i64 a] w fun e w' => e = .returned (.bool false) ∧ w' = w := by
  go_enter Tryz.func74, Tryz.ntmps74
  go_wp2_with fail
  refine (l1In_no a 1 9999 (by omega) _).mono ?_
  rintro e w' ⟨rfl, rfl⟩
  go_wp2
  go_ret
  exact ⟨rfl, rfl⟩
theorem l9TermY (a : Int) (h1 : 1 ≤ a) (h2 : a ≤ 999) (w : World) : Calls Tryz.prog 110 #[.int .i64 a] w fun e w' => e = .returned (.bool true) ∧ w' = w := by
  go_enter Tryz.func110, Tryz.ntmps110
  go_wp2_with fail
  refine (l1In_yes a 1 999 h1 h2 _).mono ?_
  rintro e w' ⟨rfl, rfl⟩
  go_wp2
  go_ret
  exact ⟨rfl, rfl⟩
theorem l9TermN (a : Int) (h : ¬ (1 ≤ a ∧ a ≤ 999)) (w : World) : Calls Tryz.prog 110 #[.int .i64 a] w fun e w' => e = .returned (.bool false) ∧ w' = w := by
  go_enter Tryz.func110, Tryz.ntmps110
  go_wp2_with fail
  refine (l1In_no a 1 999 (by omega) _).mono ?_
  rintro e w' ⟨rfl, rfl⟩
  go_wp2
  go_ret
  exact ⟨rfl, rfl⟩
set_option maxHeartbeats 2000000 in
set_option maxRecDepth 4000 in
theorem implEntryFault {S : Nat → Prop} {w : World} {y : Value} {xs : List Int} (a t : Int) (hy : RdI S w y xs) :
    Calls Tryz.prog 65 #[.agg #[.int .i64 a, .int .i64 t, y]] w fun e w' => e = .returned (.int .i64 (entF (a, t, xs))) ∧ Below w.heap.size w w' := by
  have HY := hide hy
  have hyl : xs.length ≤ 9223372036854775807 := by obtain ⟨_, _, _, h, _⟩ := hy; exact h
  obtain ⟨ay, cy, rfl⟩ := hy.shape
  obtain ⟨n, hn⟩ : ∃ n, xs.length = n := ⟨_, rfl⟩
  have HN := hide hn
  rw [hn] at HY hyl ⊢
  clear hy hn
  obtain ⟨z, hz⟩ : ∃ z, entF (a, t, xs) = z := ⟨_, rfl⟩
  have HZ := hide hz
  rw [hz]
  clear hz
  have A0 := hide (below_alloc w (.cells #[.int .i64 a, .int .i64 t, .slice ay n cy] 58))
  by_cases h1 : 1 ≤ a ∧ a ≤ 9999
  · by_cases h2 : 1 ≤ t ∧ t ≤ 999
    · have HG := hide (show (1 ≤ a ∧ a ≤ 9999) ∧ 1 ≤ t ∧ t ≤ 999 from ⟨h1, h2.1, h2.2⟩)
      clear h1 h2
      by_cases h3 : 6 < n
      · have hz2 : z = 2 := HZ.out.symm.trans (entF_many HG.out (by show 6 < xs.length; rw [HN.out]; exact h3))
        subst hz2
        go_enter Tryz.func65, Tryz.ntmps65
        go_wp2_with fail
        refine (isIndexY a HG.out.1.1 HG.out.1.2 _).mono ?_
        rintro e w' ⟨rfl, hw⟩
        have hw := hw.symm
        subst hw
        go_wp2_with fail
        refine (isTermY t HG.out.2.1 HG.out.2.2 _).mono ?_
        rintro e w' ⟨rfl, hw⟩
        have hw := hw.symm
        subst hw
        go_wp2
        go_ret
        exact ⟨rfl, A0.out⟩
      · have hzw := HZ.out.symm.trans (entF_words HG.out (by show ¬ 6 < xs.length; rw [HN.out]; exact h3))
        have HW := hide hzw
        clear hzw
        go_enter Tryz.func65, Tryz.ntmps65
        go_wp2_with fail
        refine (isIndexY a HG.out.1.1 HG.out.1.2 _).mono ?_
        rintro e w' ⟨rfl, hw⟩
        have hw := hw.symm
        subst hw
        go_wp2_with fail
        refine (isTermY t HG.out.2.1 HG.out.2.2 _).mono ?_
        rintro e w' ⟨rfl, hw⟩
        have hw := hw.symm
        subst hw
        go_wp2_with fail
        refine (wordsFault (HY.out.later A0.out)).mono ?_
        rintro e w4 ⟨he, q, rfl⟩
        rw [← HW.out] at he
        subst he
        go_wp2
        go_ret
        exact ⟨rfl, below_on A0.out (below_drewN _ _)⟩
    · have hz3 : z = 3 := HZ.out.symm.trans (entF_range (fun h => h2 h.2))
      subst hz3
      have H2 := hide h2
      have H1 := hide h1
      clear h1 h2
      go_enter Tryz.func65, Tryz.ntmps65
      go_wp2_with fail
      refine (isIndexY a H1.out.1 H1.out.2 _).mono ?_
      rintro e w' ⟨rfl, hw⟩
      have hw := hw.symm
      subst hw
      go_wp2_with fail
      refine (isTermN t H2.out _).mono ?_
      rintro e w' ⟨rfl, hw⟩
      have hw := hw.symm
      subst hw
      go_wp2
      go_ret
      exact ⟨rfl, A0.out⟩
  · have hz3 : z = 3 := HZ.out.symm.trans (entF_range (fun h => h1 h.1))
    subst hz3
    have H1 := hide h1
    clear h1
    go_enter Tryz.func65, Tryz.ntmps65
    go_wp2_with fail
    refine (isIndexN a H1.out _).mono ?_
    rintro e w' ⟨rfl, hw⟩
    have hw := hw.symm
    subst hw
    go_wp2
    go_ret
    exact ⟨rfl, A0.out⟩
set_option maxHeartbeats 2000000 in
set_option maxRecDepth 4000 in
theorem l9One {S : Nat → Prop} {w : World} {b off : Nat} {p : Oj} (hp : RdFp S w b off p) :
    Calls Tryz.prog 87 #[.pointer (some ⟨b, off, none⟩)] w fun e w' => e = .returned (.int .i64 (entF p)) ∧ (∃ q, w' = w.drewN q) := by
  obtain ⟨y, g0, g1, g2, hy⟩ := hp
  obtain ⟨a, t, xs⟩ := p
  dsimp only at g0 g1 g2 hy
  have HY := hide hy
  have hyl : xs.length ≤ 9223372036854775807 := by obtain ⟨_, _, _, h, _⟩ := hy; exact h
  obtain ⟨ay, cy, rfl⟩ := hy.shape
  obtain ⟨n, hn⟩ : ∃ n, xs.length = n := ⟨_, rfl⟩
  have HN := hide hn
  rw [hn] at HY hyl g2
  clear hy hn
  obtain ⟨z, hz⟩ : ∃ z, entF (a, t, xs) = z := ⟨_, rfl⟩
  have HZ := hide hz
  rw [hz]
  clear hz
  by_cases h1 : 1 ≤ a ∧ a ≤ 9999
  · by_cases h2 : 1 ≤ t ∧ t ≤ 999
    · have HG := hide (show (1 ≤ a ∧ a ≤ 9999) ∧ 1 ≤ t ∧ t ≤ 999 from ⟨h1, h2.1, h2.2⟩)
      clear h1 h2
      by_cases h3 : 6 < n
      · have hz2 : z = 2 := HZ.out.symm.trans (entF_many HG.out (by show 6 < xs.length; rw [HN.out]; exact h3))
        subst hz2
        go_enter Tryz.func87, Tryz.ntmps87
        go_wp2_with fail
        refine (l9IndexY a HG.out.1.1 HG.out.1.2 _).mono ?_
        rintro e w' ⟨rfl, hw⟩
        have hw := hw.symm
        subst hw
        go_wp2_with fail
        refine (l9TermY t HG.out.2.1 HG.out.2.2 _).mono ?_
        rintro e w' ⟨rfl, hw⟩
        have hw := hw.symm
        subst hw
        go_wp2
        go_ret
        exact ⟨rfl, 0, rfl⟩
      · have hzw := HZ.out.symm.trans (entF_words HG.out (by show ¬ 6 < xs.length; rw [HN.out]; exact h3))
        have HW := hide hzw
        clear hzw
        go_enter Tryz.func87, Tryz.ntmps87
        go_wp2_with fail
        refine (l9IndexY a HG.out.1.1 HG.out.1.2 _).mono ?_
        rintro e w' ⟨rfl, hw⟩
        have hw := hw.symm
        subst hw
        go_wp2_with fail
        refine (l9TermY t HG.out.2.1 HG.out.2.2 _).mono ?_
        rintro e w' ⟨rfl, hw⟩
        have hw := hw.symm
        subst hw
        go_wp2_with fail
        refine (l1Words HY.out).mono ?_
        rintro e w4 ⟨he, q, rfl⟩
        rw [← HW.out] at he
        subst he
        go_wp2
        go_ret
        exact ⟨rfl, q, rfl⟩
    · have hz3 : z = 3 := HZ.out.symm.trans (entF_range (fun h => h2 h.2))
      subst hz3
      have H2 := hide h2
      have H1 := hide h1
      clear h1 h2
      go_enter Tryz.func87, Tryz.ntmps87
      go_wp2_with fail
      refine (l9IndexY a H1.out.1 H1.out.2 _).mono ?_
      rintro e w' ⟨rfl, hw⟩
      have hw := hw.symm
      subst hw
      go_wp2_with fail
      refine (l9TermN t H2.out _).mono ?_
      rintro e w' ⟨rfl, hw⟩
      have hw := hw.symm
      subst hw
      go_wp2
      go_ret
      exact ⟨rfl, 0, rfl⟩
  · have hz3 : z = 3 := HZ.out.symm.trans (entF_range (fun h => h1 h.1))
    subst hz3
    have H1 := hide h1
    clear h1
    go_enter Tryz.func87, Tryz.ntmps87
    go_wp2_with fail
    refine (l9IndexN a H1.out _).mono ?_
    rintro e w' ⟨rfl, hw⟩
    have hw := hw.symm
    subst hw
    go_wp2
    go_ret
    exact ⟨rfl, 0, rfl⟩
end Go.Proofs.YtlliggfggadidaaGreatDoor
namespace Go.Proofs.YtlliggfggadidaaGreatDoor
def cfr (g : Nat → Int) : Nat → Nat → Int
  | 0, _ => 0
  | n + 1, k => if g k = 0 then cfr g n (k + 1) else g k
theorem cfr_ok {g : Nat → Int} {m j : Nat} (hj : j < m) (h : g j = 0) : cfr g (m - j) j = cfr g (m - (j + 1)) (j + 1) := by
  rw [show m - j = (m - (j + 1)) + 1 by omega, cfr, if_pos h]
theorem cfr_no {g : Nat → Int} {m j : Nat} (hj : j < m) (h : g j ≠ 0) : cfr g (m - j) j = g j := by
  rw [show m - j = (m - (j + 1)) + 1 by omega, cfr, if_neg h]
theorem cfr_end {g : Nat → Int} {m j : Nat} (hj : ¬ j < m) : cfr g (m - j) j = 0 := by
  rw [show m - j = 0 by omega, cfr]
end Go.Proofs.YtlliggfggadidaaGreatDoor
