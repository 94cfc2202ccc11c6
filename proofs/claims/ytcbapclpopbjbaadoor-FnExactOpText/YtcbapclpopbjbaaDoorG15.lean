/- Ra2 in one text: what each says stands at its head below. -/
import Derived.Test.YtcbapclpopbjbaaDoorG14
/- Chapter 10: a store copied; held; a code with a store marked and held. -/
namespace Go.Proofs.YtcbapclpopbjbaaDoor
open Go.RowKit
theorem IvR_made {lo1 C lo : Nat} {w w' : World} {y z : Value} {xs : List Int} {ps : List Oj} (ho : IvI lo1 C w y xs) (hj : OwJ (fun b => C ≤ b ∧ b < w.heap.size) w z ps) (h1 : lo ≤ lo1) (h2 : lo1 ≤ C) (hw : Wr (fun b => b < lo1) w w') : IvR lo w'.heap.size w' y z xs ps := by
  obtain ⟨b, k1, k2⟩ := ho
  refine ⟨b, fun b => C ≤ b ∧ b < w.heap.size, k1.wr hw (fun hn x hx e => by subst hx; have := (k2 hn).1; omega), fun hn => ?_, Nat.le_refl _, fun x hx => ⟨by omega, Nat.lt_of_lt_of_le hx.2 hw.size⟩, hj.wr hw fun x hx e => by omega⟩
  obtain ⟨g1, g2, g3, g4⟩ := k2 hn
  exact ⟨by omega, Nat.lt_of_lt_of_le g3 hw.size, fun h => by omega, fun o => (hw.frz _ _ g3).trans (g4 o)⟩


set_option maxHeartbeats 4000000 in
set_option maxRecDepth 4000 in
theorem toRaft {S T : Nat → Prop} {w : World} {y z : Value} {xs : List Int} {ps : List Oj} (a b c d : Int) (hy : RdI S w y xs) (hz : RdJ T w z ps) (hm : xs.length ≤ 1048576) (hm' : ps.length ≤ 1048576) (hl' : ∀ i, i < ps.length → (ps.getD i oj0).2.2.length ≤ 1048576) :
    Calls Tryd.prog 19 #[.agg #[.int .i64 a, .int .i64 b, .int .i64 c, .int .i64 d, y, z]] w fun e w' =>
      ∃ y' z', e = .returned (.agg #[.int .i64 a, .int .i64 b, .int .i64 c, .int .i64 d, y', z']) ∧ Below w.heap.size w w' ∧ IvR w.heap.size w'.heap.size w' y' z' xs ps := by
  have HY := hide hy
  have HZ := hide hz
  have HL' := hide hl'
  have HM := hide hm
  obtain ⟨ay, cy, rfl⟩ := hy.shape
  obtain ⟨az, cz, rfl, _⟩ := hz.shape
  obtain ⟨l, hl⟩ : ∃ l, xs.length = l := ⟨_, rfl⟩
  obtain ⟨m, hme⟩ : ∃ m, ps.length = m := ⟨_, rfl⟩
  have HL := hide hl
  have HME := hide hme
  rw [hl] at HY ⊢
  rw [hme] at HZ ⊢
  have HM' := hide hm'
  clear hy hz hl' hm hm' hl hme
  go_enter Tryd.func19, Tryd.ntmps19
  go_wp2_with fail
  refine (toI' (((HY.out.later (below_alloc _ _)).later (below_alloc _ _)).later (below_alloc _ _)) HM.out).mono ?_
  rintro e w1 ⟨z1, rfl, hb, ho⟩
  obtain ⟨a1, c1, hz1⟩ := ho.shape
  rw [HL.out] at hz1
  subst hz1
  have v0 : w1.cell? ⟨w.heap.size + 1, 0, none⟩ = some (.int .i64 0) := cell_later hb (by simp [go_sem])
  have o0 : w1.cell? ⟨w.heap.size + 2, 0, none⟩ = some (.int .i64 a) := cell_later hb (by simp [go_sem])
  have f0 : w1.frozen? ⟨w.heap.size + 1, 0, none⟩ = false := ((bcell hb).2 _ _ (by simp)).trans (by simp [go_sem])
  have g0 : w1.frozen? ⟨w.heap.size + 2, 0, none⟩ = false := ((bcell hb).2 _ _ (by simp)).trans (by simp [go_sem])
  have v1 : w1.cell? ⟨w.heap.size + 1, 1, none⟩ = some (.int .i64 0) := cell_later hb (by simp [go_sem])
  have o1 : w1.cell? ⟨w.heap.size + 2, 1, none⟩ = some (.int .i64 b) := cell_later hb (by simp [go_sem])
  have f1 : w1.frozen? ⟨w.heap.size + 1, 1, none⟩ = false := ((bcell hb).2 _ _ (by simp)).trans (by simp [go_sem])
  have g1 : w1.frozen? ⟨w.heap.size + 2, 1, none⟩ = false := ((bcell hb).2 _ _ (by simp)).trans (by simp [go_sem])
  have v2 : w1.cell? ⟨w.heap.size + 1, 2, none⟩ = some (.int .i64 0) := cell_later hb (by simp [go_sem])
  have o2 : w1.cell? ⟨w.heap.size + 2, 2, none⟩ = some (.int .i64 c) := cell_later hb (by simp [go_sem])
  have f2 : w1.frozen? ⟨w.heap.size + 1, 2, none⟩ = false := ((bcell hb).2 _ _ (by simp)).trans (by simp [go_sem])
  have g2 : w1.frozen? ⟨w.heap.size + 2, 2, none⟩ = false := ((bcell hb).2 _ _ (by simp)).trans (by simp [go_sem])
  have v3 : w1.cell? ⟨w.heap.size + 1, 3, none⟩ = some (.int .i64 0) := cell_later hb (by simp [go_sem])
  have o3 : w1.cell? ⟨w.heap.size + 2, 3, none⟩ = some (.int .i64 d) := cell_later hb (by simp [go_sem])
  have f3 : w1.frozen? ⟨w.heap.size + 1, 3, none⟩ = false := ((bcell hb).2 _ _ (by simp)).trans (by simp [go_sem])
  have g3 : w1.frozen? ⟨w.heap.size + 2, 3, none⟩ = false := ((bcell hb).2 _ _ (by simp)).trans (by simp [go_sem])
  have v4 : w1.cell? ⟨w.heap.size + 1, 4, none⟩ = some (.slice none 0 0) := cell_later hb (by simp [go_sem])
  have o4 : w1.cell? ⟨w.heap.size + 2, 4, none⟩ = some (.slice none 0 0) := cell_later hb (by simp [go_sem])
  have f4 : w1.frozen? ⟨w.heap.size + 1, 4, none⟩ = false := ((bcell hb).2 _ _ (by simp)).trans (by simp [go_sem])
  have g4 : w1.frozen? ⟨w.heap.size + 2, 4, none⟩ = false := ((bcell hb).2 _ _ (by simp)).trans (by simp [go_sem])
  have v5 : w1.cell? ⟨w.heap.size + 1, 5, none⟩ = some (.slice none 0 0) := cell_later hb (by simp [go_sem])
  have o5 : w1.cell? ⟨w.heap.size + 2, 5, none⟩ = some (.slice none 0 0) := cell_later hb (by simp [go_sem])
  have f5 : w1.frozen? ⟨w.heap.size + 1, 5, none⟩ = false := ((bcell hb).2 _ _ (by simp)).trans (by simp [go_sem])
  have g5 : w1.frozen? ⟨w.heap.size + 2, 5, none⟩ = false := ((bcell hb).2 _ _ (by simp)).trans (by simp [go_sem])
  have k5 : w1.cell? ⟨w.heap.size, 5, none⟩ = some (.slice az m cz) := cell_later hb (by simp [go_sem])
  have hs1 := hb.size
  simp only [World.size_alloc] at hs1
  have HB := hide (below_on (below_on (below_on (below_alloc _ _) (below_alloc _ _)) (below_alloc _ _)) hb)
  have HO := hide ho
  clear hb ho
  go_wp2_with fail
  refine (toEn (HZ.out.later (HB.out.setCell (p := ⟨w.heap.size + 2, 4, none⟩) (by simp) _)) HM'.out HL'.out).mono ?_
  rintro e w2 ⟨z2, rfl, hb, ho⟩
  obtain ⟨a2, c2, hz2⟩ := ho.shape
  rw [HME.out] at hz2
  subst hz2
  have x0 : w2.cell? ⟨w.heap.size + 1, 0, none⟩ = some (.int .i64 0) := cell_later hb ((World.cell?_setCell_other _ _ _ _ (by simp)).trans v0)
  have y0 : w2.cell? ⟨w.heap.size + 2, 0, none⟩ = some (.int .i64 a) := cell_later hb ((World.cell?_setCell_other _ _ _ _ (by simp)).trans o0)
  have p0 : w2.frozen? ⟨w.heap.size + 1, 0, none⟩ = false := ((bcell hb).2 _ _ (by simp; omega)).trans (by rw [World.frozen?_setCell]; exact f0)
  have q0 : w2.frozen? ⟨w.heap.size + 2, 0, none⟩ = false := ((bcell hb).2 _ _ (by simp; omega)).trans (by rw [World.frozen?_setCell]; exact g0)
  have x1 : w2.cell? ⟨w.heap.size + 1, 1, none⟩ = some (.int .i64 0) := cell_later hb ((World.cell?_setCell_other _ _ _ _ (by simp)).trans v1)
  have y1 : w2.cell? ⟨w.heap.size + 2, 1, none⟩ = some (.int .i64 b) := cell_later hb ((World.cell?_setCell_other _ _ _ _ (by simp)).trans o1)
  have p1 : w2.frozen? ⟨w.heap.size + 1, 1, none⟩ = false := ((bcell hb).2 _ _ (by simp; omega)).trans (by rw [World.frozen?_setCell]; exact f1)
  have q1 : w2.frozen? ⟨w.heap.size + 2, 1, none⟩ = false := ((bcell hb).2 _ _ (by simp; omega)).trans (by rw [World.frozen?_setCell]; exact g1)
  have x2 : w2.cell? ⟨w.heap.size + 1, 2, none⟩ = some (.int .i64 0) := cell_later hb ((World.cell?_setCell_other _ _ _ _ (by simp)).trans v2)
  have y2 : w2.cell? ⟨w.heap.size + 2, 2, none⟩ = some (.int .i64 c) := cell_later hb ((World.cell?_setCell_other _ _ _ _ (by simp)).trans o2)
  have p2 : w2.frozen? ⟨w.heap.size + 1, 2, none⟩ = false := ((bcell hb).2 _ _ (by simp; omega)).trans (by rw [World.frozen?_setCell]; exact f2)
  have q2 : w2.frozen? ⟨w.heap.size + 2, 2, none⟩ = false := ((bcell hb).2 _ _ (by simp; omega)).trans (by rw [World.frozen?_setCell]; exact g2)
  have x3 : w2.cell? ⟨w.heap.size + 1, 3, none⟩ = some (.int .i64 0) := cell_later hb ((World.cell?_setCell_other _ _ _ _ (by simp)).trans v3)
  have y3 : w2.cell? ⟨w.heap.size + 2, 3, none⟩ = some (.int .i64 d) := cell_later hb ((World.cell?_setCell_other _ _ _ _ (by simp)).trans o3)
  have p3 : w2.frozen? ⟨w.heap.size + 1, 3, none⟩ = false := ((bcell hb).2 _ _ (by simp; omega)).trans (by rw [World.frozen?_setCell]; exact f3)
  have q3 : w2.frozen? ⟨w.heap.size + 2, 3, none⟩ = false := ((bcell hb).2 _ _ (by simp; omega)).trans (by rw [World.frozen?_setCell]; exact g3)
  have x4 : w2.cell? ⟨w.heap.size + 1, 4, none⟩ = some (.slice none 0 0) := cell_later hb ((World.cell?_setCell_other _ _ _ _ (by simp)).trans v4)
  have y4 : w2.cell? ⟨w.heap.size + 2, 4, none⟩ = some (.slice a1 l c1) := cell_later hb (World.cell?_setCell_same _ _ _ o4)
  have p4 : w2.frozen? ⟨w.heap.size + 1, 4, none⟩ = false := ((bcell hb).2 _ _ (by simp; omega)).trans (by rw [World.frozen?_setCell]; exact f4)
  have q4 : w2.frozen? ⟨w.heap.size + 2, 4, none⟩ = false := ((bcell hb).2 _ _ (by simp; omega)).trans (by rw [World.frozen?_setCell]; exact g4)
  have x5 : w2.cell? ⟨w.heap.size + 1, 5, none⟩ = some (.slice none 0 0) := cell_later hb ((World.cell?_setCell_other _ _ _ _ (by simp)).trans v5)
  have y5 : w2.cell? ⟨w.heap.size + 2, 5, none⟩ = some (.slice none 0 0) := cell_later hb ((World.cell?_setCell_other _ _ _ _ (by simp)).trans o5)
  have p5 : w2.frozen? ⟨w.heap.size + 1, 5, none⟩ = false := ((bcell hb).2 _ _ (by simp; omega)).trans (by rw [World.frozen?_setCell]; exact f5)
  have q5 : w2.frozen? ⟨w.heap.size + 2, 5, none⟩ = false := ((bcell hb).2 _ _ (by simp; omega)).trans (by rw [World.frozen?_setCell]; exact g5)
  have hs2 := hb.size
  simp only [World.size_setCell] at hs2
  have HB2 := hide (below_on (HB.out.setCell (p := ⟨w.heap.size + 2, 4, none⟩) (by simp) _) hb)
  have HO2 := hide ((HO.out.iv.wr (T := fun x => x = w.heap.size + 2) (Wr.setCell (p := ⟨w.heap.size + 2, 4, none⟩) (Wr.refl (fun x => x = w.heap.size + 2) _) rfl (.slice a1 l c1)) (fun b hb1 hb2 e => by simp at hb1; omega)).later hb)
  simp only [World.size_setCell] at ho
  have HJ := hide ho
  clear hb ho HB HO k5 v0 o0 f0 g0 v1 o1 f1 g1 v2 o2 f2 g2 v3 o3 f3 g3 v4 o4 f4 g4 v5 o5 f5 g5
  go_wp2
  refine bodyPost_ret (v := .agg #[.int .i64 a, .int .i64 b, .int .i64 c, .int .i64 d, .slice a1 l c1, .slice a2 m c2]) (by simp [results, Tryd.results19, go_sem, x0, x1, x2, x3, x4, x5]) rfl ⟨_, _, rfl, ?_, ?_⟩
  · repeat (first | refine Below.setCell ?_ (by first | (simp; done) | (simp; omega) | omega) _ | exact HB2.out)
  · refine IvR_made HO2.out HJ.out (by simp; omega) (by simp; omega) (Wr.mono (S := fun b => b < w.heap.size + 3) ?_ (fun b hb => by simp; omega))
    repeat (first | refine Wr.setCell ?_ (by first | (simp; done) | (simp; omega) | omega) _ | exact Wr.refl _ _)

end Go.Proofs.YtcbapclpopbjbaaDoor
