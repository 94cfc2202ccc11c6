/- Ra2 Iv6 Iv4 Iv5 in one text: what each says stands at its head below. -/
import Derived.Test.YtlmaopljihbdkaaGreatG13
import Derived.Test.YtlmaopljihbdkaaGreatG07
/- Chapter 10: a store copied; held; a code with a store marked and held. -/
namespace Go.Proofs.YtlmaopljihbdkaaGreat
open Go.RowKit
theorem IvR_made {lo1 C lo : Nat} {w w' : World} {y z : Value} {xs : List Int} {ps : List Oj} (ho : IvI lo1 C w y xs) (hj : OwJ (fun b => C ≤ b ∧ b < w.heap.size) w z ps) (h1 : lo ≤ lo1) (h2 : lo1 ≤ C) (hw : Wr (fun b => b < lo1) w w') : IvR lo w'.heap.size w' y z xs ps := by
  obtain ⟨b, k1, k2⟩ := ho
  refine ⟨b, fun b => C ≤ b ∧ b < w.heap.size, k1.wr hw (fun hn x hx e => by subst hx; have := (k2 hn).1; omega), fun hn => ?_, Nat.le_refl _, fun x hx => ⟨by omega, Nat.lt_of_lt_of_le hx.2 hw.size⟩, hj.wr hw fun x hx e => by omega⟩
  obtain ⟨g1, g2, g3, g4⟩ := k2 hn
  exact ⟨by omega, Nat.lt_of_lt_of_le g3 hw.size, fun h => by omega, fun o => (hw.frz _ _ g3).trans (g4 o)⟩


set_option maxHeartbeats 4000000 in
set_option maxRecDepth 4000 in
theorem toRaft {S T : Nat → Prop} {w : World} {y z : Value} {xs : List Int} {ps : List Oj} (a b c d : Int) (hy : RdI S w y xs) (hz : RdJ T w z ps) (hm : xs.length ≤ 1048576) (hm' : ps.length ≤ 1048576) (hl' : ∀ i, i < ps.length → (ps.getD i oj0).2.2.length ≤ 1048576) :
    Calls Tryz.prog 8 #[.agg #[.int .i64 a, .int .i64 b, .int .i64 c, .int .i64 d, y, z]] w fun e w' =>
      ∃ y' z', e = .returned (.agg #[.int .i64 a, .int .i64 b, .int .i64 c, .int .i64 d, y', z']) ∧ Below w.heap.size w w' ∧ IvR w.heap.size w'.heap.size w' y' z' xs ps := by
  have HY := hide hy
  have HZ := hide hz
  have HL' := hide hl'
  have HM := hide hm
  obtain ⟨ay, cy, rfl⟩ := hy.shape
  obtain ⟨az, cz, rfl, _⟩ := hz.shape
  obtain ⟨l, hl⟩ : ∃ l, xs.length = l := ⟨_, rfl⟩
  obtain ⟨m, hme⟩ : ∃ m, ps.length = m := ⟨_, rfl⟩
  have HL := hide hl
  have HME := hide hme
  rw [hl] at HY ⊢
  rw [hme] at HZ ⊢
  have HM' := hide hm'
  clear hy hz hl' hm hm' hl hme
  go_enter Tryz.func8, Tryz.ntmps8
  go_wp2_with fail
  refine (toI' (((HY.out.later (below_alloc _ _)).later (below_alloc _ _)).later (below_alloc _ _)) HM.out).mono ?_
  rintro e w1 ⟨z1, rfl, hb, ho⟩
  obtain ⟨a1, c1, hz1⟩ := ho.shape
  rw [HL.out] at hz1
  subst hz1
  have v0 : w1.cell? ⟨w.heap.size + 1, 0, none⟩ = some (.int .i64 0) := cell_later hb (by simp [go_sem])
  have o0 : w1.cell? ⟨w.heap.size + 2, 0, none⟩ = some (.int .i64 a) := cell_later hb (by simp [go_sem])
  have f0 : w1.frozen? ⟨w.heap.size + 1, 0, none⟩ = false := ((bcell hb).2 _ _ (by simp)).trans (by simp [go_sem])
  have g0 : w1.frozen? ⟨w.heap.size + 2, 0, none⟩ = false := ((bcell hb).2 _ _ (by simp)).trans (by simp [go_sem])
  have v1 : w1.cell? ⟨w.heap.size + 1, 1, none⟩ = some (.int .i64 0) := cell_later hb (by simp [go_sem])
  have o1 : w1.cell? ⟨w.heap.size + 2, 1, none⟩ = some (.int .i64 b) := cell_later hb (by simp [go_sem])
  have f1 : w1.frozen? ⟨w.heap.size + 1, 1, none⟩ = false := ((bcell hb).2 _ _ (by simp)).trans (by simp [go_sem])
  have g1 : w1.frozen? ⟨w.heap.size + 2, 1, none⟩ = false := ((bcell hb).2 _ _ (by simp)).trans (by simp [go_sem])
  have v2 : w1.cell? ⟨w.heap.size + 1, 2, none⟩ = some (.int .i64 0) := cell_later hb (by simp [go_sem])
  have o2 : w1.cell? ⟨w.heap.size + 2, 2, none⟩ = some (.int .i64 c) := cell_later hb (by simp [go_sem])
  have f2 : w1.frozen? ⟨w.heap.size + 1, 2, none⟩ = false := ((bcell hb).2 _ _ (by simp)).trans (by simp [go_sem])
  have g2 : w1.frozen? ⟨w.heap.size + 2, 2, none⟩ = false := ((bcell hb).2 _ _ (by simp)).trans (by simp [go_sem])
  have v3 : w1.cell? ⟨w.heap.size + 1, 3, none⟩ = some (.int .i64 0) := cell_later hb (by simp [go_sem])
  have o3 : w1.cell? ⟨w.heap.size + 2, 3, none⟩ = some (.int .i64 d) := cell_later hb (by simp [go_sem])
  have f3 : w1.frozen? ⟨w.heap.size + 1, 3, none⟩ = false := ((bcell hb).2 _ _ (by simp)).trans (by simp [go_sem])
  have g3 : w1.frozen? ⟨w.heap.size + 2, 3, none⟩ = false := ((bcell hb).2 _ _ (by simp)).trans (by simp [go_sem])
  have v4 : w1.cell? ⟨w.heap.size + 1, 4, none⟩ = some (.slice none 0 0) := cell_later hb (by simp [go_sem])
  have o4 : w1.cell? ⟨w.heap.size + 2, 4, none⟩ = some (.slice none 0 0) := cell_later hb (by simp [go_sem])
  have f4 : w1.frozen? ⟨w.heap.size + 1, 4, none⟩ = false := ((bcell hb).2 _ _ (by simp)).trans (by simp [go_sem])
  have g4 : w1.frozen? ⟨w.heap.size + 2, 4, none⟩ = false := ((bcell hb).2 _ _ (by simp)).trans (by simp [go_sem])
  have v5 : w1.cell? ⟨w.heap.size + 1, 5, none⟩ = some (.slice none 0 0) := cell_later hb (by simp [go_sem])
  have o5 : w1.cell? ⟨w.heap.size + 2, 5, none⟩ = some (.slice none 0 0) := cell_later hb (by simp [go_sem])
  have f5 : w1.frozen? ⟨w.heap.size + 1, 5, none⟩ = false := ((bcell hb).2 _ _ (by simp)).trans (by simp [go_sem])
  have g5 : w1.frozen? ⟨w.heap.size + 2, 5, none⟩ = false := ((bcell hb).2 _ _ (by simp)).trans (by simp [go_sem])
  have k5 : w1.cell? ⟨w.heap.size, 5, none⟩ = some (.slice az m cz) := cell_later hb (by simp [go_sem])
  have hs1 := hb.size
  simp only [World.size_alloc] at hs1
  have HB := hide (below_on (below_on (below_on (below_alloc _ _) (below_alloc _ _)) (below_alloc _ _)) hb)
  have HO := hide ho
  clear hb ho
  go_wp2_with fail
  refine (toEn (HZ.out.later (HB.out.setCell (p := ⟨w.heap.size + 2, 4, none⟩) (by simp) _)) HM'.out HL'.out).mono ?_
  rintro e w2 ⟨z2, rfl, hb, ho⟩
  obtain ⟨a2, c2, hz2⟩ := ho.shape
  rw [HME.out] at hz2
  subst hz2
  have x0 : w2.cell? ⟨w.heap.size + 1, 0, none⟩ = some (.int .i64 0) := cell_later hb ((World.cell?_setCell_other _ _ _ _ (by simp)).trans v0)
  have y0 : w2.cell? ⟨w.heap.size + 2, 0, none⟩ = some (.int .i64 a) := cell_later hb ((World.cell?_setCell_other _ _ _ _ (by simp)).trans o0)
  have p0 : w2.frozen? ⟨w.heap.size + 1, 0, none⟩ = false := ((bcell hb).2 _ _ (by simp; omega)).trans (by rw [World.frozen?_setCell]; exact f0)
  have q0 : w2.frozen? ⟨w.heap.size + 2, 0, none⟩ = false := ((bcell hb).2 _ _ (by simp; omega)).trans (by rw [World.frozen?_setCell]; exact g0)
  have x1 : w2.cell? ⟨w.heap.size + 1, 1, none⟩ = some (.int .i64 0) := cell_later hb ((World.cell?_setCell_other _ _ _ _ (by simp)).trans v1)
  have y1 : w2.cell? ⟨w.heap.size + 2, 1, none⟩ = some (.int .i64 b) := cell_later hb ((World.cell?_setCell_other _ _ _ _ (by simp)).trans o1)
  have p1 : w2.frozen? ⟨w.heap.size + 1, 1, none⟩ = false := ((bcell hb).2 _ _ (by simp; omega)).trans (by rw [World.frozen?_setCell]; exact f1)
  have q1 : w2.frozen? ⟨w.heap.size + 2, 1, none⟩ = false := ((bcell hb).2 _ _ (by simp; omega)).trans (by rw [World.frozen?_setCell]; exact g1)
  have x2 : w2.cell? ⟨w.heap.size + 1, 2, none⟩ = some (.int .i64 0) := cell_later hb ((World.cell?_setCell_other _ _ _ _ (by simp)).trans v2)
  have y2 : w2.cell? ⟨w.heap.size + 2, 2, none⟩ = some (.int .i64 c) := cell_later hb ((World.cell?_setCell_other _ _ _ _ (by simp)).trans o2)
  have p2 : w2.frozen? ⟨w.heap.size + 1, 2, none⟩ = false := ((bcell hb).2 _ _ (by simp; omega)).trans (by rw [World.frozen?_setCell]; exact f2)
  have q2 : w2.frozen? ⟨w.heap.size + 2, 2, none⟩ = false := ((bcell hb).2 _ _ (by simp; omega)).trans (by rw [World.frozen?_setCell]; exact g2)
  have x3 : w2.cell? ⟨w.heap.size + 1, 3, none⟩ = some (.int .i64 0) := cell_later hb ((World.cell?_setCell_other _ _ _ _ (by simp)).trans v3)
  have y3 : w2.cell? ⟨w.heap.size + 2, 3, none⟩ = some (.int .i64 d) := cell_later hb ((World.cell?_setCell_other _ _ _ _ (by simp)).trans o3)
  have p3 : w2.frozen? ⟨w.heap.size + 1, 3, none⟩ = false := ((bcell hb).2 _ _ (by simp; omega)).trans (by rw [World.frozen?_setCell]; exact f3)
  have q3 : w2.frozen? ⟨w.heap.size + 2, 3, none⟩ = false := ((bcell hb).2 _ _ (by simp; omega)).trans (by rw [World.frozen?_setCell]; exact g3)
  have x4 : w2.cell? ⟨w.heap.size + 1, 4, none⟩ = some (.slice none 0 0) := cell_later hb ((World.cell?_setCell_other _ _ _ _ (by simp)).trans v4)
  have y4 : w2.cell? ⟨w.heap.size + 2, 4, none⟩ = some (.slice a1 l c1) := cell_later hb (World.cell?_setCell_same _ _ _ o4)
  have p4 : w2.frozen? ⟨w.heap.size + 1, 4, none⟩ = false := ((bcell hb).2 _ _ (by simp; omega)).trans (by rw [World.frozen?_setCell]; exact f4)
  have q4 : w2.frozen? ⟨w.heap.size + 2, 4, none⟩ = false := ((bcell hb).2 _ _ (by simp; omega)).trans (by rw [World.frozen?_setCell]; exact g4)
  have x5 : w2.cell? ⟨w.heap.size + 1, 5, none⟩ = some (.slice none 0 0) := cell_later hb ((World.cell?_setCell_other _ _ _ _ (by simp)).trans v5)
  have y5 : w2.cell? ⟨w.heap.size + 2, 5, none⟩ = some (.slice none 0 0) := cell_later hb ((World.cell?_setCell_other _ _ _ _ (by simp)).trans o5)
  have p5 : w2.frozen? ⟨w.heap.size + 1, 5, none⟩ = false := ((bcell hb).2 _ _ (by simp; omega)).trans (by rw [World.frozen?_setCell]; exact f5)
  have q5 : w2.frozen? ⟨w.heap.size + 2, 5, none⟩ = false := ((bcell hb).2 _ _ (by simp; omega)).trans (by rw [World.frozen?_setCell]; exact g5)
  have hs2 := hb.size
  simp only [World.size_setCell] at hs2
  have HB2 := hide (below_on (HB.out.setCell (p := ⟨w.heap.size + 2, 4, none⟩) (by simp) _) hb)
  have HO2 := hide ((HO.out.iv.wr (T := fun x => x = w.heap.size + 2) (Wr.setCell (p := ⟨w.heap.size + 2, 4, none⟩) (Wr.refl (fun x => x = w.heap.size + 2) _) rfl (.slice a1 l c1)) (fun b hb1 hb2 e => by simp at hb1; omega)).later hb)
  simp only [World.size_setCell] at ho
  have HJ := hide ho
  clear hb ho HB HO k5 v0 o0 f0 g0 v1 o1 f1 g1 v2 o2 f2 g2 v3 o3 f3 g3 v4 o4 f4 g4 v5 o5 f5 g5
  go_wp2
  refine bodyPost_ret (v := .agg #[.int .i64 a, .int .i64 b, .int .i64 c, .int .i64 d, .slice a1 l c1, .slice a2 m c2]) (by simp [results, Tryz.results8, go_sem, x0, x1, x2, x3, x4, x5]) rfl ⟨_, _, rfl, ?_, ?_⟩
  · repeat (first | refine Below.setCell ?_ (by first | (simp; done) | (simp; omega) | omega) _ | exact HB2.out)
  · refine IvR_made HO2.out HJ.out (by simp; omega) (by simp; omega) (Wr.mono (S := fun b => b < w.heap.size + 3) ?_ (fun b hb => by simp; omega))
    repeat (first | refine Wr.setCell ?_ (by first | (simp; done) | (simp; omega) | omega) _ | exact Wr.refl _ _)

set_option maxHeartbeats 2000000 in
set_option maxRecDepth 4000 in
theorem heldRaft {lo hi : Nat} {w : World} {y z : Value} {n : Nat} {ps : List Oj} {k : Int} (a b c d : Int) (h : MkR k lo hi w y z n ps) (hk0 : 0 ≤ k) (hk : k + ((n : Int) + (totJ ps ps.length : Int)) ≤ 9223372036854775807) :
    Calls Tryz.prog 55 #[.agg #[.int .i64 a, .int .i64 b, .int .i64 c, .int .i64 d, y, z], .int .i64 k] w fun e w' =>
      e = .returned (.int .i64 (k + ((n : Int) + (totJ ps ps.length : Int)))) ∧ Below w.heap.size w w' := by
  have H1 := hide h.1
  have H2 := hide h.2
  obtain ⟨ay, cy, hy⟩ := h.1.shape
  obtain ⟨az, cz, hz, _⟩ := RdJ.shape h.2
  rw [mkI_len] at hy
  rw [mkJ_len] at hz
  subst hy
  subst hz
  clear h
  obtain ⟨m, hm⟩ : ∃ m, ps.length = m := ⟨_, rfl⟩
  obtain ⟨t, ht⟩ : ∃ t : Nat, totJ ps ps.length = t := ⟨_, rfl⟩
  have HT := hide ht
  rw [ht] at hk ⊢
  rw [hm] at H2 ⊢
  clear ht hm
  go_enter Tryz.func55, Tryz.ntmps55
  go_wp2_with fail
  refine (heldI (H1.out.later (below_alloc _ _)) hk0 (by omega)).mono ?_
  rintro e w1 ⟨rfl, q, rfl⟩
  have hp : ¬ k + (n : Int) < 0 := by omega
  go_wp2_with fail
  refine (heldEn ((RdJ.later H2.out (below_alloc _ _)).later (below_drewN _ q)) (by omega) (by rw [HT.out]; omega)).mono ?_
  rintro e w2 ⟨he, q2, rfl⟩
  rw [HT.out, Int.add_assoc] at he
  subst he
  have hp2 : ¬ k + ((n : Int) + (t : Int)) < 0 := by omega
  go_wp2
  go_ret
  exact ⟨rfl, below_on (below_alloc _ _) (below_drewN _ _)⟩

set_option maxHeartbeats 2000000 in
set_option maxRecDepth 4000 in
theorem heldRaftResult {lo hi : Nat} {w : World} {x : Int} {y z : Value} {n : Nat} {ps : List Oj} {k : Int} (a b c d : Int) (h : MkR k lo hi w y z n ps) (hk0 : 0 ≤ k) (hk : k + ((n : Int) + (totJ ps ps.length : Int)) ≤ 9223372036854775807) :
    Calls Tryz.prog 23 #[.agg #[.int .i64 x, .int .i64 a, .int .i64 b, .int .i64 c, .int .i64 d, y, z], .int .i64 k] w fun e w' =>
      e = .returned (.int .i64 (k + ((n : Int) + (totJ ps ps.length : Int)))) ∧ Below w.heap.size w w' := by
  have H1 := hide h
  obtain ⟨ay, cy, hy⟩ := h.1.shape
  obtain ⟨az, cz, hz, _⟩ := RdJ.shape h.2
  rw [mkI_len] at hy
  rw [mkJ_len] at hz
  subst hy
  subst hz
  clear h
  obtain ⟨M, hM⟩ : ∃ M, k + ((n : Int) + (totJ ps ps.length : Int)) = M := ⟨_, rfl⟩
  have HM := hide hM
  have HK := hide hk
  have hpos : 0 ≤ M := by omega
  rw [hM]
  obtain ⟨m, hm⟩ : ∃ m, ps.length = m := ⟨_, rfl⟩
  have HMm := hide hm
  rw [hm] at H1 ⊢
  clear hM hk hm
  go_enter Tryz.func23, Tryz.ntmps23
  go_wp2_with fail
  refine (heldRaft a b c d (H1.out.later (below_alloc _ _)) hk0 HK.out).mono ?_
  rintro e w1 ⟨he, hb⟩
  rw [HM.out] at he
  subst he
  have HB := hide (below_on (below_alloc _ _) hb)
  clear hb
  go_wp2
  go_ret
  exact ⟨rfl, HB.out⟩

set_option maxHeartbeats 2000000 in
set_option maxRecDepth 4000 in
theorem markRaftResult {lo hi : Nat} {w : World} {x : Int} {y z : Value} {xs : List Int} {ps : List Oj} {k : Int} (a b c d : Int) (h : IvR lo hi w y z xs ps) (hk0 : 0 ≤ k) (hk : k + ((xs.length : Int) + (totJ ps ps.length : Int)) ≤ 9223372036854775807) :
    Calls Tryz.prog 22 #[.agg #[.int .i64 x, .int .i64 a, .int .i64 b, .int .i64 c, .int .i64 d, y, z], .int .i64 k] w fun e w' =>
      e = .returned (.int .i64 (k + ((xs.length : Int) + (totJ ps ps.length : Int)))) ∧ MkR k lo hi w' y z xs.length ps ∧ Wr (fun b => lo ≤ b ∧ b < hi) w w' := by
  obtain ⟨ay, cy, az, cz, rfl, rfl⟩ := h.shape
  have H1 := hide h
  clear h
  obtain ⟨M, hM⟩ : ∃ M, k + ((xs.length : Int) + (totJ ps ps.length : Int)) = M := ⟨_, rfl⟩
  have HM := hide hM
  have HK := hide hk
  rw [hM]
  obtain ⟨l, hl⟩ : ∃ l, xs.length = l := ⟨_, rfl⟩
  obtain ⟨m, hm⟩ : ∃ m, ps.length = m := ⟨_, rfl⟩
  have HL := hide hl
  rw [hm, hl] at H1 ⊢
  clear hM hk hm hl
  go_enter Tryz.func22, Tryz.ntmps22
  go_wp2_with fail
  refine (markRaft a b c d (H1.out.later (below_alloc _ _)) hk0 HK.out).mono ?_
  rintro e w1 ⟨he, hm, hw⟩
  rw [HM.out] at he
  rw [HL.out] at hm
  subst he
  have HMk := hide hm
  have HW := hide (wr_on (below_alloc _ _) hw)
  clear hm hw
  go_wp2
  go_ret
  exact ⟨rfl, HMk.out, HW.out⟩
end Go.Proofs.YtlmaopljihbdkaaGreat
/- Variables of six and of seven cells. -/
namespace Go.Proofs.YtlmaopljihbdkaaGreat
open Go.RowKit

def Var6 (w : World) (b : Nat) (x0 x1 x2 x3 x4 x5 : Value) : Prop := w.cell? ⟨b, 0, none⟩ = some x0 ∧ w.cell? ⟨b, 1, none⟩ = some x1 ∧ w.cell? ⟨b, 2, none⟩ = some x2 ∧ w.cell? ⟨b, 3, none⟩ = some x3 ∧ w.cell? ⟨b, 4, none⟩ = some x4 ∧ w.cell? ⟨b, 5, none⟩ = some x5
theorem Var6.later {w w' : World} {b : Nat} {x0 x1 x2 x3 x4 x5 : Value} (h : Var6 w b x0 x1 x2 x3 x4 x5) (hb : Below w.heap.size w w') : Var6 w' b x0 x1 x2 x3 x4 x5 :=
  ⟨cell_later hb h.1, cell_later hb h.2.1, cell_later hb h.2.2.1, cell_later hb h.2.2.2.1, cell_later hb h.2.2.2.2.1, cell_later hb h.2.2.2.2.2⟩
theorem Var6.wr {S : Nat → Prop} {w w' : World} {b : Nat} {x0 x1 x2 x3 x4 x5 : Value} (h : Var6 w b x0 x1 x2 x3 x4 x5) (hb : Wr S w w') (hd : ¬ S b) : Var6 w' b x0 x1 x2 x3 x4 x5 :=
  ⟨cell_wr hb h.1 hd, cell_wr hb h.2.1 hd, cell_wr hb h.2.2.1 hd, cell_wr hb h.2.2.2.1 hd, cell_wr hb h.2.2.2.2.1 hd, cell_wr hb h.2.2.2.2.2 hd⟩
theorem Var6.lt {w : World} {b : Nat} {x0 x1 x2 x3 x4 x5 : Value} (h : Var6 w b x0 x1 x2 x3 x4 x5) : b < w.heap.size := World.block_lt_of_cell? _ _ h.1
theorem Var6_new (w : World) (x0 x1 x2 x3 x4 x5 : Value) (t : TypeId) : Var6 (w.alloc (.cells #[x0, x1, x2, x3, x4, x5] t)) w.heap.size x0 x1 x2 x3 x4 x5 := by
  refine ⟨?_, ?_, ?_, ?_, ?_, ?_⟩ <;> simp [go_sem]
def Var7 (w : World) (b : Nat) (x0 x1 x2 x3 x4 x5 x6 : Value) : Prop := w.cell? ⟨b, 0, none⟩ = some x0 ∧ w.cell? ⟨b, 1, none⟩ = some x1 ∧ w.cell? ⟨b, 2, none⟩ = some x2 ∧ w.cell? ⟨b, 3, none⟩ = some x3 ∧ w.cell? ⟨b, 4, none⟩ = some x4 ∧ w.cell? ⟨b, 5, none⟩ = some x5 ∧ w.cell? ⟨b, 6, none⟩ = some x6
theorem Var7.later {w w' : World} {b : Nat} {x0 x1 x2 x3 x4 x5 x6 : Value} (h : Var7 w b x0 x1 x2 x3 x4 x5 x6) (hb : Below w.heap.size w w') : Var7 w' b x0 x1 x2 x3 x4 x5 x6 :=
  ⟨cell_later hb h.1, cell_later hb h.2.1, cell_later hb h.2.2.1, cell_later hb h.2.2.2.1, cell_later hb h.2.2.2.2.1, cell_later hb h.2.2.2.2.2.1, cell_later hb h.2.2.2.2.2.2⟩
theorem Var7.wr {S : Nat → Prop} {w w' : World} {b : Nat} {x0 x1 x2 x3 x4 x5 x6 : Value} (h : Var7 w b x0 x1 x2 x3 x4 x5 x6) (hb : Wr S w w') (hd : ¬ S b) : Var7 w' b x0 x1 x2 x3 x4 x5 x6 :=
  ⟨cell_wr hb h.1 hd, cell_wr hb h.2.1 hd, cell_wr hb h.2.2.1 hd, cell_wr hb h.2.2.2.1 hd, cell_wr hb h.2.2.2.2.1 hd, cell_wr hb h.2.2.2.2.2.1 hd, cell_wr hb h.2.2.2.2.2.2 hd⟩
theorem Var7.lt {w : World} {b : Nat} {x0 x1 x2 x3 x4 x5 x6 : Value} (h : Var7 w b x0 x1 x2 x3 x4 x5 x6) : b < w.heap.size := World.block_lt_of_cell? _ _ h.1
theorem Var7_new (w : World) (x0 x1 x2 x3 x4 x5 x6 : Value) (t : TypeId) : Var7 (w.alloc (.cells #[x0, x1, x2, x3, x4, x5, x6] t)) w.heap.size x0 x1 x2 x3 x4 x5 x6 := by
  refine ⟨?_, ?_, ?_, ?_, ?_, ?_, ?_⟩ <;> simp [go_sem]
end Go.Proofs.YtlmaopljihbdkaaGreat
/- Four cells of a variable. -/
namespace Go.Proofs.YtlmaopljihbdkaaGreat
open Go.RowKit

def Var4 (w : World) (b : Nat) (x y z u : Value) : Prop := w.cell? ⟨b, 0, none⟩ = some x ∧ w.cell? ⟨b, 1, none⟩ = some y ∧ w.cell? ⟨b, 2, none⟩ = some z ∧ w.cell? ⟨b, 3, none⟩ = some u
theorem Var4.later {w w' : World} {b : Nat} {x y z u : Value} (h : Var4 w b x y z u) (hb : Below w.heap.size w w') : Var4 w' b x y z u :=
  ⟨cell_later hb h.1, cell_later hb h.2.1, cell_later hb h.2.2.1, cell_later hb h.2.2.2⟩
theorem Var4.wr {S : Nat → Prop} {w w' : World} {b : Nat} {x y z u : Value} (h : Var4 w b x y z u) (hb : Wr S w w') (hd : ¬ S b) : Var4 w' b x y z u :=
  ⟨cell_wr hb h.1 hd, cell_wr hb h.2.1 hd, cell_wr hb h.2.2.1 hd, cell_wr hb h.2.2.2 hd⟩
theorem Var4.lt {w : World} {b : Nat} {x y z u : Value} (h : Var4 w b x y z u) : b < w.heap.size := World.block_lt_of_cell? _ _ h.1
theorem Var4_new (w : World) (x y z u : Value) (t : TypeId) : Var4 (w.alloc (.cells #[x, y, z, u] t)) w.heap.size x y z u := by
  refine ⟨?_, ?_, ?_, ?_⟩ <;> simp [go_sem]
theorem IvI.mono {lo hi lo' hi' : Nat} {w : World} {v : Value} {xs : List Int} (h : IvI lo hi w v xs) (h1 : lo' ≤ lo) (h2 : hi ≤ hi') : IvI lo' hi' w v xs := by
  obtain ⟨b, k1, k2⟩ := h
  exact ⟨b, k1, fun hne => ⟨Nat.le_trans h1 (k2 hne).1, Nat.lt_of_lt_of_le (k2 hne).2.1 h2, (k2 hne).2.2⟩⟩
theorem set4_other {w : World} {b h o : Nat} {x y z u : Value} (hb : b ≠ h) : ((((w.setCell ⟨h, 0, none⟩ x).setCell ⟨h, 1, none⟩ y).setCell ⟨h, 2, none⟩ z).setCell ⟨h, 3, none⟩ u).cell? ⟨b, o, none⟩ = w.cell? ⟨b, o, none⟩ := by
  rw [World.cell?_setCell_other _ _ _ _ (by intro e; injection e with e1 _; exact hb e1.symm), World.cell?_setCell_other _ _ _ _ (by intro e; injection e with e1 _; exact hb e1.symm), World.cell?_setCell_other _ _ _ _ (by intro e; injection e with e1 _; exact hb e1.symm), World.cell?_setCell_other _ _ _ _ (by intro e; injection e with e1 _; exact hb e1.symm)]
/-- Of the world that a region that draws stands in no more is kept than R. -/
theorem forgetH {P : Program} {md : Region.Mode} {ops : Array Oper} {Q : Exit → Act → World → Prop} {S : World → Prop} {fuel : Nat} {listed : Array Bool} {a : Act} {w0 : World} (R : World → Prop) (h0 : R w0) (h : ∀ w, R w → wpAnyH P md ops Q S fuel listed a w) : wpAnyH P md ops Q S fuel listed a w0 := h _ h0
end Go.Proofs.YtlmaopljihbdkaaGreat
/- Stores into two or three cells of a variable; what is elsewhere stays. -/
namespace Go.Proofs.YtlmaopljihbdkaaGreat
open Go.RowKit

theorem set2_other {w : World} {b h o : Nat} {x y : Value} (hb : b ≠ h) : ((w.setCell ⟨h, 0, none⟩ x).setCell ⟨h, 1, none⟩ y).cell? ⟨b, o, none⟩ = w.cell? ⟨b, o, none⟩ := by
  rw [World.cell?_setCell_other _ _ _ _ (by intro e; injection e with e1 _; exact hb e1.symm), World.cell?_setCell_other _ _ _ _ (by intro e; injection e with e1 _; exact hb e1.symm)]
theorem set3_other {w : World} {b h o : Nat} {x y z : Value} (hb : b ≠ h) : (((w.setCell ⟨h, 0, none⟩ x).setCell ⟨h, 1, none⟩ y).setCell ⟨h, 2, none⟩ z).cell? ⟨b, o, none⟩ = w.cell? ⟨b, o, none⟩ := by
  rw [World.cell?_setCell_other _ _ _ _ (by intro e; injection e with e1 _; exact hb e1.symm), set2_other hb]
end Go.Proofs.YtlmaopljihbdkaaGreat
