/- Sw Open OpenP OpenE OpenR OpenWd Fp3 in one text: what each says stands at its head below. -/
import Derived.Test.YtlmaopljihbdkaaGreatG07
import Derived.Test.YtlmaopljihbdkaaGreatG01
import Derived.ProofKit
import Derived.Lib.SmallJoins
import Derived.Deep.SlicePairs
import Derived.Test.YtlmaopljihbdkaaGreatG05
namespace Go.Proofs.YtlmaopljihbdkaaGreat
open Go.RowKit
def szW (xss : List (List Int)) (ps : List (Int × List Int)) (xs : List Int) (es : List Oj) : Int := szD xss ps + ((xs.length : Int) + szU es)
set_option maxHeartbeats 2000000 in
set_option maxRecDepth 4000 in
theorem szWorld {S1 S2 S3 S4 : Nat → Prop} {w : World} {u v y z : Value} {xss : List (List Int)} {ps : List (Int × List Int)} {xs : List Int} {es : List Oj} {left : Int} (a b c d : Int) (hu : RdII S1 w u xss) (hv : RdP S2 w v ps) (hy : RdI S3 w y xs) (hz : RdJ S4 w z es) (h0 : 0 ≤ left) (h1 : left ≤ 1048576) :
    Calls Tryz.prog 24 #[.agg #[u, v, .int .i64 a, .int .i64 b, .int .i64 c, .int .i64 d, y, z], .int .i64 left] w fun e w' => e = .returned (.int .i64 (szv left (szW xss ps xs es))) ∧ Below w.heap.size w w' := by
  obtain ⟨au, cu, rfl⟩ := hu.shapeW
  obtain ⟨av, cv, rfl⟩ := hv.shapeW
  obtain ⟨ay, cy, rfl⟩ := hy.shape
  obtain ⟨az, cz, rfl⟩ := hz.shapeW
  have HD := hide (fun (w' : World) (hb : Below w.heap.size w w') => szDisk (left := left) (hu.later hb) (hv.later hb) h0 h1)
  have HE := hide (fun (w' : World) (hb : Below w.heap.size w w') (l : Int) => szRaft (left := l) a b c d (hy.later hb) (hz.later hb))
  have hn0 : 0 ≤ szD xss ps := by unfold szD; omega
  have hn1 : 0 ≤ (xs.length : Int) + szU es := by have := szU_nonneg es; omega
  unfold szW
  obtain ⟨s1, e1⟩ : ∃ s, szD xss ps = s := ⟨_, rfl⟩
  obtain ⟨s2, e2⟩ : ∃ s, (xs.length : Int) + szU es = s := ⟨_, rfl⟩
  rw [e1] at HD hn0 ⊢
  rw [e2] at HE hn1 ⊢
  clear e1 e2
  obtain ⟨l1, e1⟩ : ∃ l, xss.length = l := ⟨_, rfl⟩
  obtain ⟨l2, e2⟩ : ∃ l, ps.length = l := ⟨_, rfl⟩
  obtain ⟨l3, e3⟩ : ∃ l, xs.length = l := ⟨_, rfl⟩
  obtain ⟨l4, e4⟩ : ∃ l, es.length = l := ⟨_, rfl⟩
  rw [e1, e2] at HD ⊢
  rw [e3, e4] at HE ⊢
  clear hu hv hy hz e1 e2 e3 e4
  have BA := hide (below_alloc w (.cells #[.slice au l1 cu, .slice av l2 cv, .int .i64 a, .int .i64 b, .int .i64 c, .int .i64 d, .slice ay l3 cy, .slice az l4 cz] 55))
  have VA := hide (Var8_new w (.slice au l1 cu) (.slice av l2 cv) (.int .i64 a) (.int .i64 b) (.int .i64 c) (.int .i64 d) (.slice ay l3 cy) (.slice az l4 cz) 55)
  by_cases h : s1 ≤ left
  · have HS := hide (szv_yes h)
    have hp : ¬ left - s1 < 0 := by omega
    go_enter Tryz.func24, Tryz.ntmps24
    go_wp2_with fail
    refine (HD.out _ BA.out).mono ?_
    rintro e w1 ⟨he, hb⟩
    rw [HS.out] at he
    subst he
    have B1 := hide (below_on BA.out hb)
    have V1 := hide (VA.out.later hb)
    clear hb
    obtain ⟨c0, c1, c2, c3, c4, c5, c6, c7⟩ := V1.out
    go_wp2_with fail
    refine (HE.out _ B1.out _ (by omega) (by omega)).mono ?_
    rintro e w2 ⟨he, hb⟩
    have HB := hide (below_on B1.out hb)
    clear hb c0 c1 c2 c3 c4 c5 c6 c7
    by_cases h2 : s2 ≤ left - s1
    · rw [szv_yes h2] at he
      subst he
      have hp2 : ¬ left - s1 - s2 < 0 := by omega
      have hr : szv left (s1 + s2) = left - s1 - s2 := by rw [szv_yes (by omega)]; omega
      have HR := hide hr
      clear hr h2
      go_wp2
      go_ret
      exact ⟨ret_int HR.out.symm, HB.out⟩
    · rw [szv_no (by omega)] at he
      subst he
      have HR := hide (szv_no (left := left) (s := s1 + s2) (by omega))
      clear h2
      go_wp2
      go_ret
      exact ⟨ret_int HR.out.symm, HB.out⟩
  · have HS := hide (szv_no (left := left) (s := s1) (by omega))
    have HR := hide (szv_no (left := left) (s := s1 + s2) (by omega))
    go_enter Tryz.func24, Tryz.ntmps24
    go_wp2_with fail
    refine (HD.out _ BA.out).mono ?_
    rintro e w1 ⟨he, hb⟩
    rw [HS.out] at he
    subst he
    have B1 := hide (below_on BA.out hb)
    clear hb
    go_wp2
    go_ret
    exact ⟨ret_int HR.out.symm, B1.out⟩
set_option maxHeartbeats 4000000 in
set_option maxRecDepth 4000 in
theorem toWorld {S1 S2 S3 S4 : Nat → Prop} {w : World} {u v y z : Value} {xss : List (List Int)} {ps : List (Int × List Int)} {xs : List Int} {es : List Oj} (a b c d : Int) (hu : RdII S1 w u xss) (hv : RdP S2 w v ps) (hy : RdI S3 w y xs) (hz : RdJ S4 w z es)
    (h1 : xss.length ≤ 1048576) (h2 : ∀ i, i < xss.length → (xss.getD i []).length ≤ 1048576) (h3 : ps.length ≤ 1048576) (h4 : ∀ i, i < ps.length → (ps.getD i (0, [])).2.length ≤ 1048576)
    (h5 : xs.length ≤ 1048576) (h6 : es.length ≤ 1048576) (h7 : ∀ i, i < es.length → (es.getD i oj0).2.2.length ≤ 1048576) :
    Calls Tryz.prog 26 #[.agg #[u, v, .int .i64 a, .int .i64 b, .int .i64 c, .int .i64 d, y, z]] w fun e w' =>
      ∃ u' v' y' z', e = .returned (.agg #[u', v', .int .i64 a, .int .i64 b, .int .i64 c, .int .i64 d, y', z']) ∧ Below w.heap.size w w' ∧ IvW w.heap.size w'.heap.size w' u' v' y' z' xss ps xs es := by
  obtain ⟨au, cu, rfl⟩ := hu.shapeW
  obtain ⟨av, cv, rfl⟩ := hv.shapeW
  obtain ⟨ay, cy, rfl⟩ := hy.shape
  obtain ⟨az, cz, rfl⟩ := hz.shapeW
  have HD := hide (fun (w' : World) (hb : Below w.heap.size w w') => toDisk (hu.later hb) (hv.later hb) h1 h2 h3 h4)
  have HE := hide (fun (w' : World) (hb : Below w.heap.size w w') => toRaft a b c d (hy.later hb) (hz.later hb) h5 h6 h7)
  obtain ⟨l1, e1⟩ : ∃ l, xss.length = l := ⟨_, rfl⟩
  obtain ⟨l2, e2⟩ : ∃ l, ps.length = l := ⟨_, rfl⟩
  obtain ⟨l3, e3⟩ : ∃ l, xs.length = l := ⟨_, rfl⟩
  obtain ⟨l4, e4⟩ : ∃ l, es.length = l := ⟨_, rfl⟩
  have E1 := hide e1
  have E2 := hide e2
  have E3 := hide e3
  have E4 := hide e4
  rw [e1, e2] at HD ⊢
  rw [e3, e4] at HE ⊢
  clear hu hv hy hz e1 e2 e3 e4 h1 h2 h3 h4 h5 h6 h7
  have BA := hide (below_alloc w (.cells #[.slice au l1 cu, .slice av l2 cv, .int .i64 a, .int .i64 b, .int .i64 c, .int .i64 d, .slice ay l3 cy, .slice az l4 cz] 55))
  have VA := hide (Var8_new w (.slice au l1 cu) (.slice av l2 cv) (.int .i64 a) (.int .i64 b) (.int .i64 c) (.int .i64 d) (.slice ay l3 cy) (.slice az l4 cz) 55)
  go_enter Tryz.func26, Tryz.ntmps26
  go_wp2_with fail
  refine (HD.out _ (below_on (below_on BA.out (below_alloc _ _)) (below_alloc _ _))).mono ?_
  rintro e w1 ⟨u1, v1, rfl, hb, ho⟩
  obtain ⟨a1, b1, k1, j1, hu1, hv1⟩ : ∃ a1 b1 k1 j1, u1 = .slice a1 xss.length k1 ∧ v1 = .slice b1 ps.length j1 := by
    obtain ⟨_, _, _, _, _, h4, h5⟩ := ho
    obtain ⟨a1, k1, e1⟩ := h4.rd.shapeW
    obtain ⟨b1, j1, e2⟩ := h5.rd.shapeW
    exact ⟨_, _, _, _, e1, e2⟩
  rw [E1.out] at hu1
  rw [E2.out] at hv1
  subst hu1
  subst hv1
  have v0 : w1.cell? ⟨w.heap.size + 1, 0, none⟩ = some (.slice none 0 0) := cell_later hb (by simp [go_sem])
  have o0 : w1.cell? ⟨w.heap.size + 2, 0, none⟩ = some (.slice none 0 0) := cell_later hb (by simp [go_sem])
  have v1 : w1.cell? ⟨w.heap.size + 1, 1, none⟩ = some (.slice none 0 0) := cell_later hb (by simp [go_sem])
  have o1 : w1.cell? ⟨w.heap.size + 2, 1, none⟩ = some (.slice none 0 0) := cell_later hb (by simp [go_sem])
  have v2 : w1.cell? ⟨w.heap.size + 1, 2, none⟩ = some (.int .i64 0) := cell_later hb (by simp [go_sem])
  have o2 : w1.cell? ⟨w.heap.size + 2, 2, none⟩ = some (.int .i64 0) := cell_later hb (by simp [go_sem])
  have v3 : w1.cell? ⟨w.heap.size + 1, 3, none⟩ = some (.int .i64 0) := cell_later hb (by simp [go_sem])
  have o3 : w1.cell? ⟨w.heap.size + 2, 3, none⟩ = some (.int .i64 0) := cell_later hb (by simp [go_sem])
  have v4 : w1.cell? ⟨w.heap.size + 1, 4, none⟩ = some (.int .i64 0) := cell_later hb (by simp [go_sem])
  have o4 : w1.cell? ⟨w.heap.size + 2, 4, none⟩ = some (.int .i64 0) := cell_later hb (by simp [go_sem])
  have v5 : w1.cell? ⟨w.heap.size + 1, 5, none⟩ = some (.int .i64 0) := cell_later hb (by simp [go_sem])
  have o5 : w1.cell? ⟨w.heap.size + 2, 5, none⟩ = some (.int .i64 0) := cell_later hb (by simp [go_sem])
  have v6 : w1.cell? ⟨w.heap.size + 1, 6, none⟩ = some (.slice none 0 0) := cell_later hb (by simp [go_sem])
  have o6 : w1.cell? ⟨w.heap.size + 2, 6, none⟩ = some (.slice none 0 0) := cell_later hb (by simp [go_sem])
  have v7 : w1.cell? ⟨w.heap.size + 1, 7, none⟩ = some (.slice none 0 0) := cell_later hb (by simp [go_sem])
  have o7 : w1.cell? ⟨w.heap.size + 2, 7, none⟩ = some (.slice none 0 0) := cell_later hb (by simp [go_sem])
  have HF1 : ∀ o, w1.frozen? ⟨w.heap.size + 1, o, none⟩ = false := fun o => ((bcell hb).2 _ _ (by simp)).trans (by simp [go_sem])
  have HF2 : ∀ o, w1.frozen? ⟨w.heap.size + 2, o, none⟩ = false := fun o => ((bcell hb).2 _ _ (by simp)).trans (by simp [go_sem])
  have f1 := hide HF1
  have f2 := hide HF2
  clear HF1 HF2
  have p0 := f1.out 0
  have q0 := f2.out 0
  have p1 := f1.out 1
  have q1 := f2.out 1
  have p2 := f1.out 2
  have q2 := f2.out 2
  have p3 := f1.out 3
  have q3 := f2.out 3
  have p4 := f1.out 4
  have q4 := f2.out 4
  have p5 := f1.out 5
  have q5 := f2.out 5
  have p6 := f1.out 6
  have q6 := f2.out 6
  have p7 := f1.out 7
  have q7 := f2.out 7
  have V1 := hide (((VA.out.later (below_alloc _ _)).later (below_alloc _ _)).later hb)
  obtain ⟨c0, c1, c2, c3, c4, c5, c6, c7⟩ := V1.out
  have hs1 := hb.size
  simp only [World.size_alloc] at hs1 ho
  have HB := hide (below_on (below_on (below_on BA.out (below_alloc _ _)) (below_alloc _ _)) hb)
  have HO := hide ho
  clear hb ho
  go_wp2_with fail
  refine (HE.out _ ((HB.out.setCell (p := ⟨w.heap.size + 2, 0, none⟩) (by simp) _).setCell (p := ⟨w.heap.size + 2, 1, none⟩) (by simp) _)).mono ?_
  rintro e w2 ⟨y1, z1, rfl, hb, ho⟩
  obtain ⟨a2, k2, b2, j2, hy1, hz1⟩ := ho.shape
  rw [E3.out] at hy1
  rw [E4.out] at hz1
  subst hy1
  subst hz1
  have x0 : w2.cell? ⟨w.heap.size + 1, 0, none⟩ = some (.slice none 0 0) := cell_later hb ((World.cell?_setCell_other _ _ _ _ (by simp)).trans ((World.cell?_setCell_other _ _ _ _ (by simp)).trans v0))
  have y0 : w2.cell? ⟨w.heap.size + 2, 0, none⟩ = some (.slice a1 l1 k1) := cell_later hb ((World.cell?_setCell_other _ _ _ _ (by simp)).trans (World.cell?_setCell_same _ _ _ o0))
  have g10 : w2.frozen? ⟨w.heap.size + 1, 0, none⟩ = false := ((bcell hb).2 _ _ (by simp; omega)).trans (by rw [World.frozen?_setCell, World.frozen?_setCell]; exact p0)
  have g20 : w2.frozen? ⟨w.heap.size + 2, 0, none⟩ = false := ((bcell hb).2 _ _ (by simp; omega)).trans (by rw [World.frozen?_setCell, World.frozen?_setCell]; exact q0)
  have x1 : w2.cell? ⟨w.heap.size + 1, 1, none⟩ = some (.slice none 0 0) := cell_later hb ((World.cell?_setCell_other _ _ _ _ (by simp)).trans ((World.cell?_setCell_other _ _ _ _ (by simp)).trans v1))
  have y1 : w2.cell? ⟨w.heap.size + 2, 1, none⟩ = some (.slice b1 l2 j1) := cell_later hb (World.cell?_setCell_same _ _ _ ((World.cell?_setCell_other _ _ _ _ (by simp)).trans o1))
  have g11 : w2.frozen? ⟨w.heap.size + 1, 1, none⟩ = false := ((bcell hb).2 _ _ (by simp; omega)).trans (by rw [World.frozen?_setCell, World.frozen?_setCell]; exact p1)
  have g21 : w2.frozen? ⟨w.heap.size + 2, 1, none⟩ = false := ((bcell hb).2 _ _ (by simp; omega)).trans (by rw [World.frozen?_setCell, World.frozen?_setCell]; exact q1)
  have x2 : w2.cell? ⟨w.heap.size + 1, 2, none⟩ = some (.int .i64 0) := cell_later hb ((World.cell?_setCell_other _ _ _ _ (by simp)).trans ((World.cell?_setCell_other _ _ _ _ (by simp)).trans v2))
  have y2 : w2.cell? ⟨w.heap.size + 2, 2, none⟩ = some (.int .i64 0) := cell_later hb ((World.cell?_setCell_other _ _ _ _ (by simp)).trans ((World.cell?_setCell_other _ _ _ _ (by simp)).trans o2))
  have g12 : w2.frozen? ⟨w.heap.size + 1, 2, none⟩ = false := ((bcell hb).2 _ _ (by simp; omega)).trans (by rw [World.frozen?_setCell, World.frozen?_setCell]; exact p2)
  have g22 : w2.frozen? ⟨w.heap.size + 2, 2, none⟩ = false := ((bcell hb).2 _ _ (by simp; omega)).trans (by rw [World.frozen?_setCell, World.frozen?_setCell]; exact q2)
  have x3 : w2.cell? ⟨w.heap.size + 1, 3, none⟩ = some (.int .i64 0) := cell_later hb ((World.cell?_setCell_other _ _ _ _ (by simp)).trans ((World.cell?_setCell_other _ _ _ _ (by simp)).trans v3))
  have y3 : w2.cell? ⟨w.heap.size + 2, 3, none⟩ = some (.int .i64 0) := cell_later hb ((World.cell?_setCell_other _ _ _ _ (by simp)).trans ((World.cell?_setCell_other _ _ _ _ (by simp)).trans o3))
  have g13 : w2.frozen? ⟨w.heap.size + 1, 3, none⟩ = false := ((bcell hb).2 _ _ (by simp; omega)).trans (by rw [World.frozen?_setCell, World.frozen?_setCell]; exact p3)
  have g23 : w2.frozen? ⟨w.heap.size + 2, 3, none⟩ = false := ((bcell hb).2 _ _ (by simp; omega)).trans (by rw [World.frozen?_setCell, World.frozen?_setCell]; exact q3)
  have x4 : w2.cell? ⟨w.heap.size + 1, 4, none⟩ = some (.int .i64 0) := cell_later hb ((World.cell?_setCell_other _ _ _ _ (by simp)).trans ((World.cell?_setCell_other _ _ _ _ (by simp)).trans v4))
  have y4 : w2.cell? ⟨w.heap.size + 2, 4, none⟩ = some (.int .i64 0) := cell_later hb ((World.cell?_setCell_other _ _ _ _ (by simp)).trans ((World.cell?_setCell_other _ _ _ _ (by simp)).trans o4))
  have g14 : w2.frozen? ⟨w.heap.size + 1, 4, none⟩ = false := ((bcell hb).2 _ _ (by simp; omega)).trans (by rw [World.frozen?_setCell, World.frozen?_setCell]; exact p4)
  have g24 : w2.frozen? ⟨w.heap.size + 2, 4, none⟩ = false := ((bcell hb).2 _ _ (by simp; omega)).trans (by rw [World.frozen?_setCell, World.frozen?_setCell]; exact q4)
  have x5 : w2.cell? ⟨w.heap.size + 1, 5, none⟩ = some (.int .i64 0) := cell_later hb ((World.cell?_setCell_other _ _ _ _ (by simp)).trans ((World.cell?_setCell_other _ _ _ _ (by simp)).trans v5))
  have y5 : w2.cell? ⟨w.heap.size + 2, 5, none⟩ = some (.int .i64 0) := cell_later hb ((World.cell?_setCell_other _ _ _ _ (by simp)).trans ((World.cell?_setCell_other _ _ _ _ (by simp)).trans o5))
  have g15 : w2.frozen? ⟨w.heap.size + 1, 5, none⟩ = false := ((bcell hb).2 _ _ (by simp; omega)).trans (by rw [World.frozen?_setCell, World.frozen?_setCell]; exact p5)
  have g25 : w2.frozen? ⟨w.heap.size + 2, 5, none⟩ = false := ((bcell hb).2 _ _ (by simp; omega)).trans (by rw [World.frozen?_setCell, World.frozen?_setCell]; exact q5)
  have x6 : w2.cell? ⟨w.heap.size + 1, 6, none⟩ = some (.slice none 0 0) := cell_later hb ((World.cell?_setCell_other _ _ _ _ (by simp)).trans ((World.cell?_setCell_other _ _ _ _ (by simp)).trans v6))
  have y6 : w2.cell? ⟨w.heap.size + 2, 6, none⟩ = some (.slice none 0 0) := cell_later hb ((World.cell?_setCell_other _ _ _ _ (by simp)).trans ((World.cell?_setCell_other _ _ _ _ (by simp)).trans o6))
  have g16 : w2.frozen? ⟨w.heap.size + 1, 6, none⟩ = false := ((bcell hb).2 _ _ (by simp; omega)).trans (by rw [World.frozen?_setCell, World.frozen?_setCell]; exact p6)
  have g26 : w2.frozen? ⟨w.heap.size + 2, 6, none⟩ = false := ((bcell hb).2 _ _ (by simp; omega)).trans (by rw [World.frozen?_setCell, World.frozen?_setCell]; exact q6)
  have x7 : w2.cell? ⟨w.heap.size + 1, 7, none⟩ = some (.slice none 0 0) := cell_later hb ((World.cell?_setCell_other _ _ _ _ (by simp)).trans ((World.cell?_setCell_other _ _ _ _ (by simp)).trans v7))
  have y7 : w2.cell? ⟨w.heap.size + 2, 7, none⟩ = some (.slice none 0 0) := cell_later hb ((World.cell?_setCell_other _ _ _ _ (by simp)).trans ((World.cell?_setCell_other _ _ _ _ (by simp)).trans o7))
  have g17 : w2.frozen? ⟨w.heap.size + 1, 7, none⟩ = false := ((bcell hb).2 _ _ (by simp; omega)).trans (by rw [World.frozen?_setCell, World.frozen?_setCell]; exact p7)
  have g27 : w2.frozen? ⟨w.heap.size + 2, 7, none⟩ = false := ((bcell hb).2 _ _ (by simp; omega)).trans (by rw [World.frozen?_setCell, World.frozen?_setCell]; exact q7)
  have hs2 := hb.size
  simp only [World.size_setCell] at hs2
  have HB2 := hide (below_on ((HB.out.setCell (p := ⟨w.heap.size + 2, 0, none⟩) (by simp) _).setCell (p := ⟨w.heap.size + 2, 1, none⟩) (by simp) _) hb)
  have HO2 := hide ((HO.out.iv.wr (V := fun x => x = w.heap.size + 2) (Wr.setCell (p := ⟨w.heap.size + 2, 1, none⟩) (Wr.setCell (p := ⟨w.heap.size + 2, 0, none⟩) (Wr.refl (fun x => x = w.heap.size + 2) _) rfl (.slice a1 l1 k1)) rfl (.slice b1 l2 j1)) (fun b hb1 hb2 e => by omega)).later hb)
  simp only [World.size_setCell] at ho
  have HJ := hide ho
  clear hb ho HB HO V1 VA c0 c1 c2 c3 c4 c5 c6 c7 v0 o0 p0 q0 v1 o1 p1 q1 v2 o2 p2 q2 v3 o3 p3 q3 v4 o4 p4 q4 v5 o5 p5 q5 v6 o6 p6 q6 v7 o7 p7 q7
  clear f1 f2
  go_wp2
  refine bodyPost_ret (v := .agg #[.slice a1 l1 k1, .slice b1 l2 j1, .int .i64 a, .int .i64 b, .int .i64 c, .int .i64 d, .slice a2 l3 k2, .slice b2 l4 j2]) (by simp [results, Tryz.results26, go_sem, x0, x1, x2, x3, x4, x5, x6, x7]) rfl ⟨_, _, _, _, rfl, ?_, ?_⟩
  · repeat (first | refine Below.setCell ?_ (by first | (simp; done) | (simp; omega) | omega) _ | exact HB2.out)
  · have fin : ∀ {w3 : World}, Wr (fun b => b < w.heap.size + 3) w2 w3 → w3.heap.size = w2.heap.size → IvW w.heap.size w3.heap.size w3 (.slice a1 l1 k1) (.slice b1 l2 j1) (.slice a2 l3 k2) (.slice b2 l4 j2) xss ps xs es := fun {w3} hw h3 =>
      ⟨_, _, _, _, by omega, by omega, by omega, by omega, Nat.le_refl _, .inl (Nat.le_refl _), HO2.out.wr hw (fun b k1 k2 k3 => by omega), HJ.out.wr hw (fun b k1 k2 k3 => by omega)⟩
    refine fin ?_ (by simp)
    repeat (first | refine Wr.setCell ?_ (by first | (simp; done) | (simp; omega) | omega) _ | exact Wr.refl _ _)
end Go.Proofs.YtlmaopljihbdkaaGreat
namespace Go.Proofs.YtlmaopljihbdkaaGreat
open Go.ChangeShapes Go.WideShapes Go.ChangeAt Go.RowKit Go.Deep
theorem Tryz.own : ownKnob Tryz.prog.godebug = none := by kernel_rfl
theorem Tryz.laidOut : laidOutB Tryz.prog = true := by kernel_rfl
theorem Tryz.cellsInt : Tryz.prog.cellsOf 2 = 1 := by kernel_rfl
theorem Tryz.cellsInts : Tryz.prog.cellsOf 22 = 1 := by kernel_rfl
theorem addr_plain {w : World} {a : Addr} {v : Value} (h : w.cell? a = some v) : a = ⟨a.block, a.off, none⟩ := by
  obtain ⟨b, o, s⟩ := a
  cases s with
  | none => rfl
  | some k =>
    unfold World.cell? at h
    revert h
    cases w.heap[(⟨b, o, some k⟩ : Addr).block]? with
    | none => intro h; cases h
    | some ob => cases ob <;> intro h <;> simp at h
theorem addr_add (b o i : Nat) : (⟨b, o, none⟩ : Addr).add i = ⟨b, o + i, none⟩ := Addr.add_lit ..
section
variable {H : Type} {enc : TypeId × Value → H} {w : World}
theorem rdI_of {fuel : Nat} {held : Bool} {v : Value} {x : DataW H × List MemPlace} (h : DataW.trod enc Tryz.prog w 0 (fun _ => true) held fuel 22 [v] = some x) : ∃ xs, RdI (fun _ => True) w v xs := by
  rcases open_ints Tryz.underlying22 Tryz.underlying2 Tryz.cellsInt h with ⟨hcs, _⟩ | ⟨a, len, cap, zs, hcs, _, hl, hm, hz, _, hcell, _⟩
  · simp at hcs
    exact ⟨[], none, 0, by simp [hcs], by simp, fun h => absurd rfl h⟩
  · simp at hcs
    simp only [if_true] at hz
    unfold maxLen at hm
    have hlen : (zs.take len).length = len := by simp; omega
    refine ⟨zs.take len, some a, cap - len, by rw [hcs, hlen, Nat.add_sub_cancel' hl], by rw [hlen]; omega, fun hne => ?_⟩
    have hpos : 0 < len := by rw [← hlen]; exact List.length_pos_iff.2 hne
    have e := addr_plain (hcell 0 (by omega))
    have e0 : a.add 0 = a := by simp [Addr.add]
    rw [e0] at e
    refine ⟨a.block, a.off, by rw [← e], trivial, fun i hi => ?_⟩
    rw [hlen] at hi
    rw [← addr_add, ← e, hcell i (by omega)]
    simp [List.getD, hi]
theorem rdII_of {fuel : Nat} {held : Bool} {v : Value} {x : DataW H × List MemPlace} (h : DataW.trod enc Tryz.prog w 0 (fun _ => true) held fuel 51 [v] = some x) : ∃ xss, RdII (fun _ => True) w v xss := by
  rcases open_slice1 Tryz.underlying51 Tryz.cellsInts h with ⟨hcs, _⟩ | ⟨a, len, cap, m, n, V, D, Pl, hcs, _, hl, hm, hmm, _, hx⟩
  · simp at hcs
    exact ⟨[], none, 0, by simp [hcs], by simp, fun h => absurd rfl h⟩
  · simp at hcs
    simp only [if_true] at hmm
    unfold maxLen at hm
    obtain ⟨F, hF⟩ := choose_lt (α := List Int) (n := len) (p := fun i xs => RdI (fun _ => True) w (V i) xs) (fun i hi => rdI_of (hx i (by omega)).2)
    have hlen : ((List.range len).map F).length = len := by simp
    refine ⟨(List.range len).map F, some a, cap, by rw [hcs, hlen], by rw [hlen]; omega, fun hne => ?_⟩
    have hpos : 0 < len := by rw [← hlen]; exact List.length_pos_iff.2 hne
    have e := addr_plain (hx 0 (by omega)).1
    have e0 : a.add 0 = a := by simp [Addr.add]
    rw [e0] at e
    refine ⟨a.block, a.off, V, by rw [← e], trivial, fun i hi => ?_⟩
    rw [hlen] at hi
    refine ⟨by rw [← addr_add, ← e]; exact (hx i (by omega)).1, ?_⟩
    have : ((List.range len).map F).getD i [] = F i := by simp [List.getD, hi]
    rw [this]
    exact hF i hi
theorem rdP_of {fuel : Nat} {held : Bool} {v : Value} {x : DataW H × List MemPlace} (h : DataW.trod enc Tryz.prog w 0 (fun _ => true) held fuel 40 [v] = some x) : ∃ ps, RdP (fun _ => True) w v ps := by
  rcases open_slice_pairs Tryz.underlying40 Tryz.underlying85 (by kernel_rfl) rfl rfl (by kernel_rfl) (by kernel_rfl) h with ⟨hcs, _⟩ | ⟨a, len, cap, m, n, V0, V1, D0, D1, P0, P1, hcs, _, hl, hm, hmm, _, hx⟩
  · simp at hcs
    exact ⟨[], none, 0, by simp [hcs], by simp, fun h => absurd rfl h⟩
  · simp at hcs
    simp only [if_true] at hmm
    unfold maxLen at hm
    obtain ⟨F, hF⟩ := choose_lt (α := Int × List Int) (n := len) (p := fun i p => V0 i = .int .i64 p.1 ∧ RdI (fun _ => True) w (V1 i) p.2) (fun i hi => by
      obtain ⟨k, hk, _⟩ := DataW.trod_int Tryz.underlying2 (hx i (by omega)).2.2.1
      obtain ⟨xs, hxs⟩ := rdI_of (hx i (by omega)).2.2.2
      exact ⟨(k, xs), by simpa using hk, hxs⟩)
    have hlen : ((List.range len).map F).length = len := by simp
    refine ⟨(List.range len).map F, some a, cap, by rw [hcs, hlen], by rw [hlen]; omega, fun hne => ?_⟩
    have hpos : 0 < len := by rw [← hlen]; exact List.length_pos_iff.2 hne
    have e := addr_plain (hx 0 (by omega)).1
    have e0 : a.add (0 * 2) = a := by simp [Addr.add]
    rw [e0] at e
    refine ⟨a.block, a.off, V1, by rw [← e], trivial, fun i hi => ?_⟩
    rw [hlen] at hi
    have e2 : ((List.range len).map F).getD i (0, []) = F i := by simp [List.getD, hi]
    rw [e2, ← (hF i hi).1]
    refine ⟨by rw [← addr_add, ← e]; exact (hx i (by omega)).1, by rw [Nat.add_assoc, ← addr_add, ← e]; exact (hx i (by omega)).2.1, (hF i hi).2⟩
end
end Go.Proofs.YtlmaopljihbdkaaGreat
namespace Go.Proofs.YtlmaopljihbdkaaGreat
open Go.ChangeShapes Go.WideShapes Go.ChangeAt Go.RowKit
end Go.Proofs.YtlmaopljihbdkaaGreat
namespace Go.Proofs.YtlmaopljihbdkaaGreat
open Go.ChangeShapes Go.WideShapes Go.ChangeAt Go.RowKit Go.Deep
set_option maxRecDepth 100000 in
theorem rdEn_of {H : Type} {enc : TypeId × Value → H} {w : World} {fuel : Nat} {held : Bool} {v : Value} {x : DataW H × List MemPlace} (h : DataW.trod enc Tryz.prog w 0 (fun _ => true) held fuel 23 [v] = some x) : ∃ os, RdJ (fun _ => True) w v os := by
  rcases open_slice Tryz.underlying23 h with ⟨hcs, _⟩ | ⟨a, len, cap, m, n, D, Pl, hcs, _, hl, hm, hmm, _, hx⟩
  · simp at hcs
    exact ⟨[], none, 0, by simp [hcs], by simp, fun h => absurd rfl h⟩
  · simp at hcs
    simp only [if_true] at hmm
    unfold maxLen at hm
    have ce : Tryz.prog.cellsOf 106 = 3 := by kernel_rfl
    have each : ∀ i, i < len → ∃ q : Oj × Value, w.cell? (a.add (i * 3)) = some (.int .i64 q.1.1) ∧ w.cell? (a.add (i * 3 + 1)) = some (.int .i64 q.1.2.1) ∧ w.cell? (a.add (i * 3 + 2)) = some q.2 ∧ RdI (fun _ => True) w q.2 q.1.2.2 := by
      intro i hi
      obtain ⟨cs', h1, h2⟩ := hx i (by omega)
      rw [ce] at h1
      obtain ⟨_, hlen, hcell⟩ := World.cells?_some h1
      obtain ⟨ys, k, hk, hxy, _, hxl, hf⟩ := DataW.trod_struct Tryz.underlying106 h2
      match ys, hxl, cs', hlen with
      | [y0, y1, y2], _, [v0, v1, v2], _ =>
        have g0 := hf 0 _ rfl
        have g1 := hf 1 _ rfl
        have g2 := hf 2 _ rfl
        have e0 := hcell 0 (by omega)
        have e1 := hcell 1 (by omega)
        have e2 := hcell 2 (by omega)
        rw [add_add] at e0 e1 e2
        have c1 : Tryz.prog.cellsOf 2 = 1 := by kernel_rfl
        have c2 : Tryz.prog.cellsOf 22 = 1 := by kernel_rfl
        simp [c1, c2] at g0 g1 g2
        obtain ⟨k0, hk0, _⟩ := DataW.trod_int Tryz.underlying2 g0
        obtain ⟨k1, hk1, _⟩ := DataW.trod_int Tryz.underlying2 g1
        obtain ⟨xs, hxs⟩ := rdI_of g2
        simp at hk0 hk1
        subst hk0 hk1
        exact ⟨((k0, k1, xs), v2), by simpa using e0, by simpa using e1, by simpa using e2, hxs⟩
    obtain ⟨q, hq⟩ := choose_lt each
    have hlen : ((List.range len).map fun i => (q i).1).length = len := by simp
    refine ⟨(List.range len).map fun i => (q i).1, some a, cap, by rw [hcs, hlen], by rw [hlen]; omega, fun hne => ?_⟩
    have hpos : 0 < len := by rw [← hlen]; exact List.length_pos_iff.2 hne
    have e := addr_plain (hq 0 (by omega)).1
    have e0 : a.add (0 * 3) = a := by simp [Addr.add]
    rw [e0] at e
    refine ⟨a.block, a.off, fun i => (q i).2, by rw [← e], trivial, fun i hi => ?_⟩
    rw [hlen] at hi
    have e2 : ((List.range len).map fun i => (q i).1).getD i oj0 = (q i).1 := by simp [List.getD, hi]
    rw [e2]
    obtain ⟨k0, k1, k2, k3⟩ := hq i hi
    exact ⟨by rw [← addr_add, ← e]; exact k0, by rw [Nat.add_assoc, ← addr_add, ← e]; exact k1, by rw [Nat.add_assoc, ← addr_add, ← e]; exact k2, k3⟩
section
variable {H : Type} {enc : TypeId × Value → H} {w : World}
end
end Go.Proofs.YtlmaopljihbdkaaGreat
namespace Go.Proofs.YtlmaopljihbdkaaGreat
open Go.ChangeShapes Go.WideShapes Go.ChangeAt Go.RowKit Go.Deep
end Go.Proofs.YtlmaopljihbdkaaGreat
namespace Go.Proofs.YtlmaopljihbdkaaGreat
open Go.ChangeShapes Go.WideShapes Go.ChangeAt Go.RowKit Go.Deep
set_option maxRecDepth 100000 in
theorem rdWorld_of {H : Type} {enc : TypeId × Value → H} {w : World} {r : Reach} {b0 : Nat} {v : Value} {d : DataW H} {p : List MemPlace} (hv : Value.okWide Tryz.prog w r b0 55 v) (h : DataW.Trod enc Tryz.prog w 0 (fun _ => true) true 55 v d p) :
    ∃ (xss : List (List Int)) (ps : List (Int × List Int)) (s : Rf) (u u' y z : Value), v = .agg #[u, u', .int .i64 s.tm, .int .i64 s.vt, .int .i64 s.si, .int .i64 s.st, y, z] ∧ RdII (fun _ => True) w u xss ∧ RdP (fun _ => True) w u' ps ∧ RdI (fun _ => True) w y s.sn ∧ RdJ (fun _ => True) w z s.lg := by
  obtain ⟨cs, rfl, hsz⟩ := okWide_struct Tryz.underlying55 hv
  have ce : Tryz.prog.cellsOf 55 = 8 := by kernel_rfl
  rw [ce] at hsz
  obtain ⟨fuel, hf0⟩ := h
  obtain ⟨ys, k, hk, hxy, _, hxl, hf⟩ := DataW.trod_struct Tryz.underlying55 hf0
  obtain ⟨l⟩ := cs
  have hsz' : l.length = 8 := hsz
  match ys, hxl, l, hsz' with
  | [y0, y1], _, [v0, v1, v2, v3, v4, v5, v6, v7], _ =>
    have d0 := hf 0 _ rfl
    have d1 := hf 1 _ rfl
    have c1 : Tryz.prog.cellsOf 2 = 1 := by kernel_rfl
    have c2 : Tryz.prog.cellsOf 22 = 1 := by kernel_rfl
    have c3 : Tryz.prog.cellsOf 23 = 1 := by kernel_rfl
    have c4 : Tryz.prog.cellsOf 51 = 1 := by kernel_rfl
    have c5 : Tryz.prog.cellsOf 40 = 1 := by kernel_rfl
    have c6 : Tryz.prog.cellsOf 53 = 2 := by kernel_rfl
    have c7 : Tryz.prog.cellsOf 25 = 6 := by kernel_rfl
    simp [c6, c7, Value.cells] at d0 d1
    obtain ⟨zs, m, _, _, _, hzl, hg⟩ := DataW.trod_struct Tryz.underlying53 d0
    obtain ⟨ts, n, _, _, _, htl, hh⟩ := DataW.trod_struct Tryz.underlying25 d1
    match zs, hzl, ts, htl with
    | [z0, z1], _, [t0, t1, t2, t3, t4, t5], _ =>
      have e0 := hg 0 _ rfl
      have e1 := hg 1 _ rfl
      have g0 := hh 0 _ rfl
      have g1 := hh 1 _ rfl
      have g2 := hh 2 _ rfl
      have g3 := hh 3 _ rfl
      have g4 := hh 4 _ rfl
      have g5 := hh 5 _ rfl
      simp [c1, c2, c3, c4, c5] at e0 e1 g0 g1 g2 g3 g4 g5
      obtain ⟨k0, hk0, _⟩ := DataW.trod_int Tryz.underlying2 g0
      obtain ⟨k1, hk1, _⟩ := DataW.trod_int Tryz.underlying2 g1
      obtain ⟨k2, hk2, _⟩ := DataW.trod_int Tryz.underlying2 g2
      obtain ⟨k3, hk3, _⟩ := DataW.trod_int Tryz.underlying2 g3
      obtain ⟨xss, hxss⟩ := rdII_of e0
      obtain ⟨ps, hps⟩ := rdP_of e1
      obtain ⟨xs, hxs⟩ := rdI_of g4
      obtain ⟨os, hos⟩ := rdEn_of g5
      simp at hk0 hk1 hk2 hk3
      subst hk0 hk1 hk2 hk3
      exact ⟨xss, ps, ⟨k0, k1, k2, k3, xs, os⟩, v0, v1, v6, v7, rfl, hxss, hps, hxs, hos⟩
end Go.Proofs.YtlmaopljihbdkaaGreat
namespace Go.Proofs.YtlmaopljihbdkaaGreat
open Go.RowKit
def RdFp (S : Nat → Prop) (w : World) (b off : Nat) (p : Oj) : Prop :=
  ∃ y, w.cell? ⟨b, off, none⟩ = some (.int .i64 p.1) ∧ w.cell? ⟨b, off + 1, none⟩ = some (.int .i64 p.2.1) ∧ w.cell? ⟨b, off + 2, none⟩ = some y ∧ RdI S w y p.2.2
theorem RdFp.later {S : Nat → Prop} {w w' : World} {b off : Nat} {p : Oj} (h : RdFp S w b off p) (hb : Below w.heap.size w w') : RdFp S w' b off p := by
  obtain ⟨y, h0, h1, h2, h3⟩ := h
  exact ⟨y, cell_later hb h0, cell_later hb h1, cell_later hb h2, h3.later hb⟩
theorem RdJ.file {S : Nat → Prop} {w : World} {ao : Option Addr} {n c : Nat} {fs : List Oj} (h : RdJ S w (.slice ao n c) fs) {k : Nat} (hk : k < fs.length) : ∃ b off, ao = some ⟨b, off, none⟩ ∧ RdFp S w b (off + k * 3) (fs.getD k oj0) := by
  obtain ⟨ao', c', e, hm, h⟩ := h
  injection e with e1 e2 e3
  obtain ⟨b, off, V, e4, _, hc⟩ := h (by rintro rfl; exact absurd hk (Nat.not_lt_zero _))
  obtain ⟨q0, q1, q2, q3⟩ := hc k hk
  exact ⟨b, off, e1.trans e4, V k, q0, q1, q2, q3⟩
theorem ret_intF {a b : Int} (h : a = b) : Ending.returned (.int .i64 a) = .returned (.int .i64 b) := by rw [h]
end Go.Proofs.YtlmaopljihbdkaaGreat
