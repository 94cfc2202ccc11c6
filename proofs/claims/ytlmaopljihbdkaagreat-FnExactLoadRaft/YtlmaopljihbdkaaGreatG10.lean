/- Iv4 Iv5 LawLoadRaft Fp3 in one text: what each says stands at its head below. -/
import Derived.Test.YtlmaopljihbdkaaGreatG05
import Derived.Test.YtlmaopljihbdkaaGreatG09
import Derived.Test.YtlmaopljihbdkaaGreatG06
import Derived.Test.YtlmaopljihbdkaaGreatG08
import Derived.Deep.CutRange
/- Four cells of a variable. -/
namespace Go.Proofs.YtlmaopljihbdkaaGreat
open Go.RowKit

def Var4 (w : World) (b : Nat) (x y z u : Value) : Prop := w.cell? ⟨b, 0, none⟩ = some x ∧ w.cell? ⟨b, 1, none⟩ = some y ∧ w.cell? ⟨b, 2, none⟩ = some z ∧ w.cell? ⟨b, 3, none⟩ = some u
theorem Var4.later {w w' : World} {b : Nat} {x y z u : Value} (h : Var4 w b x y z u) (hb : Below w.heap.size w w') : Var4 w' b x y z u :=
  ⟨cell_later hb h.1, cell_later hb h.2.1, cell_later hb h.2.2.1, cell_later hb h.2.2.2⟩
theorem Var4.wr {S : Nat → Prop} {w w' : World} {b : Nat} {x y z u : Value} (h : Var4 w b x y z u) (hb : Wr S w w') (hd : ¬ S b) : Var4 w' b x y z u :=
  ⟨cell_wr hb h.1 hd, cell_wr hb h.2.1 hd, cell_wr hb h.2.2.1 hd, cell_wr hb h.2.2.2 hd⟩
theorem Var4.lt {w : World} {b : Nat} {x y z u : Value} (h : Var4 w b x y z u) : b < w.heap.size := World.block_lt_of_cell? _ _ h.1
theorem Var4_new (w : World) (x y z u : Value) (t : TypeId) : Var4 (w.alloc (.cells #[x, y, z, u] t)) w.heap.size x y z u := by
  refine ⟨?_, ?_, ?_, ?_⟩ <;> simp [go_sem]
theorem IvI.mono {lo hi lo' hi' : Nat} {w : World} {v : Value} {xs : List Int} (h : IvI lo hi w v xs) (h1 : lo' ≤ lo) (h2 : hi ≤ hi') : IvI lo' hi' w v xs := by
  obtain ⟨b, k1, k2⟩ := h
  exact ⟨b, k1, fun hne => ⟨Nat.le_trans h1 (k2 hne).1, Nat.lt_of_lt_of_le (k2 hne).2.1 h2, (k2 hne).2.2⟩⟩
theorem set4_other {w : World} {b h o : Nat} {x y z u : Value} (hb : b ≠ h) : ((((w.setCell ⟨h, 0, none⟩ x).setCell ⟨h, 1, none⟩ y).setCell ⟨h, 2, none⟩ z).setCell ⟨h, 3, none⟩ u).cell? ⟨b, o, none⟩ = w.cell? ⟨b, o, none⟩ := by
  rw [World.cell?_setCell_other _ _ _ _ (by intro e; injection e with e1 _; exact hb e1.symm), World.cell?_setCell_other _ _ _ _ (by intro e; injection e with e1 _; exact hb e1.symm), World.cell?_setCell_other _ _ _ _ (by intro e; injection e with e1 _; exact hb e1.symm), World.cell?_setCell_other _ _ _ _ (by intro e; injection e with e1 _; exact hb e1.symm)]
/-- Of the world that a region that draws stands in no more is kept than R. -/
theorem forgetH {P : Program} {md : Region.Mode} {ops : Array Oper} {Q : Exit → Act → World → Prop} {S : World → Prop} {fuel : Nat} {listed : Array Bool} {a : Act} {w0 : World} (R : World → Prop) (h0 : R w0) (h : ∀ w, R w → wpAnyH P md ops Q S fuel listed a w) : wpAnyH P md ops Q S fuel listed a w0 := h _ h0
end Go.Proofs.YtlmaopljihbdkaaGreat
/- Stores into two or three cells of a variable; what is elsewhere stays. -/
namespace Go.Proofs.YtlmaopljihbdkaaGreat
open Go.RowKit

theorem set2_other {w : World} {b h o : Nat} {x y : Value} (hb : b ≠ h) : ((w.setCell ⟨h, 0, none⟩ x).setCell ⟨h, 1, none⟩ y).cell? ⟨b, o, none⟩ = w.cell? ⟨b, o, none⟩ := by
  rw [World.cell?_setCell_other _ _ _ _ (by intro e; injection e with e1 _; exact hb e1.symm), World.cell?_setCell_other _ _ _ _ (by intro e; injection e with e1 _; exact hb e1.symm)]
theorem set3_other {w : World} {b h o : Nat} {x y z : Value} (hb : b ≠ h) : (((w.setCell ⟨h, 0, none⟩ x).setCell ⟨h, 1, none⟩ y).setCell ⟨h, 2, none⟩ z).cell? ⟨b, o, none⟩ = w.cell? ⟨b, o, none⟩ := by
  rw [World.cell?_setCell_other _ _ _ _ (by intro e; injection e with e1 _; exact hb e1.symm), set2_other hb]
end Go.Proofs.YtlmaopljihbdkaaGreat
/- The law 'FnExactLoadRaft' walked, out of what the program's function and the model's leave. Made by program (lawgen.py). -/
namespace Go.Proofs.YtlmaopljihbdkaaGreat
open Go.RowKit

set_option linter.unusedSimpArgs false in
set_option maxHeartbeats 8000000 in
set_option maxRecDepth 4000 in
theorem lawLoadRaft_small {S0 : Nat → Prop} {w : World} {y0 : Value} {xs0 : List (Int × List Int)} (hy0 : RdP S0 w y0 xs0) (code : Int) (rq0 rq1 rq2 rq3 : Int) (rs : List Int) (rp : List Oj) (hres : (rs.length : Int) + (totJ rp rp.length : Int) ≤ 1048576)
    (hsz : szQ xs0 ≤ 1048576)
    (hspec : ∀ (S0 : Nat → Prop) (w : World) (y0 : Value), RdP S0 w y0 xs0 → Calls Tryz.prog 16 #[y0] w (EndsR6 code rq0 rq1 rq2 rq3 rs rp w))
    (himpl : ∀ (S0 : Nat → Prop) (w : World) (y0 : Value), RdP S0 w y0 xs0 → Calls Tryz.prog 18 #[y0] w (EndsR6 code rq0 rq1 rq2 rq3 rs rp w)) :
    Calls Tryz.prog 4 #[y0] w fun e w' => e = .returned (.bool true) ∧ Below w.heap.size w w' := by
  have HS := hide hspec
  have HI := hide himpl
  clear hspec himpl
  obtain ⟨ay0, cy0, rfl, _⟩ := hy0.shape
  obtain ⟨l0, hll0⟩ : ∃ l, xs0.length = l := ⟨_, rfl⟩
  have HL0 := hide hll0
  rw [hll0] at hy0 ⊢
  have HY0 := hide hy0
  clear hy0 hll0
  have HQ0 := hide (smallQ (qs := xs0) (by omega))
  obtain ⟨s0, hs0⟩ : ∃ s, szQ xs0 = s := ⟨_, rfl⟩
  have hsn0 := szQ_nonneg xs0
  rw [hs0] at hsz hsn0
  have HSz0 := hide hs0
  clear hs0
  obtain ⟨T0, hT0⟩ : ∃ T : Nat, totP xs0 xs0.length = T := ⟨_, rfl⟩
  have hTb0 : (T0 : Int) ≤ 2097152 := by have := HQ0.out.2.2; rw [hT0] at this; exact this
  have HT0 := hide hT0
  clear hT0
  have HZ0 := hide (szv_yes (left := (1048576 : Int)) (s := s0) (by omega))
  have hp0 : ¬ ((1048576 : Int) - s0 < 0) := by omega
  obtain ⟨lr, hlr⟩ : ∃ l, rs.length = l := ⟨_, rfl⟩
  have HLr := hide hlr
  clear hlr
  obtain ⟨mr, hmr⟩ : ∃ l, rp.length = l := ⟨_, rfl⟩
  have HMr := hide hmr
  clear hmr
  have HRB := hide (show (1 : Int) + ((rs.length : Int) + (totJ rp rp.length : Int)) ≤ 9223372036854775807 by omega)
  have hM : 0 ≤ (1 : Int) + ((rs.length : Int) + (totJ rp rp.length : Int)) := by omega
  obtain ⟨M, hMe⟩ : ∃ M : Int, (1 : Int) + ((rs.length : Int) + (totJ rp rp.length : Int)) = M := ⟨_, rfl⟩
  rw [hMe] at hM
  have HMe := hide hMe
  clear hMe hres
  go_enter Tryz.func4, Tryz.ntmps4
  have BB := hide (Below.refl w.heap.size w)
  go_wp2_with fail
  refine (szP (HY0.out.later BB.out) (by omega) (by omega)).mono ?_
  rintro e w1 ⟨he, hb⟩
  rw [show ((xs0.length : Int) + (totW xs0 xs0.length : Int)) = s0 from HSz0.out, HZ0.out] at he
  subst he
  have BC := hide (below_on BB.out hb)
  have z_w1 : w.heap.size ≤ w1.heap.size := by have := hb.size; simpa using this
  clear BB
  have BB := BC
  clear BC
  clear hb
  go_wp2_with fail
  refine (toP (HY0.out.later BB.out) HQ0.out.1 HQ0.out.2.1).mono ?_
  rintro e w2 ⟨zW0, rfl, hb, ho⟩
  obtain ⟨aoW0, cW0, hzW0⟩ := ho.shape
  rw [HL0.out] at hzW0
  subst hzW0
  have BC := hide (below_on BB.out hb)
  have z_w2 : w1.heap.size ≤ w2.heap.size := by have := hb.size; simpa using this
  have N_t0 := hide (ho.iv)
  clear BB
  have BB := BC
  clear BC
  have F_t0 := N_t0
  clear N_t0
  clear hb
  clear ho
  go_wp2_with fail
  refine (HS.out _ _ _ F_t0.out.rd).mono ?_
  rintro e w3 ⟨yW, zW, rfl, hb, ho⟩
  obtain ⟨aoW, cW, boW, dW, hyW, hzW⟩ := ho.shape
  rw [HLr.out] at hyW
  rw [HMr.out] at hzW
  subst hyW
  subst hzW
  have G_t0 := hide (F_t0.out.later hb)
  have BC := hide (below_on BB.out hb)
  have z_w3 : w2.heap.size ≤ w3.heap.size := by have := hb.size; simpa using this
  have N_W := hide (ho)
  clear F_t0
  have F_t0 := G_t0
  clear G_t0
  clear BB
  have BB := BC
  clear BC
  have F_W := N_W
  clear N_W
  clear hb
  clear ho
  clear F_t0
  go_wp2_with fail
  refine (toP (HY0.out.later (below_on BB.out (below_alloc _ (.cells #[.int .i64 code, .int .i64 rq0, .int .i64 rq1, .int .i64 rq2, .int .i64 rq3, .slice aoW lr cW, .slice boW mr dW] 43)))) HQ0.out.1 HQ0.out.2.1).mono ?_
  rintro e w4 ⟨zx0, rfl, hb, ho⟩
  obtain ⟨aox0, cx0, hzx0⟩ := ho.shape
  rw [HL0.out] at hzx0
  subst hzx0
  have G_W := hide ((F_W.out.later (below_alloc _ (.cells #[.int .i64 code, .int .i64 rq0, .int .i64 rq1, .int .i64 rq2, .int .i64 rq3, .slice aoW lr cW, .slice boW mr dW] 43))).later hb)
  have BC := hide (below_on (below_on BB.out (below_alloc _ (.cells #[.int .i64 code, .int .i64 rq0, .int .i64 rq1, .int .i64 rq2, .int .i64 rq3, .slice aoW lr cW, .slice boW mr dW] 43))) hb)
  have z_w4 : w3.heap.size + 1 ≤ w4.heap.size := by have := hb.size; simpa using this
  have N_x0 := hide (ho.iv)
  have N_vW := hide ((Var7_new w3 (.int .i64 code) (.int .i64 rq0) (.int .i64 rq1) (.int .i64 rq2) (.int .i64 rq3) (.slice aoW lr cW) (.slice boW mr dW) 43).later hb)
  clear F_W
  have F_W := G_W
  clear G_W
  clear BB
  have BB := BC
  clear BC
  have F_x0 := N_x0
  clear N_x0
  have F_vW := N_vW
  clear N_vW
  clear hb
  clear ho
  go_wp2_with fail
  refine (HI.out _ _ _ F_x0.out.rd).mono ?_
  rintro e w5 ⟨yG, zG, rfl, hb, ho⟩
  obtain ⟨aoG, cG, boG, dG, hyG, hzG⟩ := ho.shape
  rw [HLr.out] at hyG
  rw [HMr.out] at hzG
  subst hyG
  subst hzG
  have G_W := hide (F_W.out.later hb)
  have G_x0 := hide (F_x0.out.later hb)
  have G_vW := hide (F_vW.out.later hb)
  have BC := hide (below_on BB.out hb)
  have z_w5 : w4.heap.size ≤ w5.heap.size := by have := hb.size; simpa using this
  have N_G := hide (ho)
  clear F_W
  have F_W := G_W
  clear G_W
  clear F_x0
  have F_x0 := G_x0
  clear G_x0
  clear F_vW
  have F_vW := G_vW
  clear G_vW
  clear BB
  have BB := BC
  clear BC
  have F_G := N_G
  clear N_G
  clear hb
  clear ho
  have qlt := F_vW.out.lt
  obtain ⟨q0, q1, q2, q3, q4, q5, q6⟩ := F_vW.out
  (try simp only [Nat.add_zero] at qlt)
  go_wp2_with fail
  refine (eqRaftResult (r := ⟨rq0, rq1, rq2, rq3, rs, rp⟩) (F_G.out.later (below_alloc _ (.cells #[.int .i64 code, .int .i64 rq0, .int .i64 rq1, .int .i64 rq2, .int .i64 rq3, .slice aoG lr cG, .slice boG mr dG] 43))).rdI (F_G.out.later (below_alloc _ (.cells #[.int .i64 code, .int .i64 rq0, .int .i64 rq1, .int .i64 rq2, .int .i64 rq3, .slice aoG lr cG, .slice boG mr dG] 43))).rdJ (F_W.out.later (below_alloc _ (.cells #[.int .i64 code, .int .i64 rq0, .int .i64 rq1, .int .i64 rq2, .int .i64 rq3, .slice aoG lr cG, .slice boG mr dG] 43))).rdI (F_W.out.later (below_alloc _ (.cells #[.int .i64 code, .int .i64 rq0, .int .i64 rq1, .int .i64 rq2, .int .i64 rq3, .slice aoG lr cG, .slice boG mr dG] 43))).rdJ).mono ?_
  rintro e w6 ⟨rfl, hb⟩
  have G_W := hide ((F_W.out.later (below_alloc _ (.cells #[.int .i64 code, .int .i64 rq0, .int .i64 rq1, .int .i64 rq2, .int .i64 rq3, .slice aoG lr cG, .slice boG mr dG] 43))).later hb)
  have G_x0 := hide ((F_x0.out.later (below_alloc _ (.cells #[.int .i64 code, .int .i64 rq0, .int .i64 rq1, .int .i64 rq2, .int .i64 rq3, .slice aoG lr cG, .slice boG mr dG] 43))).later hb)
  have G_vW := hide ((F_vW.out.later (below_alloc _ (.cells #[.int .i64 code, .int .i64 rq0, .int .i64 rq1, .int .i64 rq2, .int .i64 rq3, .slice aoG lr cG, .slice boG mr dG] 43))).later hb)
  have G_G := hide ((F_G.out.later (below_alloc _ (.cells #[.int .i64 code, .int .i64 rq0, .int .i64 rq1, .int .i64 rq2, .int .i64 rq3, .slice aoG lr cG, .slice boG mr dG] 43))).later hb)
  have BC := hide (below_on (below_on BB.out (below_alloc _ (.cells #[.int .i64 code, .int .i64 rq0, .int .i64 rq1, .int .i64 rq2, .int .i64 rq3, .slice aoG lr cG, .slice boG mr dG] 43))) hb)
  have z_w6 : w5.heap.size + 1 ≤ w6.heap.size := by have := hb.size; simpa using this
  have N_vG := hide ((Var7_new w5 (.int .i64 code) (.int .i64 rq0) (.int .i64 rq1) (.int .i64 rq2) (.int .i64 rq3) (.slice aoG lr cG) (.slice boG mr dG) 43).later hb)
  clear qlt q0 q1 q2 q3 q4 q5 q6
  clear F_W
  have F_W := G_W
  clear G_W
  clear F_x0
  have F_x0 := G_x0
  clear G_x0
  clear F_vW
  have F_vW := G_vW
  clear G_vW
  clear F_G
  have F_G := G_G
  clear G_G
  clear BB
  have BB := BC
  clear BC
  have F_vG := N_vG
  clear N_vG
  clear hb
  go_wp2_with fail
  refine (toP (HY0.out.later BB.out) HQ0.out.1 HQ0.out.2.1).mono ?_
  rintro e w7 ⟨ze0, rfl, hb, ho⟩
  obtain ⟨aoe0, ce0, hze0⟩ := ho.shape
  rw [HL0.out] at hze0
  subst hze0
  have G_W := hide (F_W.out.later hb)
  have G_x0 := hide (F_x0.out.later hb)
  have G_vW := hide (F_vW.out.later hb)
  have G_G := hide (F_G.out.later hb)
  have G_vG := hide (F_vG.out.later hb)
  have BC := hide (below_on BB.out hb)
  have z_w7 : w6.heap.size ≤ w7.heap.size := by have := hb.size; simpa using this
  have N_t0 := hide (ho.iv)
  clear F_W
  have F_W := G_W
  clear G_W
  clear F_x0
  have F_x0 := G_x0
  clear G_x0
  clear F_vW
  have F_vW := G_vW
  clear G_vW
  clear F_G
  have F_G := G_G
  clear G_G
  clear F_vG
  have F_vG := G_vG
  clear G_vG
  clear BB
  have BB := BC
  clear BC
  have F_t0 := N_t0
  clear N_t0
  clear hb
  clear ho
  go_wp2_with fail
  refine (eqP F_x0.out.rd F_t0.out.rd).mono ?_
  rintro e w8 ⟨rfl, hb⟩
  have G_W := hide (F_W.out.later hb)
  have G_x0 := hide (F_x0.out.later hb)
  have G_vW := hide (F_vW.out.later hb)
  have G_G := hide (F_G.out.later hb)
  have G_vG := hide (F_vG.out.later hb)
  have G_t0 := hide (F_t0.out.later hb)
  have BC := hide (below_on BB.out hb)
  have z_w8 : w7.heap.size ≤ w8.heap.size := by have := hb.size; simpa using this
  clear F_W
  have F_W := G_W
  clear G_W
  clear F_x0
  have F_x0 := G_x0
  clear G_x0
  clear F_vW
  have F_vW := G_vW
  clear G_vW
  clear F_G
  have F_G := G_G
  clear G_G
  clear F_vG
  have F_vG := G_vG
  clear G_vG
  clear F_t0
  have F_t0 := G_t0
  clear G_t0
  clear BB
  have BB := BC
  clear BC
  clear hb
  clear F_t0
  have hK0 : (0 : Int) ≤ 1 := by omega
  go_wp2_with fail
  refine (markPIv F_x0.out (by omega) (by rw [HT0.out]; omega)).mono ?_
  rintro e w9 ⟨he, hw⟩
  obtain ⟨K1, hK⟩ : ∃ K : Int, 1 + (totP xs0 xs0.length : Int) = K := ⟨_, rfl⟩
  rw [hK] at he
  subst he
  rw [HT0.out] at hK
  have hK1 : 0 ≤ K1 := by omega
  have hKb1 : K1 ≤ 8388608 := by omega
  clear hK
  clear F_x0
  have z_w9 : w8.heap.size ≤ w9.heap.size := hw.size
  have G_W := hide (F_W.out.wr hw (by intro b; simp <;> omega))
  have G_vW := hide (F_vW.out.wr hw (by have := F_vW.out.lt; simp <;> omega))
  have G_G := hide (F_G.out.wr hw (by intro b; simp <;> omega))
  have G_vG := hide (F_vG.out.wr hw (by have := F_vG.out.lt; simp <;> omega))
  have BC := hide (BB.out.trans (hw.below (by omega) (by intro b hb; (try simp at hb); omega)))
  clear F_W
  have F_W := G_W
  clear G_W
  clear F_vW
  have F_vW := G_vW
  clear G_vW
  clear F_G
  have F_G := G_G
  clear G_G
  clear F_vG
  have F_vG := G_vG
  clear G_vG
  clear BB
  have BB := BC
  clear BC
  clear hw
  have plt := F_vG.out.lt
  obtain ⟨p0, p1, p2, p3, p4, p5, p6⟩ := F_vG.out
  (try simp only [Nat.add_zero] at plt)
  have qlt := F_vW.out.lt
  obtain ⟨q0, q1, q2, q3, q4, q5, q6⟩ := F_vW.out
  (try simp only [Nat.add_zero] at qlt)
  go_wp2_with fail
  refine (eqRaftResult (r := ⟨rq0, rq1, rq2, rq3, rs, rp⟩) F_G.out.rdI F_G.out.rdJ F_W.out.rdI F_W.out.rdJ).mono ?_
  rintro e w10 ⟨rfl, hb⟩
  have G_W := hide (F_W.out.later hb)
  have G_vW := hide (F_vW.out.later hb)
  have G_G := hide (F_G.out.later hb)
  have G_vG := hide (F_vG.out.later hb)
  have BC := hide (below_on BB.out hb)
  have z_w10 : w9.heap.size ≤ w10.heap.size := by have := hb.size; simpa using this
  clear plt p0 p1 p2 p3 p4 p5 p6
  clear qlt q0 q1 q2 q3 q4 q5 q6
  clear F_W
  have F_W := G_W
  clear G_W
  clear F_vW
  have F_vW := G_vW
  clear G_vW
  clear F_G
  have F_G := G_G
  clear G_G
  clear F_vG
  have F_vG := G_vG
  clear G_vG
  clear BB
  have BB := BC
  clear BC
  clear hb
  have plt := F_vG.out.lt
  obtain ⟨p0, p1, p2, p3, p4, p5, p6⟩ := F_vG.out
  (try simp only [Nat.add_zero] at plt)
  go_wp2_with fail
  refine (markRaftResult rq0 rq1 rq2 rq3 F_G.out (by omega) HRB.out).mono ?_
  rintro e w11 ⟨he, hr, hw⟩
  rw [HMe.out] at he
  subst he
  have N_R := hide hr
  clear plt p0 p1 p2 p3 p4 p5 p6
  clear F_G
  have z_w11 : w10.heap.size ≤ w11.heap.size := hw.size
  clear hr
  have G_W := hide (F_W.out.wr hw (by intro b; simp <;> omega))
  have G_vW := hide (F_vW.out.wr hw (by have := F_vW.out.lt; simp <;> omega))
  have G_vG := hide (F_vG.out.wr hw (by have := F_vG.out.lt; simp <;> omega))
  have BC := hide (BB.out.trans (hw.below (by omega) (by intro b hb; (try simp at hb); omega)))
  clear F_W
  have F_W := G_W
  clear G_W
  clear F_vW
  have F_vW := G_vW
  clear G_vW
  clear F_vG
  have F_vG := G_vG
  clear G_vG
  clear BB
  have BB := BC
  clear BC
  clear hw
  have F_R := N_R
  clear N_R
  have plt := F_vG.out.lt
  obtain ⟨p0, p1, p2, p3, p4, p5, p6⟩ := F_vG.out
  (try simp only [Nat.add_zero] at plt)
  go_wp2_with fail
  refine (heldRaftResult rq0 rq1 rq2 rq3 F_R.out (by omega) HRB.out).mono ?_
  rintro e w12 ⟨he, hb⟩
  rw [HMe.out] at he
  subst he
  have G_W := hide (F_W.out.later hb)
  have G_vW := hide (F_vW.out.later hb)
  have G_vG := hide (F_vG.out.later hb)
  have G_R := hide (F_R.out.later hb)
  have BC := hide (below_on BB.out hb)
  have z_w12 : w11.heap.size ≤ w12.heap.size := by have := hb.size; simpa using this
  clear plt p0 p1 p2 p3 p4 p5 p6
  clear F_W
  have F_W := G_W
  clear G_W
  clear F_vW
  have F_vW := G_vW
  clear G_vW
  clear F_vG
  have F_vG := G_vG
  clear G_vG
  clear F_R
  have F_R := G_R
  clear G_R
  clear BB
  have BB := BC
  clear BC
  clear hb
  go_wp2_with fail
  refine (toP (HY0.out.later BB.out) HQ0.out.1 HQ0.out.2.1).mono ?_
  rintro e w13 ⟨zH0, rfl, hb, ho⟩
  obtain ⟨aoH0, cH0, hzH0⟩ := ho.shape
  rw [HL0.out] at hzH0
  subst hzH0
  have G_W := hide (F_W.out.later hb)
  have G_vW := hide (F_vW.out.later hb)
  have G_vG := hide (F_vG.out.later hb)
  have G_R := hide (F_R.out.later hb)
  have BC := hide (below_on BB.out hb)
  have z_w13 : w12.heap.size ≤ w13.heap.size := by have := hb.size; simpa using this
  have N_t0 := hide (ho.iv)
  clear F_W
  have F_W := G_W
  clear G_W
  clear F_vW
  have F_vW := G_vW
  clear G_vW
  clear F_vG
  have F_vG := G_vG
  clear G_vG
  clear F_R
  have F_R := G_R
  clear G_R
  clear BB
  have BB := BC
  clear BC
  have F_t0 := N_t0
  clear N_t0
  clear hb
  clear ho
  go_wp2_with fail
  refine (HI.out _ _ _ F_t0.out.rd).mono ?_
  rintro e w14 ⟨yH, zH, rfl, hb, ho⟩
  obtain ⟨aoH, cH, boH, dH, hyH, hzH⟩ := ho.shape
  rw [HLr.out] at hyH
  rw [HMr.out] at hzH
  subst hyH
  subst hzH
  have G_W := hide (F_W.out.later hb)
  have G_vW := hide (F_vW.out.later hb)
  have G_vG := hide (F_vG.out.later hb)
  have G_R := hide (F_R.out.later hb)
  have G_t0 := hide (F_t0.out.later hb)
  have BC := hide (below_on BB.out hb)
  have z_w14 : w13.heap.size ≤ w14.heap.size := by have := hb.size; simpa using this
  have N_H := hide (ho)
  clear F_W
  have F_W := G_W
  clear G_W
  clear F_vW
  have F_vW := G_vW
  clear G_vW
  clear F_vG
  have F_vG := G_vG
  clear G_vG
  clear F_R
  have F_R := G_R
  clear G_R
  clear F_t0
  have F_t0 := G_t0
  clear G_t0
  clear BB
  have BB := BC
  clear BC
  have F_H := N_H
  clear N_H
  clear hb
  clear ho
  clear F_t0
  have qlt := F_vW.out.lt
  obtain ⟨q0, q1, q2, q3, q4, q5, q6⟩ := F_vW.out
  (try simp only [Nat.add_zero] at qlt)
  go_wp2_with fail
  refine (eqRaftResult (r := ⟨rq0, rq1, rq2, rq3, rs, rp⟩) (F_H.out.later (below_alloc _ (.cells #[.int .i64 code, .int .i64 rq0, .int .i64 rq1, .int .i64 rq2, .int .i64 rq3, .slice aoH lr cH, .slice boH mr dH] 43))).rdI (F_H.out.later (below_alloc _ (.cells #[.int .i64 code, .int .i64 rq0, .int .i64 rq1, .int .i64 rq2, .int .i64 rq3, .slice aoH lr cH, .slice boH mr dH] 43))).rdJ (F_W.out.later (below_alloc _ (.cells #[.int .i64 code, .int .i64 rq0, .int .i64 rq1, .int .i64 rq2, .int .i64 rq3, .slice aoH lr cH, .slice boH mr dH] 43))).rdI (F_W.out.later (below_alloc _ (.cells #[.int .i64 code, .int .i64 rq0, .int .i64 rq1, .int .i64 rq2, .int .i64 rq3, .slice aoH lr cH, .slice boH mr dH] 43))).rdJ).mono ?_
  rintro e w15 ⟨rfl, hb⟩
  have G_W := hide ((F_W.out.later (below_alloc _ (.cells #[.int .i64 code, .int .i64 rq0, .int .i64 rq1, .int .i64 rq2, .int .i64 rq3, .slice aoH lr cH, .slice boH mr dH] 43))).later hb)
  have G_vW := hide ((F_vW.out.later (below_alloc _ (.cells #[.int .i64 code, .int .i64 rq0, .int .i64 rq1, .int .i64 rq2, .int .i64 rq3, .slice aoH lr cH, .slice boH mr dH] 43))).later hb)
  have G_vG := hide ((F_vG.out.later (below_alloc _ (.cells #[.int .i64 code, .int .i64 rq0, .int .i64 rq1, .int .i64 rq2, .int .i64 rq3, .slice aoH lr cH, .slice boH mr dH] 43))).later hb)
  have G_R := hide ((F_R.out.later (below_alloc _ (.cells #[.int .i64 code, .int .i64 rq0, .int .i64 rq1, .int .i64 rq2, .int .i64 rq3, .slice aoH lr cH, .slice boH mr dH] 43))).later hb)
  have G_H := hide ((F_H.out.later (below_alloc _ (.cells #[.int .i64 code, .int .i64 rq0, .int .i64 rq1, .int .i64 rq2, .int .i64 rq3, .slice aoH lr cH, .slice boH mr dH] 43))).later hb)
  have BC := hide (below_on (below_on BB.out (below_alloc _ (.cells #[.int .i64 code, .int .i64 rq0, .int .i64 rq1, .int .i64 rq2, .int .i64 rq3, .slice aoH lr cH, .slice boH mr dH] 43))) hb)
  have z_w15 : w14.heap.size + 1 ≤ w15.heap.size := by have := hb.size; simpa using this
  have N_vH := hide ((Var7_new w14 (.int .i64 code) (.int .i64 rq0) (.int .i64 rq1) (.int .i64 rq2) (.int .i64 rq3) (.slice aoH lr cH) (.slice boH mr dH) 43).later hb)
  clear qlt q0 q1 q2 q3 q4 q5 q6
  clear F_W
  have F_W := G_W
  clear G_W
  clear F_vW
  have F_vW := G_vW
  clear G_vW
  clear F_vG
  have F_vG := G_vG
  clear G_vG
  clear F_R
  have F_R := G_R
  clear G_R
  clear F_H
  have F_H := G_H
  clear G_H
  clear BB
  have BB := BC
  clear BC
  have F_vH := N_vH
  clear N_vH
  clear hb
  clear F_H
  clear F_W
  clear F_vH
  clear F_vW
  have plt := F_vG.out.lt
  obtain ⟨p0, p1, p2, p3, p4, p5, p6⟩ := F_vG.out
  (try simp only [Nat.add_zero] at plt)
  go_wp2_with fail
  refine (heldRaftResult rq0 rq1 rq2 rq3 F_R.out (by omega) HRB.out).mono ?_
  rintro e w16 ⟨he, hb⟩
  rw [HMe.out] at he
  subst he
  have G_vG := hide (F_vG.out.later hb)
  have G_R := hide (F_R.out.later hb)
  have BC := hide (below_on BB.out hb)
  have z_w16 : w15.heap.size ≤ w16.heap.size := by have := hb.size; simpa using this
  clear plt p0 p1 p2 p3 p4 p5 p6
  clear F_vG
  have F_vG := G_vG
  clear G_vG
  clear F_R
  have F_R := G_R
  clear G_R
  clear BB
  have BB := BC
  clear BC
  clear hb
  go_wp2
  go_ret
  exact ⟨rfl, BB.out⟩
end Go.Proofs.YtlmaopljihbdkaaGreat
/- A struct of two numbers and a list (a file, an entry) that lies somewhere in memory. -/
namespace Go.Proofs.YtlmaopljihbdkaaGreat
open Go.RowKit

/-- A file lies at the cell off of block b. -/
def RdFp (S : Nat → Prop) (w : World) (b off : Nat) (p : Oj) : Prop :=
  ∃ y, w.cell? ⟨b, off, none⟩ = some (.int .i64 p.1) ∧ w.cell? ⟨b, off + 1, none⟩ = some (.int .i64 p.2.1) ∧ w.cell? ⟨b, off + 2, none⟩ = some y ∧ RdI S w y p.2.2
theorem RdFp.later {S : Nat → Prop} {w w' : World} {b off : Nat} {p : Oj} (h : RdFp S w b off p) (hb : Below w.heap.size w w') : RdFp S w' b off p := by
  obtain ⟨y, h0, h1, h2, h3⟩ := h
  exact ⟨y, cell_later hb h0, cell_later hb h1, cell_later hb h2, h3.later hb⟩
theorem RdJ.file {S : Nat → Prop} {w : World} {ao : Option Addr} {n c : Nat} {fs : List Oj} (h : RdJ S w (.slice ao n c) fs) {k : Nat} (hk : k < fs.length) : ∃ b off, ao = some ⟨b, off, none⟩ ∧ RdFp S w b (off + k * 3) (fs.getD k oj0) := by
  obtain ⟨ao', c', e, hm, h⟩ := h
  injection e with e1 e2 e3
  obtain ⟨b, off, V, e4, _, hc⟩ := h (by rintro rfl; exact absurd hk (Nat.not_lt_zero _))
  obtain ⟨q0, q1, q2, q3⟩ := hc k hk
  exact ⟨b, off, e1.trans e4, V k, q0, q1, q2, q3⟩
theorem ret_intF {a b : Int} (h : a = b) : Ending.returned (.int .i64 a) = .returned (.int .i64 b) := by rw [h]
end Go.Proofs.YtlmaopljihbdkaaGreat
